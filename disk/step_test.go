package disk

import (
	"bytes"
	"fmt"
	"math"
	"strings"
	"testing"

	"almanac/api"
)

// P8.2: each call refuses what is not a file name, ahead of the errors behind ErrArg; also the second name of Rename.
func TestWrongNames(t *testing.T) {
	d := made(t, 9)
	put(t, d, "a", "abc", "d")
	for _, w := range wrong() {
		calls := ofFile(w)
		calls = append(calls, []named{
			{"Create", func(d *Disk) api.Errno { return d.Create(w) }},
			{"Rename to", func(d *Disk) api.Errno { return d.Rename("a", w) }},
			{"Rename of none to", func(d *Disk) api.Errno { return d.Rename("none", w) }},
		}...)
		for _, c := range calls {
			if err := c.do(d); err != api.ErrArg {
				t.Errorf("%s %q is %d", c.name, w, err)
			}
		}
	}
	shows(t, d, "a:abc|d")
}

// P8.2: each call but Create returns ErrNone where there is no such file, ahead of the errors behind it.
func TestNone(t *testing.T) {
	d := made(t, 9)
	put(t, d, "a", "abc", "d")
	for _, s := range []string{"b", "aa", "none", strings.Repeat("a", 32)} {
		for _, c := range ofFile(s) {
			if err := c.do(d); err != api.ErrNone {
				t.Errorf("%s %q is %d", c.name, s, err)
			}
		}
	}
	shows(t, d, "a:abc|d")
}

// P8.2: Create.
func TestCreate(t *testing.T) {
	d := made(t, 9)
	put(t, d, "a", "abc", "d")
	if err := d.Create("a"); err != api.ErrThere {
		t.Errorf("Create of what exists is %d", err)
	}
	long := strings.Repeat("-", 32)
	well(t, d.Create("b"), d.Create(long))
	shows(t, d, long+":| a:abc|d b:|")
	well(t, d.Crash(nil, nil)) // a name is durable as soon as it is there
	shows(t, d, long+":| a:abc| b:|")
}

// P8.2: there are at most MaxFiles files.
func TestManyFiles(t *testing.T) {
	d := made(t, 0)
	for i := range api.MaxFiles {
		well(t, d.Create(fmt.Sprint(i)))
	}
	for name, want := range map[string]api.Errno{"new": api.ErrFull, "7": api.ErrThere, "NEW": api.ErrArg} {
		if err := d.Create(name); err != want {
			t.Errorf("Create(%s) is %d", name, err)
		}
	}
	if len(d.Names()) != 512 {
		t.Errorf("there are %d files", len(d.Names()))
	}
	well(t, d.Rename("7", "seven")) // it needs no place
	if err := d.Create("new"); err != api.ErrFull {
		t.Errorf("Create is %d", err)
	}
	well(t, d.Rename("8", "9"), d.Create("new")) // it leaves one
	if err := d.Create("newer"); err != api.ErrFull {
		t.Errorf("Create is %d", err)
	}
	well(t, d.Remove("seven"), d.Create("newer"), d.Fuse(0))
	if err := d.Create("newest"); err != api.ErrFull || !d.On() {
		t.Errorf("Create is %d, ahead of a fuse", err)
	}
}

// P8.2: Append, up to the quota for all files together.
func TestAppend(t *testing.T) {
	d := made(t, 6)
	put(t, d, "a", "ab", "c")
	put(t, d, "b", "d", "")
	for n, want := range []api.Errno{api.OK, api.OK, api.OK, api.ErrFull, api.ErrFull} {
		c := d.Copy()
		if err := c.Append("b", make([]byte, n)); err != want {
			t.Errorf("Append of %d bytes where there is room for 2 is %d", n, err)
		}
		if want != api.OK {
			shows(t, c, "a:ab|c b:d|")
		}
	}
	well(t, d.Append("a", nil), d.Append("a", []byte{}), d.Append("a", []byte("e")), d.Append("b", []byte("f")))
	shows(t, d, "a:ab|ce b:d|f")
	well(t, d.Append("a", nil))
	well(t, d.Truncate("a", 1), d.Append("b", []byte("ghi")))
	shows(t, d, "a:a| b:d|fghi")
	well(t, d.Remove("b"), d.Append("a", []byte("jklmn")))
	shows(t, d, "a:a|jklmn")
}

// R3: the bytes that are appended are not changed, and not retained.
func TestAppendKeepsNothing(t *testing.T) {
	d := made(t, 20)
	b := []byte("abcdef")
	part := b[:3]
	well(t, d.Create("a"), d.Append("a", part), d.Append("a", []byte("xyz")))
	if string(b) != "abcdef" {
		t.Errorf("what was appended became %q", b)
	}
	copy(b, "123456")
	shows(t, d, "a:|abcxyz")
	well(t, d.Crash([]uint16{3}, []byte{255}))
	if string(b) != "123456" {
		t.Errorf("what was appended became %q", b)
	}
}

// P8.2: Sync makes durable what is there, of one file, and nothing behind it.
func TestSync(t *testing.T) {
	d := made(t, 20)
	put(t, d, "a", "ab", "c")
	put(t, d, "b", "d", "e")
	well(t, d.Sync("a"))
	shows(t, d, "a:abc| b:d|e")
	well(t, d.Append("a", []byte("f")))
	shows(t, d, "a:abc|f b:d|e")
	well(t, d.Sync("b"), d.Sync("b"))
	shows(t, d, "a:abc|f b:de|")
	well(t, d.Crash(nil, nil))
	shows(t, d, "a:abc| b:de|")
}

// P8.2: Rename takes along what is in the file, removes the file that had the name, and does nothing to the same name.
func TestRename(t *testing.T) {
	d := made(t, 20)
	put(t, d, "a", "ab", "c")
	put(t, d, "b", "defg", "")
	put(t, d, "c", "", "h")
	well(t, d.Rename("a", "a"), d.Rename("b", "b"))
	shows(t, d, "a:ab|c b:defg| c:|h")
	well(t, d.Rename("a", "z"))
	shows(t, d, "b:defg| c:|h z:ab|c")
	well(t, d.Rename("z", "b"))
	shows(t, d, "b:ab|c c:|h")
	well(t, d.Append("b", []byte("1")), d.Create("z"), d.Append("z", []byte("2")))
	shows(t, d, "b:ab|c1 c:|h z:|2")
	well(t, d.Rename("c", "new"), d.Crash([]uint16{1, 1, 0}, nil)) // a name is durable as soon as it is there
	shows(t, d, "b:abc| new:h| z:|")
	if err := d.Rename("c", "new"); err != api.ErrNone {
		t.Errorf("Rename of what is gone is %d", err)
	}
}

// P8.2: Truncate, at all sizes, and that what was durable of what stays, stays durable.
func TestTruncate(t *testing.T) {
	for size, want := range map[int]string{0: "a:|", 1: "a:a|", 2: "a:ab|", 3: "a:ab|c", 4: "a:ab|cd"} {
		d := made(t, 9)
		put(t, d, "a", "ab", "cd")
		well(t, d.Truncate("a", size))
		shows(t, d, want)
		well(t, d.Append("a", []byte("xyz")))
		shows(t, d, want+"xyz")
		well(t, d.Crash(nil, nil))
		shows(t, d, want[:strings.Index(want, "|")]+"|")
	}
	d := made(t, 9)
	put(t, d, "a", "ab", "cd")
	for _, size := range []int{-1, math.MinInt, 5, 9, math.MaxInt} {
		if err := d.Truncate("a", size); err != api.ErrArg {
			t.Errorf("Truncate by %d is %d", size, err)
		}
	}
	shows(t, d, "a:ab|cd")
	well(t, d.Create("b"), d.Truncate("b", 0))
	if err := d.Truncate("b", 1); err != api.ErrArg {
		t.Errorf("Truncate of an empty file by 1 is %d", err)
	}
}

// P8.2: Remove, for good.
func TestRemove(t *testing.T) {
	d := made(t, 9)
	put(t, d, "a", "ab", "cd")
	put(t, d, "b", "e", "f")
	well(t, d.Remove("a"))
	shows(t, d, "b:e|f")
	if err := d.Remove("a"); err != api.ErrNone {
		t.Errorf("Remove of what is gone is %d", err)
	}
	well(t, d.Crash([]uint16{1}, nil))
	shows(t, d, "b:ef|")
	well(t, d.Create("a"))
	shows(t, d, "a:| b:ef|")
}

// P8.5: what a Crash keeps of one file.
func TestCrash(t *testing.T) {
	for _, x := range []struct {
		picks []uint16
		turns []byte
		want  string
	}{
		{nil, nil, "a:ab|"},
		{nil, []byte{255}, "a:ab|"},
		{[]uint16{0}, []byte{255}, "a:ab|"},
		{[]uint16{1}, nil, "a:abc|"},
		{[]uint16{1}, []byte{}, "a:abc|"},
		{[]uint16{1}, []byte{0}, "a:abc|"},
		{[]uint16{1}, []byte{'c' ^ 'C'}, "a:abC|"},
		{[]uint16{3}, []byte{1, 2, 3}, "a:abcdd|"},
		{[]uint16{4}, []byte{255}, "a:ab|"},
		{[]uint16{6}, []byte{3}, "a:abcg|"},
		{[]uint16{65535}, nil, "a:abcde|"},
		{[]uint16{65534}, nil, "a:abcd|"},
		{[]uint16{1, 2, 3}, []byte{0, 9}, "a:abc|"},
	} {
		d := made(t, 9)
		put(t, d, "a", "ab", "cde")
		well(t, d.Crash(x.picks, x.turns))
		shows(t, d, x.want)
		if !d.On() {
			t.Error("the power is off")
		}
		well(t, d.Crash([]uint16{1}, []byte{255})) // all is durable by now
		shows(t, d, x.want)
		well(t, d.Append("a", []byte("1")))
		shows(t, d, x.want+"1")
	}
}

// P8.5: only files with bytes that are not durable are numbered, in ascending order of their names.
func TestCrashFiles(t *testing.T) {
	for _, x := range []struct {
		picks []uint16
		turns []byte
		want  string
	}{
		{[]uint16{1, 3, 2}, []byte{0, 0, 0}, "a:| a-:012| b:xy| c:zuv| d:1| e:|"},
		{[]uint16{3, 1}, []byte{1, 2}, "a:| a-:013| b:x{| c:z| d:1| e:|"},
		{[]uint16{0, 1, 1}, []byte{255, 2, 1}, "a:| a-:01| b:x{| c:zt| d:1| e:|"},
		{[]uint16{2, 2, 3}, []byte{1}, "a:| a-:01| b:x| c:zuvw| d:1| e:|"},
		{[]uint16{0, 0, 0, 1, 1, 1}, []byte{1, 1, 1}, "a:| a-:01| b:x| c:z| d:1| e:|"},
		{nil, nil, "a:| a-:01| b:x| c:z| d:1| e:|"},
	} {
		d := made(t, 99)
		put(t, d, "e", "", "")
		put(t, d, "c", "z", "uvw")
		put(t, d, "a", "", "")
		put(t, d, "d", "1", "")
		put(t, d, "b", "x", "y")
		put(t, d, "a-", "01", "2")
		well(t, d.Crash(x.picks, x.turns))
		shows(t, d, x.want)
	}
}

// P8.5: a file with more bytes than a pick can tell.
func TestCrashLong(t *testing.T) {
	body := bytes.Repeat([]byte("0123456789"), 10000)
	for _, pick := range []uint16{0, 1, 9, 65534, 65535} {
		d := made(t, len(body))
		well(t, d.Create("a"), d.Append("a", body), d.Crash([]uint16{pick}, nil))
		if b, err := d.Read("a"); err != api.OK || !bytes.Equal(b, body[:pick]) {
			t.Errorf("of %d bytes %d stay, by the pick %d", len(body), len(b), pick)
		}
	}
	d := made(t, len(body))
	well(t, d.Create("a"), d.Append("a", body[:65535]), d.Crash([]uint16{65535}, nil))
	if b, err := d.Read("a"); err != api.OK || !bytes.Equal(b, body[:65535]) {
		t.Errorf("of 65535 bytes %d stay", len(b))
	}
}

// R3: a Crash changes neither its picks nor its turns.
func TestCrashArguments(t *testing.T) {
	d := made(t, 9)
	put(t, d, "a", "ab", "cde")
	picks, turns := []uint16{7, 9}, []byte{5, 6}
	well(t, d.Crash(picks, turns))
	if picks[0] != 7 || picks[1] != 9 || turns[0] != 5 || turns[1] != 6 {
		t.Errorf("picks are %v, turns %v", picks, turns)
	}
}
