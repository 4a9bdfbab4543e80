package disk

import (
	"fmt"
	"math"
	"slices"
	"strings"
	"testing"

	"almanac/api"
)

// made is a disk of that quota.
func made(t *testing.T, quota int) *Disk {
	t.Helper()
	d, err := New(quota)
	if err != api.OK || d == nil {
		t.Fatalf("New(%d) is %v, %d", quota, d, err)
	}
	return d
}

// well fails unless all of these are OK.
func well(t *testing.T, errs ...api.Errno) {
	t.Helper()
	for i, err := range errs {
		if err != api.OK {
			t.Fatalf("call %d is %d", i, err)
		}
	}
}

// put gives a disk a file with durable bytes, and with others behind them.
func put(t *testing.T, d *Disk, name, durable, loose string) {
	t.Helper()
	well(t, d.Create(name), d.Append(name, []byte(durable)), d.Sync(name), d.Append(name, []byte(loose)))
}

// shown is all that a disk whose power is on tells of its files: for each its name and its bytes, with a bar behind the durable ones.
func shown(t *testing.T, d *Disk) string {
	t.Helper()
	var files []string
	used := 0
	for _, name := range d.Names() {
		b, err := d.Read(name)
		n, err2 := d.Safe(name)
		well(t, err, err2)
		used += len(b)
		files = append(files, fmt.Sprintf("%s:%s|%s", name, b[:n], b[n:]))
	}
	if d.Used() != used {
		t.Errorf("Used is %d, not %d", d.Used(), used)
	}
	return strings.Join(files, " ")
}

// shows fails unless the disk's files are those, as shown tells them.
func shows(t *testing.T, d *Disk, want string) {
	t.Helper()
	if got := shown(t, d); got != want {
		t.Errorf("the files are %q, not %q", got, want)
	}
}

// named is a call, and its name.
type named struct {
	name string
	do   func(d *Disk) api.Errno
}

// steps are calls that are steps of a disk that has files a and b.
func steps() []named {
	return []named{
		{"Create", func(d *Disk) api.Errno { return d.Create("new") }},
		{"Append", func(d *Disk) api.Errno { return d.Append("a", []byte("x")) }},
		{"Append of nothing", func(d *Disk) api.Errno { return d.Append("a", nil) }},
		{"Sync", func(d *Disk) api.Errno { return d.Sync("a") }},
		{"Sync of what is durable", func(d *Disk) api.Errno { return d.Sync("b") }},
		{"Rename", func(d *Disk) api.Errno { return d.Rename("a", "b") }},
		{"Rename to itself", func(d *Disk) api.Errno { return d.Rename("a", "a") }},
		{"Truncate", func(d *Disk) api.Errno { return d.Truncate("a", 1) }},
		{"Truncate of nothing", func(d *Disk) api.Errno { return d.Truncate("b", 2) }},
		{"Remove", func(d *Disk) api.Errno { return d.Remove("a") }},
	}
}

// reads are calls that tell of one file.
func reads(name string) []named {
	return []named{
		{"Read", func(d *Disk) api.Errno {
			b, err := d.Read(name)
			if err != api.OK && len(b) > 0 {
				return -1
			}
			return err
		}},
		{"Safe", func(d *Disk) api.Errno {
			n, err := d.Safe(name)
			if err != api.OK && n != 0 {
				return -1
			}
			return err
		}},
	}
}

// ofFile are all calls that ask for a file of that name.
func ofFile(name string) []named {
	return append(reads(name), []named{
		{"Append", func(d *Disk) api.Errno { return d.Append(name, nil) }},
		{"Append of too much", func(d *Disk) api.Errno { return d.Append(name, make([]byte, 1000)) }},
		{"Sync", func(d *Disk) api.Errno { return d.Sync(name) }},
		{"Rename", func(d *Disk) api.Errno { return d.Rename(name, "a") }},
		{"Rename to itself", func(d *Disk) api.Errno { return d.Rename(name, name) }},
		{"Truncate", func(d *Disk) api.Errno { return d.Truncate(name, 0) }},
		{"Truncate by too much", func(d *Disk) api.Errno { return d.Truncate(name, 1000) }},
		{"Truncate by less than nothing", func(d *Disk) api.Errno { return d.Truncate(name, -1) }},
		{"Remove", func(d *Disk) api.Errno { return d.Remove(name) }},
	}...)
}

// wrong are names that are not file names.
func wrong() []string {
	return []string{"", "A", "?", "a b", "a/b", "_", "a\x00", "\xff", "ä", "aA", "Aa", strings.Repeat("a", 33), strings.Repeat("a", 1000)}
}

// The examples of the chapter.
func TestExamples(t *testing.T) {
	d := made(t, 10)
	well(t, d.Create("a"), d.Append("a", []byte("abc")), d.Sync("a"), d.Append("a", []byte("defg")))
	well(t, d.Crash([]uint16{2}, []byte{1}))
	shows(t, d, "a:abcdd|")
	if err := d.Append("a", []byte("123456")); err != api.ErrFull {
		t.Errorf("Append is %d", err)
	}
	well(t, d.Fuse(1), d.Create("b"))
	if err := d.Create("c"); err != api.ErrOff {
		t.Errorf("Create is %d", err)
	}
	if b, err := d.Read("a"); err != api.ErrOff || len(b) > 0 {
		t.Errorf("Read is %q, %d", b, err)
	}
}

// P8.1: which quotas there are, and what a new disk is.
func TestNew(t *testing.T) {
	for _, quota := range []int{0, 1, 7, api.MaxBytes - 1, api.MaxBytes} {
		d := made(t, quota)
		if !d.On() || len(d.Names()) != 0 || d.Used() != 0 {
			t.Errorf("New(%d) is on: %v, has %v, %d bytes", quota, d.On(), d.Names(), d.Used())
		}
		for range 100 {
			well(t, d.Create("a"), d.Remove("a"))
		}
		well(t, d.Create("a"), d.Append("a", make([]byte, quota)))
		if err := d.Append("a", []byte{1}); err != api.ErrFull {
			t.Errorf("New(%d): Append of one byte too many is %d", quota, err)
		}
	}
	for _, quota := range []int{-1, math.MinInt, api.MaxBytes + 1, math.MaxInt} {
		if d, err := New(quota); d != nil || err != api.ErrArg {
			t.Errorf("New(%d) is %v, %d", quota, d, err)
		}
	}
	a, b := made(t, 9), made(t, 9)
	well(t, a.Create("a"))
	shows(t, b, "")
}

// P8.1: file names, of one byte, of many, and with each byte at each place.
func TestName(t *testing.T) {
	const allowed = "abcdefghijklmnopqrstuvwxyz0123456789-."
	for c := range 256 {
		s, want := string([]byte{byte(c)}), strings.IndexByte(allowed, byte(c)) >= 0
		if Name(s) != want {
			t.Errorf("Name(%q) is %v", s, !want)
		}
		for n := 1; n <= 32; n++ {
			for at := range n {
				long := strings.Repeat("z", at) + s + strings.Repeat(".", n-at-1)
				if Name(long) != want {
					t.Errorf("Name(%q) is %v", long, !want)
				}
			}
		}
	}
	for n := range 70 {
		if got, want := Name(strings.Repeat("a", n)), n >= 1 && n <= 32; got != want {
			t.Errorf("Name of %d bytes is %v", n, got)
		}
	}
	for _, s := range append(wrong(), "ſ", "٣", "a\n", "－") {
		if Name(s) {
			t.Errorf("Name(%q) is true", s)
		}
	}
	for _, s := range []string{"check", "check-new", "seg-0000000001", ".", "..", "-", "0", allowed[:32]} {
		if !Name(s) {
			t.Errorf("Name(%q) is false", s)
		}
	}
}

// P8.1: names come in ascending order of their bytes, in a slice of their own.
func TestNames(t *testing.T) {
	d := made(t, 9)
	for _, s := range []string{"b", "a", "z", "0", "a.", "a-", "a0", "aa", "-", ".", "9", "10", "ab", "b-"} {
		well(t, d.Create(s))
	}
	want := []string{"-", ".", "0", "10", "9", "a", "a-", "a.", "a0", "aa", "ab", "b", "b-", "z"}
	for range 20 {
		got := d.Names()
		if !slices.Equal(got, want) {
			t.Fatalf("Names is %v", got)
		}
		slices.Reverse(got)
	}
}

// ErrNil, ahead of all else: a nil disk, and one that New did not make.
func TestNotMade(t *testing.T) {
	var none *Disk
	for name, d := range map[string]*Disk{"nil": none, "not made": {}, "copy of nil": none.Copy(), "copy of one not made": new(Disk).Copy()} {
		calls := append(steps(), ofFile("a")...)
		for _, w := range wrong() {
			calls = append(calls, ofFile(w)...)
			calls = append(calls, named{"Create", func(d *Disk) api.Errno { return d.Create(w) }})
		}
		for _, n := range []int{math.MinInt, -2, -1, 0, 1, api.MaxBytes + 1, math.MaxInt} {
			calls = append(calls, named{"Quota", func(d *Disk) api.Errno { return d.Quota(n) }}, named{"Fuse", func(d *Disk) api.Errno { return d.Fuse(n) }})
		}
		calls = append(calls, named{"Crash", func(d *Disk) api.Errno { return d.Crash([]uint16{1}, []byte{1}) }})
		for _, c := range calls {
			if err := c.do(d); err != api.ErrNil {
				t.Errorf("%s: %s is %d", name, c.name, err)
			}
		}
		if d.On() || len(d.Names()) != 0 || d.Used() != 0 {
			t.Errorf("%s: is on: %v, has %v, %d bytes", name, d.On(), d.Names(), d.Used())
		}
	}
	if none.Copy() != nil {
		t.Error("a copy of nil is not nil")
	}
}

// dark is a disk with files whose power is off.
func dark(t *testing.T) *Disk {
	t.Helper()
	d := made(t, 20)
	put(t, d, "a", "abc", "def")
	put(t, d, "b", "gh", "")
	well(t, d.Fuse(0))
	if err := d.Sync("a"); err != api.ErrOff {
		t.Fatalf("Sync is %d", err)
	}
	return d
}

// P8.1, P8.4: what is told and refused while the power is off, ahead of all but ErrNil; and that all is there still.
func TestOff(t *testing.T) {
	d := dark(t)
	calls := append(steps(), ofFile("a")...)
	for _, s := range append(wrong(), "none") {
		calls = append(calls, ofFile(s)...)
		calls = append(calls, named{"Create", func(d *Disk) api.Errno { return d.Create(s) }})
	}
	for _, n := range []int{math.MinInt, -2, -1, 0, 1} {
		calls = append(calls, named{"Fuse", func(d *Disk) api.Errno { return d.Fuse(n) }})
	}
	for _, c := range calls {
		if err := c.do(d); err != api.ErrOff {
			t.Errorf("%s is %d", c.name, err)
		}
		if d.On() || len(d.Names()) != 0 || d.Used() != 0 {
			t.Errorf("after %s: is on: %v, has %v, %d bytes", c.name, d.On(), d.Names(), d.Used())
		}
	}
	well(t, d.Crash([]uint16{3}, nil))
	if !d.On() {
		t.Error("the power is off after a Crash")
	}
	shows(t, d, "a:abcdef| b:gh|")
	for range 100 { // neither the burnt fuse nor one that was refused is there
		well(t, d.Sync("a"))
	}
}

// P8.3: Read and Safe, and that what is read is new memory.
func TestRead(t *testing.T) {
	d := made(t, 20)
	put(t, d, "a", "abc", "de")
	well(t, d.Create("b"))
	for name, want := range map[string]string{"a": "abcde", "b": ""} {
		if b, err := d.Read(name); err != api.OK || string(b) != want {
			t.Errorf("Read(%s) is %q, %d", name, b, err)
		}
	}
	for name, want := range map[string]int{"a": 3, "b": 0} {
		if n, err := d.Safe(name); err != api.OK || n != want {
			t.Errorf("Safe(%s) is %d, %d", name, n, err)
		}
	}
	for s, want := range map[string]api.Errno{"c": api.ErrNone, "A": api.ErrArg, "": api.ErrArg} {
		for _, c := range reads(s) {
			if err := c.do(d); err != want {
				t.Errorf("%s(%q) is %d", c.name, s, err)
			}
		}
	}
	x, _ := d.Read("a")
	y, _ := d.Read("a")
	for i := range x {
		x[i] = '!'
	}
	_ = append(x, "more"...)
	well(t, d.Append("a", []byte("fg")), d.Truncate("a", 1), d.Append("a", []byte("hij")))
	if string(y) != "abcde" || string(x) != "!!!!!" {
		t.Errorf("what was read became %q and %q", x, y)
	}
	shows(t, d, "a:a|hij b:|")
}

// P8.4: which quotas may be set, and what a quota below the bytes that are there does.
func TestQuota(t *testing.T) {
	d := made(t, 6)
	put(t, d, "a", "abc", "d")
	put(t, d, "b", "e", "")
	for _, n := range []int{-1, math.MinInt, api.MaxBytes + 1, math.MaxInt} {
		if err := d.Quota(n); err != api.ErrArg {
			t.Errorf("Quota(%d) is %d", n, err)
		}
	}
	if err := d.Append("b", []byte("12")); err != api.ErrFull {
		t.Errorf("a quota that was refused was set: Append is %d", err)
	}
	well(t, d.Append("b", []byte("f")))
	well(t, d.Quota(7), d.Append("a", []byte("g")))
	for _, n := range []int{6, 1, 0} {
		well(t, d.Quota(n))
		shows(t, d, "a:abc|dg b:e|f")
		for _, b := range [][]byte{nil, {}, {1}} {
			if err := d.Append("b", b); err != api.ErrFull {
				t.Errorf("Append of %d bytes beyond a quota of %d is %d", len(b), n, err)
			}
		}
		well(t, d.Sync("b"), d.Truncate("b", 2), d.Rename("b", "c"), d.Create("e"), d.Remove("e"), d.Rename("c", "b"))
		well(t, d.Remove("b"), d.Quota(7), d.Create("b"), d.Append("b", []byte("e")), d.Sync("b"), d.Append("b", []byte("f")))
	}
	well(t, d.Quota(api.MaxBytes), d.Append("a", make([]byte, api.MaxBytes-7)))
	if err := d.Append("a", []byte{1}); err != api.ErrFull {
		t.Errorf("Append beyond MaxBytes is %d", err)
	}
	if d.Used() != api.MaxBytes {
		t.Errorf("Used is %d", d.Used())
	}
}

// P8.4: a quota is set also while the power is off, which it leaves off.
func TestQuotaOff(t *testing.T) {
	d := dark(t)
	for _, n := range []int{-1, api.MaxBytes + 1} {
		if err := d.Quota(n); err != api.ErrArg {
			t.Errorf("Quota(%d) is %d", n, err)
		}
	}
	well(t, d.Quota(9))
	if d.On() {
		t.Error("the quota turned the power on")
	}
	well(t, d.Crash([]uint16{3}, nil))
	well(t, d.Append("a", []byte("1")))
	if err := d.Append("a", []byte("2")); err != api.ErrFull {
		t.Errorf("Append is %d", err)
	}
}

// P8.4: which fuses there are.
func TestFuse(t *testing.T) {
	d := made(t, 9)
	well(t, d.Create("a"), d.Fuse(2))
	for _, n := range []int{-2, -3, math.MinInt} {
		if err := d.Fuse(n); err != api.ErrArg {
			t.Errorf("Fuse(%d) is %d", n, err)
		}
	}
	well(t, d.Sync("a"), d.Sync("a")) // the fuse is that of 2 still
	if err := d.Sync("a"); err != api.ErrOff {
		t.Errorf("Sync behind a fuse of 2 is %d", err)
	}
	well(t, d.Crash(nil, nil))
	for _, n := range []int{-1, 100, math.MaxInt} {
		well(t, d.Fuse(0), d.Fuse(n))
		for range 100 {
			well(t, d.Sync("a"))
		}
	}
	well(t, d.Fuse(0), d.Crash(nil, nil)) // a Crash removes a fuse while the power is on, too
	for range 100 {
		well(t, d.Sync("a"))
	}
}

// A fuse of n lets n steps be carried out, whichever they are, and turns the power off at the next one.
func TestFuseSteps(t *testing.T) {
	for _, s := range steps() {
		for n := range 4 {
			d := made(t, 20)
			put(t, d, "a", "abc", "de")
			put(t, d, "b", "fg", "")
			well(t, d.Fuse(n))
			for range n {
				well(t, d.Sync("b"))
			}
			before := shown(t, d)
			if err := s.do(d); err != api.ErrOff || d.On() {
				t.Errorf("%s is %d behind a fuse of %d, is on: %v", s.name, err, n, d.On())
			}
			d.Crash([]uint16{2}, nil)
			if got, want := shown(t, d), strings.Replace(before, "|de", "de|", 1); got != want {
				t.Errorf("%s was carried out without power: %q, not %q", s.name, got, want)
			}
		}
		d := made(t, 20)
		put(t, d, "a", "abc", "de")
		put(t, d, "b", "fg", "")
		well(t, d.Fuse(1), s.do(d))
		if err := d.Sync("b"); err != api.ErrOff {
			t.Errorf("%s did not take a step of the fuse: Sync is %d", s.name, err)
		}
	}
}

// Calls that are no steps, and those that return another error, leave a fuse as it is.
func TestFuseStays(t *testing.T) {
	d := made(t, 9)
	put(t, d, "a", "abc", "def")
	calls := append(ofFile("none"), ofFile("?")...)
	calls = append(calls, reads("a")...)
	calls = append(calls, []named{
		{"Create", func(d *Disk) api.Errno { return d.Create("a") }},
		{"Create", func(d *Disk) api.Errno { return d.Create("?") }},
		{"Append", func(d *Disk) api.Errno { return d.Append("a", make([]byte, 4)) }},
		{"Rename", func(d *Disk) api.Errno { return d.Rename("a", "?") }},
		{"Truncate", func(d *Disk) api.Errno { return d.Truncate("a", 7) }},
		{"Truncate", func(d *Disk) api.Errno { return d.Truncate("a", -1) }},
		{"Quota", func(d *Disk) api.Errno { return d.Quota(9) }},
		{"Quota", func(d *Disk) api.Errno { return d.Quota(-1) }},
		{"Fuse", func(d *Disk) api.Errno { return d.Fuse(-2) }},
		{"On, Names, Used, Copy", func(d *Disk) api.Errno { d.On(); d.Names(); d.Used(); return d.Copy().Sync("a") }},
	}...)
	for n := range 2 {
		well(t, d.Fuse(n))
		for _, c := range calls {
			if err := c.do(d); err == api.ErrOff && !strings.Contains(c.name, "Copy") || !d.On() {
				t.Fatalf("%s is %d with a fuse of %d", c.name, err, n)
			}
		}
		shows(t, d, "a:abc|def")
		for range n {
			well(t, d.Append("a", nil))
		}
		if err := d.Append("a", nil); err != api.ErrOff {
			t.Errorf("Append behind a fuse of %d is %d", n, err)
		}
		d.Crash([]uint16{3}, nil)
		well(t, d.Truncate("a", 3), d.Append("a", []byte("def")))
	}
}

// P8.1: a copy and its original have the same contents and state, and don't know of each other.
func TestCopy(t *testing.T) {
	d := made(t, 9)
	put(t, d, "a", "abc", "de")
	put(t, d, "b", "f", "g")
	c := d.Copy()
	well(t, d.Append("a", []byte("1")), d.Append("b", []byte("2")), d.Sync("a"), d.Create("d"))
	shows(t, c, "a:abc|de b:f|g")
	well(t, c.Append("a", []byte("xy")), c.Remove("b"), c.Rename("a", "z"), c.Quota(3), c.Fuse(0))
	shows(t, d, "a:abcde1| b:f|g2 d:|")
	shows(t, c, "z:abc|dexy")
	well(t, d.Truncate("a", 0), d.Append("a", []byte("!!!!!!")))
	shows(t, c, "z:abc|dexy")
	if err := c.Sync("z"); err != api.ErrOff || !d.On() {
		t.Errorf("Sync is %d, the original is on: %v", err, d.On())
	}
	e := c.Copy()
	if e.On() {
		t.Error("a copy of a disk without power has power")
	}
	well(t, e.Crash([]uint16{9}, nil), d.Sync("a"))
	shows(t, e, "z:abcdexy|")
	if c.On() {
		t.Error("a Crash of a copy turned the original on")
	}
	well(t, c.Crash(nil, nil))
	shows(t, c, "z:abc|")
	if err := c.Append("z", nil); err != api.OK {
		t.Errorf("Append is %d", err)
	}
	if err := e.Append("z", nil); err != api.ErrFull {
		t.Errorf("a copy has another quota: Append is %d", err)
	}
}

// P8.1: a fuse is copied, and burns on its own.
func TestCopyFuse(t *testing.T) {
	d := made(t, 9)
	well(t, d.Create("a"), d.Fuse(2), d.Sync("a"))
	c := d.Copy()
	well(t, d.Sync("a"))
	if err := d.Sync("a"); err != api.ErrOff {
		t.Errorf("Sync is %d", err)
	}
	well(t, c.Sync("a"))
	if err := c.Sync("a"); err != api.ErrOff {
		t.Errorf("Sync of the copy is %d", err)
	}
}

// A struct that is assigned is the same disk.
func TestAssigned(t *testing.T) {
	d := made(t, 9)
	same := *d
	put(t, d, "a", "abc", "d")
	shows(t, &same, "a:abc|d")
	well(t, same.Fuse(0))
	if err := d.Sync("a"); err != api.ErrOff || same.On() {
		t.Errorf("Sync is %d, the other is on: %v", err, same.On())
	}
}
