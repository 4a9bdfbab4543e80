package hist

import (
	"math"
	"math/rand"
	"slices"
	"strings"
	"testing"

	"almanac/api"
	"almanac/codec"
	"almanac/disk"
)

// opens fails unless Open of a disk is what the model says: with each fuse, the disk, the error and the log must be what the steps make of them.
func opens(t *testing.T, d *disk.Disk) {
	t.Helper()
	batches, segments, acts, ok := modelOpen(filesOf(d))
	if !ok {
		refuses(t, d)
		return
	}
	for fuse := -1; fuse <= len(acts); fuse++ {
		got, want := d.Copy(), d.Copy()
		well(t, got.Fuse(fuse), want.Fuse(fuse))
		l, err := Open(got)
		if wanted := play(want, acts); err != wanted || seen(got) != seen(want) {
			t.Errorf("of %v with the fuse %d Open is %d, not %d", filesOf(d).names(), fuse, err, wanted)
			return
		}
		if err != api.OK {
			if l != nil {
				t.Errorf("with the error %d there is a log", err)
			}
			continue
		}
		holds(t, l, batches, len(segments))
		isClosed(t, l, false)
	}
}

// refuses fails unless Open of a disk is ErrState, and changes nothing, even where a step would fail.
func refuses(t *testing.T, d *disk.Disk) {
	t.Helper()
	for _, fuse := range []int{-1, 0, 1} {
		c := d.Copy()
		well(t, c.Fuse(fuse))
		before := seen(c)
		if l, err := Open(c); l != nil || err != api.ErrState {
			t.Errorf("Open of %v is %v, %d", filesOf(d).names(), l, err)
		}
		if seen(c) != before {
			t.Errorf("Open of %v changed the disk", filesOf(d).names())
		}
	}
}

// P11.1: no disk; a disk that New did not make; a disk without power, be it well-formed or not.
func TestOpenErrors(t *testing.T) {
	for _, d := range []*disk.Disk{nil, {}} {
		if l, err := Open(d); l != nil || err != api.ErrNil {
			t.Errorf("Open is %v, %d", l, err)
		}
	}
	for _, fs := range []files{{}, {"check": ""}, {"other": ""}, {seg(1): encoded(history(3)...), "check-new": "x"}} {
		d := diskOf(t, fs, nil)
		well(t, d.Fuse(0))
		if d.Create("off") != api.ErrOff {
			t.Fatal("the power is on")
		}
		before := seen(d)
		if l, err := Open(d); l != nil || err != api.ErrOff || seen(d) != before {
			t.Errorf("Open of %v is %v, %d", fs.names(), l, err)
		}
	}
}

// P11.1: an empty disk.
func TestOpenEmpty(t *testing.T) {
	d := diskOf(t, nil, nil)
	opens(t, d)
	well(t, d.Fuse(0))
	holds(t, opened(t, d), nil, 0)
	if !d.On() {
		t.Error("Open of an empty disk has a step")
	}
}

// P11.1: disks that are well-formed.
func TestWellFormed(t *testing.T) {
	all := history(40)
	one, two, three := encoded(all[:16]...), encoded(all[16:32]...), encoded(all[32:]...)
	frames := opFrames(someOps(7, 3))
	for i, fs := range []files{
		{seg(1): ""},
		{seg(1): "torn"},
		{seg(1): frames},
		{seg(1): one},
		{seg(1): one + frames},
		{seg(1): one + frames + "torn"},
		{seg(1): one + strings.Repeat("\x00", 5000)},
		{seg(1): one + "torn" + two},            // nothing counts behind what is torn
		{seg(1): one + rawFrame(3, number(16))}, // a frame of kind Check is in no group
		{seg(1): one + rawFrame(3, number(16)) + two},
		{seg(1): one + opFrames(someOps(1, 257)) + rawFrame(2, "any")}, // neither are these operations
		{seg(1): encoded(all[0]) + opFrames(someOps(1, 300)) + encoded(all[:30]...)},
		{seg(1): one + encoded(all[16])[1:]},
		{seg(1): encoded(all[0])}, // segments that are not full
		{seg(1): encoded(all[0]), seg(2): ""},
		{seg(1): encoded(all[0]), seg(2): encoded(all[1]), seg(3): "torn"},
		{seg(1): encoded(all[:5]...), seg(6): encoded(all[5:20]...), seg(21): "\x01"},
		{seg(1): one, seg(17): two, seg(33): three},
		{seg(1): one, seg(17): ""},
		{"check": checkpoint(all[0])},
		{"check": checkpoint(all...)},
		{"check": checkpoint(all[:16]...), seg(17): two, seg(33): three + "torn"},
		{"check": checkpoint(all[:16]...), seg(1): one}, // what is in the checkpoint has been in segments
		{"check": checkpoint(all[:16]...), seg(1): one, seg(17): ""},
		{"check": checkpoint(all[:20]...), seg(1): one, seg(17): encoded(all[16:20]...)},
		{"check": checkpoint(all[:20]...), seg(1): one, seg(17): two}, // what is in this segment beyond the checkpoint doesn't matter
		{"check": checkpoint(all[:20]...), seg(17): "any", seg(20): "", seg(2): "x", seg(21): encoded(all[20:36]...), seg(37): encoded(all[36])},
		{"check": checkpoint(all[:20]...), seg(3): "", seg(4): "", seg(5): ""},
		{"check-new": ""},
		{"check-new": "any"},
		{"check-new": checkpoint(all...)},
		{"check-new": checkpoint(all[:20]...), "check": checkpoint(all[:16]...), seg(17): encoded(all[16:20]...)},
		{"check-new": checkpoint(all[:20]...)[:99], seg(1): one, seg(17): encoded(all[16:20]...) + "torn"},
		{"check-new": "x", "check": checkpoint(all[:3]...), seg(1): "y", seg(2): "z", seg(4): ""},
	} {
		if _, _, _, ok := modelOpen(fs); !ok {
			t.Errorf("the model says that disk %d, of %v, is not well-formed", i, fs.names())
		}
		opens(t, diskOf(t, fs, nil))
		opens(t, diskOf(t, nil, fs)) // none of it durable
	}
}

// P11.1: what is durable of the last segment doesn't matter, and all of it is behind.
func TestOpenSyncs(t *testing.T) {
	all := history(20)
	for _, tail := range []string{"", "torn"} {
		whole := encoded(all[16:]...)
		for n := range len(whole) {
			d := diskOf(t, files{seg(1): encoded(all[:16]...), seg(17): whole[:n]}, files{seg(17): whole[n:] + tail})
			c := d.Copy()
			holds(t, opened(t, d), all, 2)
			if safe, err := d.Safe(seg(17)); err != api.OK || safe != len(whole) {
				t.Errorf("%d bytes of %d are durable", safe, len(whole))
			}
			well(t, d.Crash(nil, nil))
			holds(t, opened(t, d), all, 2)
			if n%16 == 0 {
				opens(t, c)
			}
		}
	}
}

// P11.1: files that no log has.
func TestForeignFiles(t *testing.T) {
	all := history(20)
	for _, fs := range []files{
		{},
		{"check": checkpoint(all[:10]...), seg(11): encoded(all[10:]...)},
		{"check-new": "any", seg(1): encoded(all[:16]...), seg(17): encoded(all[16:]...)},
	} {
		for _, name := range []string{
			"a", "z", "-", ".", "0", "check.", "check-", "check-old", "check-new2", "checknew", "chec", "seg", "seg-", "seg-1", "seg-000000001", "seg-00000000001", "seg-000000000000000000000000001",
			"seg-0000000000", "seg-000000000a", "seg-00000000-1", "seg--000000001", "seg-0000000.1", "seg-1-00000000", "seg-00000000e1", "seg-0x00000001", "seg0000000001", "seg.0000000001", "se-0000000001", "segm-0000000001", "xseg-0000000001", "seg-0000000001.",
			"seg-18446744073709551617", "seg-10000000001", "seg-00000000011", "seg-0000000001a", "seg-99999999999999999999999999",
		} {
			for _, b := range []string{"", encoded(all[0])} {
				if _, _, _, ok := modelOpen(fs.with(name, b)); ok {
					t.Errorf("the model says that there may be a file %s", name)
				}
				refuses(t, diskOf(t, fs.with(name, b), nil))
			}
		}
	}
}

// P11.1: segments that do not continue the sequence.
func TestWrongSegments(t *testing.T) {
	all := history(40)
	one, two, three := encoded(all[:16]...), encoded(all[16:32]...), encoded(all[32:]...)
	for i, fs := range []files{
		{seg(2): ""},
		{seg(2): encoded(all[1])},
		{seg(2): encoded(all[0])},
		{seg(17): two},
		{seg(1): one, seg(18): ""},
		{seg(1): one, seg(16): ""},
		{seg(1): one, seg(2): ""},
		{seg(1): one, seg(33): three},
		{seg(1): one, seg(17): two, seg(9999999999): ""},
		{seg(9999999999): ""},
		{seg(1 << 30): ""},
		{seg(1<<30 + 1): ""},
		{seg(1<<32 + 1): ""},
		{seg(1): one + two}, // more than MaxSeg batches
		{seg(1): encoded(all[:17]...)},
		{seg(1): encoded(all[:17]...), seg(18): ""},
		{seg(1): encoded(all[:17]...) + "torn"},
		{"check": checkpoint(all[:3]...), seg(4): encoded(all[3:20]...)},
		{seg(1): "", seg(2): ""}, // an empty segment, and a torn one, that are not the last
		{seg(1): "", seg(2): encoded(all[1])},
		{seg(1): "torn", seg(2): encoded(all[1])},
		{seg(1): one, seg(17): "", seg(18): ""},
		{seg(1): one, seg(17): "torn", seg(33): three},
		{seg(1): one + "t", seg(17): two},
		{seg(1): one + "t", seg(17): ""},
		{seg(1): one + opFrames(someOps(1, 1)), seg(17): two},
		{seg(1): one + rawFrame(3, number(16)), seg(17): two},
		{seg(1): one + opFrames(someOps(1, 257)), seg(17): two},
		{seg(1): one[:len(one)-1], seg(17): two},
		{seg(1): one[:len(one)-1], seg(16): two},
		{seg(1): two}, // other batches than the digits say
		{seg(1): one, seg(17): one},
		{seg(1): one, seg(17): three},
		{"check": checkpoint(all[:16]...), seg(18): ""},
		{"check": checkpoint(all[:16]...), seg(33): three},
		{"check": checkpoint(all[:20]...), seg(17): two, seg(33): three},
		{"check": checkpoint(all[:20]...), seg(17): two, seg(22): ""},
		{"check": checkpoint(all[:16]...), seg(17): one},
		{"check": checkpoint(all[:16]...), seg(17): two + "t", seg(33): three},
		{"check-new": checkpoint(all[:16]...), seg(17): two}, // which is no "check" yet
	} {
		if _, _, _, ok := modelOpen(fs); ok {
			t.Errorf("the model says that disk %d, of %v, is well-formed", i, fs.names())
		}
		refuses(t, diskOf(t, fs, nil))
		refuses(t, diskOf(t, nil, fs))
	}
}

// P11.1: contents that "check" may not have.
func TestWrongCheck(t *testing.T) {
	all := history(20)
	good := checkpoint(all...)
	end := func(kind int, body string) string { return encoded(all...) + rawFrame(kind, body) }
	wrong := []string{
		"", "x", encoded(all...), rawFrame(3, number(0)), rawFrame(3, number(1)), rawFrame(3, number(20)),
		good + "x", good + "\x00", good + encoded(history(21)[20]), good + rawFrame(3, number(20)), good + good, "x" + good,
		good[:len(good)-1], good[1:],
		end(3, number(19)), end(3, number(21)), end(3, number(0)), end(3, ""), end(3, number(20)+"\x00"), end(3, "\x02\x00\x14"), end(3, "\x01"), end(3, "\x09"),
		end(1, number(20)), end(2, number(20)),
		opFrames(someOps(1, 1)) + rawFrame(3, number(1)),
		encoded(all...) + opFrames(someOps(1, 1)) + rawFrame(3, number(20)),
		encoded(all...) + opFrames(someOps(1, 257)) + rawFrame(3, number(20)),
		encoded(all[:19]...) + rawFrame(3, number(19)) + encoded(all[19]) + rawFrame(3, number(20)),
		encoded(all[1:]...) + rawFrame(3, number(20)),
		encoded(all[1:]...) + rawFrame(3, number(19)),
		encoded(all[:5]...) + encoded(all[6:]...) + rawFrame(3, number(20)),
	}
	for i := range len(good) { // a byte that is another one, anywhere
		b := []byte(good)
		b[i] ^= 1 << (i % 8)
		wrong = append(wrong, string(b))
	}
	for i, b := range wrong {
		for _, fs := range []files{{"check": b}, {"check": b, seg(1): encoded(all[:16]...), seg(17): encoded(all[16:]...)}, {"check": b, seg(21): ""}} {
			if _, _, _, ok := modelOpen(fs); ok {
				t.Errorf("the model says that check %d is right", i)
			}
			if i < 40 {
				refuses(t, diskOf(t, fs, nil))
			} else if l, err := Open(diskOf(t, fs, nil)); l != nil || err != api.ErrState {
				t.Errorf("Open with check %d is %d", i, err)
			}
		}
	}
}

// groupLike is what is a group, at the place of batch 3 with the stamp 5 behind batches with the stamp 3, and whether it is an encoding.
type groupLike struct {
	bytes string
	ok    bool
}

// groupsLike are groups of all kinds.
func groupsLike() []groupLike {
	ops := someOps(3, 2)
	body, _ := codec.PutOp(ops[0])
	one := string(body)
	commit := func(b string) string { return opFrames(ops) + rawFrame(2, b) }
	l := []groupLike{
		{committed(ops, 3, 5, 2), true},
		{committed(ops, 3, 3, 2), true},
		{committed(ops, 3, api.Forever-1, 2), true},
		{committed(someOps(3, 256), 3, 5, 256), true},
		{committed(ops[:1], 3, 5, 1), true},
		{committed(ops, 2, 5, 2), false}, // not the next Number
		{committed(ops, 4, 5, 2), false},
		{committed(ops, 0, 5, 2), false},
		{committed(ops, 1, 5, 2), false},
		{committed(ops, 1<<30+3, 5, 2), false},
		{committed(ops, 1<<32+3, 5, 2), false},
		{committed(ops, math.MaxUint64, 5, 2), false},
		{committed(ops, 3, 2, 2), false}, // a Stamp below the one before, or no stamp
		{committed(ops, 3, 0, 2), false},
		{committed(ops, 3, api.Forever, 2), false},
		{committed(ops, 3, api.Forever+1, 2), false},
		{committed(ops, 3, math.MaxUint64, 2), false},
		{committed(ops, 3, 5, 1), false}, // another number of operations
		{committed(ops, 3, 5, 3), false},
		{committed(ops, 3, 5, 0), false},
		{committed(ops, 3, 5, 256+2), false},
		{committed(ops, 3, 5, math.MaxUint64), false},
		{committed(nil, 3, 5, 0), false}, // no operations
		{committed(nil, 3, 5, 1), false},
		{committed(ops), false}, // another body
		{committed(ops, 3), false},
		{committed(ops, 3, 5), false},
		{committed(ops, 3, 5, 2, 0), false},
		{committed(ops, 3, 5, 2, 2), false},
		{commit("\x01\x03\x01\x05\x01"), false},
		{commit("\x01\x03\x01\x05\x02\x00\x02"), false},
		{commit("\x02\x00\x03\x01\x05\x01\x02"), false},
		{commit("\x01\x03\x02\x00\x05\x01\x02"), false},
		{commit("\x01\x03\x01\x05\x01\x02x"), false},
		{commit("x\x01\x03\x01\x05\x01\x02"), false},
		{commit("\x09\x01\x05\x01\x02"), false},
		{commit("\x01\x03\x09\x01\x02"), false},
		{commit("\x01\x03\x01\x05\xff"), false},
		{commit(strings.Repeat("\xff", 2048)), false},
	}
	for _, bad := range []string{"", "x", one[1:], one + "\x00", one + one, one[:len(one)-1], "\x00" + one[1:], "\x06" + one[1:], strings.Repeat("\x01", 2048)} { // what is no operation, at the first place and at the last
		l = append(l,
			groupLike{rawFrame(1, bad) + rawFrame(2, number(3)+number(5)+number(1)), false},
			groupLike{rawFrame(1, bad) + committed(ops, 3, 5, 3), false},
			groupLike{opFrames(ops) + rawFrame(1, bad) + rawFrame(2, number(3)+number(5)+number(3)), false})
	}
	for _, o := range []api.Op{ // operations whose encodings are no encodings, since they are not valid
		{Kind: api.OpDrop, Id: 0, Period: api.Period{From: 1, To: 2}},
		{Kind: api.OpDrop, Id: api.MaxId + 1, Period: api.Period{From: 1, To: 2}},
		{Kind: api.OpDrop, Id: 1, Period: api.Period{From: 2, To: 2}},
		{Kind: api.OpDrop, Id: 1, Period: api.Period{From: 1, To: api.Forever + 1}},
	} {
		b := "\x04\x00" + number(o.Id) + number(o.Period.From) + number(o.Period.To)
		l = append(l, groupLike{rawFrame(1, b) + rawFrame(2, number(3)+number(5)+number(1)), false})
	}
	return l
}

// P11.1: groups that are no encodings of the next batch, in a checkpoint and in segments, last or not; and what is one.
func TestWrongGroups(t *testing.T) {
	two := []api.Batch{{Number: 1, Stamp: 3, Ops: someOps(1, 1)}, {Number: 2, Stamp: 3, Ops: someOps(2, 2)}}
	for i, g := range groupsLike() {
		for _, fs := range []files{
			{seg(1): encoded(two...) + g.bytes},
			{seg(1): encoded(two...) + g.bytes + "torn"},
			{seg(1): encoded(two...) + g.bytes, seg(4): ""},
			{seg(1): encoded(two...), seg(3): g.bytes},
			{seg(1): encoded(two[0]), seg(2): encoded(two[1]) + g.bytes, seg(4): ""},
			{"check": encoded(two...) + g.bytes + rawFrame(3, number(3))},
			{"check": encoded(two...) + g.bytes + rawFrame(3, number(3)), seg(4): ""},
			{"check": checkpoint(two...), seg(3): g.bytes},
			{"check": checkpoint(two...), seg(3): g.bytes, "check-new": ""},
		} {
			if _, _, _, ok := modelOpen(fs); ok != g.ok {
				t.Errorf("the model says that group %d in %v is right: %v", i, fs.names(), ok)
			}
			if g.ok {
				opens(t, diskOf(t, fs, nil))
			} else {
				refuses(t, diskOf(t, fs, nil))
			}
		}
		opens(t, diskOf(t, files{"check": checkpoint(two...), seg(1): g.bytes, seg(2): g.bytes}, nil)) // they are not read
		opens(t, diskOf(t, files{seg(1): encoded(two...), "check-new": g.bytes}, nil))
	}
}

// P11.1: an Open after an Open has the same log, and its steps leave the disk as it is.
func TestOpenAgain(t *testing.T) {
	all := history(30)
	d := diskOf(t, files{"check-new": "x", "check": checkpoint(all[:9]...), seg(1): "any", seg(9): "", seg(10): encoded(all[9:]...)[:1000]}, nil)
	l := opened(t, d)
	n := int(l.Last())
	if n <= 9 || n >= 30 {
		t.Fatalf("there are %d batches", n)
	}
	holds(t, l, all[:n], 1)
	before := seen(d)
	for range 3 {
		holds(t, opened(t, d), all[:n], 1)
		if seen(d) != before {
			t.Error("another Open changed the disk")
		}
	}
	fill(t, opened(t, d), all[n:25]...)
	holds(t, opened(t, d), all[:25], 1)
}

// change changes files at random: into well-formed ones at times, mostly not.
func change(r *rand.Rand, fs files, all []api.Batch) files {
	names := append(fs.names(), seg(1+r.Intn(40)))
	name := names[r.Intn(len(names))]
	b := fs[name]
	at := r.Intn(len(b) + 1)
	switch r.Intn(10) {
	case 0:
		return fs.without(name)
	case 1:
		return fs.with(name, b[:at])
	case 2:
		return fs.with(name, b+opFrames(someOps(3, r.Intn(3)))+"torn"[:r.Intn(5)])
	case 3:
		return fs.with(name, b+encoded(all[r.Intn(len(all))]))
	case 4:
		batches, _, _, _ := modelOpen(fs)
		return fs.with(seg(len(batches)+1), "")
	case 5:
		return fs.without(name).with([]string{"check", "check-new", seg(1), seg(17), seg(1 + r.Intn(20))}[r.Intn(5)], b)
	case 6:
		x := []byte(b)
		if at < len(x) {
			x[at] ^= 1 << r.Intn(8)
		}
		return fs.with(name, string(x))
	case 7:
		return fs.with("check-new", b)
	case 8:
		n := 1 + r.Intn(len(all)-1)
		return fs.with("check", checkpoint(all[:n]...))
	}
	return fs.with(name, b[:at]+b[r.Intn(len(b)+1):])
}

// P11.1: disks that have been changed at random are what the chapter's words make of them.
func TestOpenChanged(t *testing.T) {
	all := history(40)
	r := rand.New(rand.NewSource(1))
	good := 0
	for range 1000 {
		n := r.Intn(40)
		l, d := logOf(t, all[:n], r.Intn(n+1)*r.Intn(2))()
		if r.Intn(3) == 0 && n > 0 {
			well(t, d.Fuse(r.Intn(7)))
			l.Checkpoint()
			well(t, d.Crash([]uint16{uint16(r.Intn(3000))}, []byte{byte(r.Intn(3))}))
		}
		fs := filesOf(d)
		for range r.Intn(3) {
			fs = change(r, fs, all)
		}
		if _, _, _, ok := modelOpen(fs); ok {
			good++
		}
		opens(t, diskOf(t, fs, nil))
	}
	if good < 250 || good > 750 {
		t.Errorf("%d disks of 1000 are well-formed", good)
	}
}

// R1: files of any bytes.
func TestOpenNoise(t *testing.T) {
	r := rand.New(rand.NewSource(2))
	names := []string{"check", "check-new", seg(1), seg(2)}
	for range 2000 {
		fs := files{}
		for _, i := range r.Perm(len(names))[:r.Intn(3)] {
			b := make([]byte, r.Intn(60))
			r.Read(b)
			for i := range min(3, len(b)) {
				b[i] = byte(r.Intn(4)) * byte(r.Intn(2))
			}
			fs[names[i]] = string(b)
		}
		opens(t, diskOf(t, fs, nil))
	}
}

// P11.1: as many files as a disk has room for.
func TestOpenManyFiles(t *testing.T) {
	all := history(api.MaxFiles + 10)
	fs := files{}
	for i := range api.MaxFiles {
		fs[seg(i+1)] = encoded(all[i])
	}
	d := diskOf(t, fs, nil)
	l := opened(t, d)
	holds(t, l, all[:api.MaxFiles], api.MaxFiles)
	fill(t, l, all[api.MaxFiles:]...)
	holds(t, opened(t, d), all, api.MaxFiles)
	if err := l.Checkpoint(); err != api.ErrFull {
		t.Errorf("Checkpoint is %d", err)
	}
	fs = fs.without(seg(api.MaxFiles)).with("check", checkpoint(all[:api.MaxFiles]...))
	d = diskOf(t, fs, nil)
	l = opened(t, d)
	holds(t, l, all[:api.MaxFiles], 0)
	if !slices.Equal(d.Names(), []string{"check"}) {
		t.Errorf("there are %d files", len(d.Names()))
	}
	fill(t, l, all[api.MaxFiles:]...)
}
