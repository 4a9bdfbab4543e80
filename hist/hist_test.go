package hist

import (
	"fmt"
	"slices"
	"testing"

	"almanac/api"
	"almanac/codec"
	"almanac/disk"
)

// The examples of the chapter.
func TestExamples(t *testing.T) {
	d := diskOf(t, nil, nil)
	l := opened(t, d)
	one := someOps(1, 1)
	if n, err := l.Append(5, one); n != 1 || err != api.OK {
		t.Errorf("Append is %d, %d", n, err)
	}
	if n, err := l.Append(4, one); n != 0 || err != api.ErrArg {
		t.Errorf("Append is %d, %d", n, err)
	}
	for i := range uint64(16) {
		if n, err := l.Append(5, one); n != i+2 || err != api.OK {
			t.Errorf("Append is %d, %d", n, err)
		}
	}
	if names := d.Names(); !slices.Equal(names, []string{"seg-0000000001", "seg-0000000017"}) {
		t.Errorf("the files are %v", names)
	}
	well(t, l.Checkpoint())
	if names := d.Names(); !slices.Equal(names, []string{"check"}) {
		t.Errorf("the files are %v", names)
	}
	if n, err := l.Append(5, one); n != 18 || err != api.OK {
		t.Errorf("Append is %d, %d", n, err)
	}
	if names := d.Names(); !slices.Equal(names, []string{"check", "seg-0000000018"}) {
		t.Errorf("the files are %v", names)
	}
}

// The files of a log whose bytes are known one by one.
func TestKnownBytes(t *testing.T) {
	const (
		one = "\x01\x00\x0b\x01\x00\x01\x01n\x00\x00\x01\x01\x01\x05\x53\x06\x5e\x44" +
			"\x02\x00\x06\x01\x01\x01\x05\x01\x01\x6c\xf0\x86\x7f"
		two = "\x01\x00\x0e\x05\x00\x01\x01k\x00\x00\x02\x11\x07\x01\x02\x01\x04\x9b\xae\xc8\xbe" +
			"\x01\x00\x09\x04\x00\x01\x01\x01\x03\x02\x01\x2c\xa2\x47\x17\xc6" +
			"\x02\x00\x06\x01\x02\x01\x05\x01\x02\xba\xa4\x08\x31"
		end = "\x03\x00\x02\x01\x02\xbb\xd2\x4f\x48"
	)
	d := diskOf(t, nil, nil)
	l := opened(t, d)
	batches := []api.Batch{
		{Number: 1, Stamp: 5, Ops: []api.Op{{Kind: api.OpNode, Id: 1, Label: "n", Period: api.Period{From: 1, To: 5}}}},
		{Number: 2, Stamp: 5, Ops: []api.Op{
			{Kind: api.OpSet, Id: 1, Key: "k", Value: api.Value{Kind: api.Int, Num: 7}, Period: api.Period{From: 2, To: 4}},
			{Kind: api.OpDrop, Id: 1, Period: api.Period{From: 3, To: 300}},
		}},
	}
	fill(t, l, batches...)
	if b, err := d.Read("seg-0000000001"); err != api.OK || string(b) != one+two {
		t.Errorf("the segment is % x, %d", b, err)
	}
	well(t, l.Checkpoint())
	if b, err := d.Read("check"); err != api.OK || string(b) != one+two+end {
		t.Errorf("the checkpoint is % x, %d", b, err)
	}
	holds(t, opened(t, diskOf(t, files{"check": one + two + end}, nil)), batches, 0)
	holds(t, opened(t, diskOf(t, files{"seg-0000000001": one + two}, nil)), batches, 1)
}

// P11.2 to P11.4: of nil, and of a log that Open did not make.
func TestNil(t *testing.T) {
	for _, l := range []*Log{nil, {}, new(Log)} {
		holds(t, l, nil, 0)
		for _, ops := range [][]api.Op{nil, someOps(1, 1)} {
			if n, err := l.Append(1, ops); n != 0 || err != api.ErrNil {
				t.Errorf("Append is %d, %d", n, err)
			}
		}
		if err := l.Checkpoint(); err != api.ErrNil {
			t.Errorf("Checkpoint is %d", err)
		}
	}
}

// P11.2: what a log tells, after each Append, after each Open, and after Checkpoints.
func TestTold(t *testing.T) {
	all := history(70)
	for _, every := range []int{100, 40, 16, 7, 1} {
		d := diskOf(t, nil, nil)
		l := opened(t, d)
		segments, inLast := 0, 0
		holds(t, l, nil, 0)
		for i, x := range all {
			fill(t, l, x)
			if segments == 0 || inLast == 16 {
				segments, inLast = segments+1, 0
			}
			inLast++
			holds(t, l, all[:i+1], segments)
			holds(t, opened(t, d.Copy()), all[:i+1], segments)
			if i%every == every-1 {
				well(t, l.Checkpoint())
				segments, inLast = 0, 0
				holds(t, l, all[:i+1], 0)
			}
			if i%11 == 0 {
				l = opened(t, d)
				holds(t, l, all[:i+1], segments)
			}
		}
	}
}

// P11.2: what a log tells does not depend on whether the disk has power, nor on what becomes of it.
func TestToldWithoutPower(t *testing.T) {
	d := diskOf(t, nil, nil)
	l := opened(t, d)
	fill(t, l, history(20)...)
	well(t, d.Remove(seg(1)), d.Fuse(0))
	if err := d.Sync(seg(17)); err != api.ErrOff {
		t.Fatal(err)
	}
	holds(t, l, history(20), 2)
	isClosed(t, l, false) // no step of its own has failed yet
}

// R3: what Append is given stays as it is, and the log doesn't change with it.
func TestAppendKeepsNothing(t *testing.T) {
	d := diskOf(t, nil, nil)
	l := opened(t, d)
	ops := slices.Grow(someOps(3, 5), 10)
	behind := ops[:6]
	behind[5] = someOps(9, 1)[0]
	if n, err := l.Append(7, ops); n != 1 || err != api.OK {
		t.Fatal(n, err)
	}
	if !slices.EqualFunc(behind, append(someOps(3, 5), someOps(9, 1)...), codec.SameOp) {
		t.Errorf("the operations became %+v", behind)
	}
	clear(behind)
	want := []api.Batch{{Number: 1, Stamp: 7, Ops: someOps(3, 5)}}
	holds(t, l, want, 1)
	well(t, l.Checkpoint())
	holds(t, opened(t, d), want, 0)
}

// R3: what Batches returns is new memory, and shares none with another result.
func TestBatchesAreNew(t *testing.T) {
	d := diskOf(t, nil, nil)
	l := opened(t, d)
	fill(t, l, history(5)...)
	for range 2 {
		a, b := l.Batches(), l.Batches()
		for i := range a {
			_ = append(a[i].Ops, api.Op{})
			clear(a[i].Ops)
		}
		clear(a)
		_ = append(a[:0], api.Batch{Number: 77})
		if !slices.EqualFunc(b, history(5), codec.SameBatch) {
			t.Error("two results of Batches share memory")
		}
		holds(t, l, history(5), 1)
		l = opened(t, d)
	}
	well(t, l.Checkpoint())
	holds(t, opened(t, d), history(5), 0)
}

// A log that is assigned is the same log.
func TestAssigned(t *testing.T) {
	d := diskOf(t, nil, nil)
	l := opened(t, d)
	same := *l
	all := history(20)
	for i, x := range all {
		fill(t, []*Log{l, &same}[i%2], x)
	}
	holds(t, l, all, 2)
	holds(t, &same, all, 2)
	holds(t, opened(t, d), all, 2)
}

// R3: two logs on copies of a disk have nothing in common.
func TestCopies(t *testing.T) {
	d := diskOf(t, nil, nil)
	l := opened(t, d)
	all := history(17)
	fill(t, l, all[:10]...)
	c := d.Copy()
	m := opened(t, c)
	fill(t, m, all[10:]...)
	well(t, m.Checkpoint())
	holds(t, l, all[:10], 1)
	holds(t, m, all, 0)
	fill(t, l, all[10:16]...)
	holds(t, opened(t, d), all[:16], 1)
	holds(t, opened(t, c), all, 0)
}

// The disk that is passed to Open is used itself, also where its quota is changed behind.
func TestSameDisk(t *testing.T) {
	d, err := disk.New(0)
	well(t, err)
	l := opened(t, d)
	if n, err := l.Append(1, someOps(1, 1)); n != 0 || err != api.ErrFull {
		t.Errorf("Append is %d, %d", n, err)
	}
	well(t, d.Quota(100))
	if n, err := l.Append(1, someOps(1, 1)); n != 1 || err != api.OK {
		t.Errorf("Append is %d, %d", n, err)
	}
	if fmt.Sprint(d.Names()) != "[seg-0000000001]" || d.Used() == 0 {
		t.Errorf("the files are %v, of %d bytes", d.Names(), d.Used())
	}
}
