package hist

import (
	"fmt"
	"math"
	"testing"

	"almanac/api"
	"almanac/disk"
)

// logOf makes logs that have some batches, the first of which are in a checkpoint, each on a disk of its own.
func logOf(t *testing.T, batches []api.Batch, checked int) func() (*Log, *disk.Disk) {
	return func() (*Log, *disk.Disk) {
		t.Helper()
		d := diskOf(t, nil, nil)
		l := opened(t, d)
		fill(t, l, batches[:checked]...)
		if checked > 0 {
			well(t, l.Checkpoint())
		}
		fill(t, l, batches[checked:]...)
		return l, d
	}
}

// adding appends a batch.
func adding(x api.Batch) func(*Log) api.Errno {
	return func(l *Log) api.Errno {
		_, err := l.Append(x.Stamp, x.Ops)
		return err
	}
}

// P11.3: the steps of an Append, of logs of all lengths, with and without a checkpoint, and what the log is when a step has failed.
func TestAppendSteps(t *testing.T) {
	all := history(36)
	for n := range 35 {
		for _, checked := range []int{0, 1, 16, 20} {
			if checked > n {
				continue
			}
			name := seg(checked + 1 + (n-checked)/16*16)
			acts := []act{{what: "append", name: name, bytes: encoded(all[n])}, isAct("sync", name)}
			if (n-checked)%16 == 0 {
				acts = append([]act{isAct("create", name)}, acts...)
			}
			stepped(t, logOf(t, all[:n], checked), adding(all[n]), acts...)
		}
	}
}

// P11.3: a step that fails adds no batch, but the segment that was created is there.
func TestAppendFails(t *testing.T) {
	all := history(17)
	for fuse, segments := range []int{1, 2, 2} {
		l, d := logOf(t, all[:16], 0)()
		well(t, d.Fuse(fuse))
		if n, err := l.Append(all[16].Stamp, all[16].Ops); n != 0 || err != api.ErrOff {
			t.Errorf("with the fuse %d Append is %d, %d", fuse, n, err)
		}
		holds(t, l, all[:16], segments)
		isClosed(t, l, true)
		well(t, d.Crash(nil, nil))
		isClosed(t, l, true) // for good
		holds(t, l, all[:16], segments)
		holds(t, opened(t, d), all[:16], segments)
		isClosed(t, l, true)
	}
}

// P11.3: the errors of the disk that are no power loss close the log as well.
func TestAppendStrange(t *testing.T) {
	all := history(18)
	l, d := logOf(t, all[:16], 0)()
	well(t, d.Create(seg(17)))
	if n, err := l.Append(all[16].Stamp, all[16].Ops); n != 0 || err != api.ErrThere {
		t.Errorf("Append is %d, %d", n, err)
	}
	isClosed(t, l, true)
	holds(t, l, all[:16], 1)
	l, d = logOf(t, all[:17], 0)()
	well(t, d.Remove(seg(17)))
	if n, err := l.Append(all[17].Stamp, all[17].Ops); n != 0 || err != api.ErrNone {
		t.Errorf("Append is %d, %d", n, err)
	}
	isClosed(t, l, true)
	holds(t, l, all[:17], 2)
}

// P11.3: what is no valid batch, and a stamp that goes back, is ErrArg; the ends of what is valid are not.
func TestAppendArg(t *testing.T) {
	good := someOps(1, 1)
	bad := append(someOps(2, 5), api.Op{})
	for _, x := range []struct {
		stamp uint64
		ops   []api.Op
		want  api.Errno
	}{
		{500, good, api.OK},
		{501, good, api.OK},
		{499, good, api.ErrArg},
		{0, good, api.ErrArg},
		{api.Forever - 1, good, api.OK},
		{api.Forever, good, api.ErrArg},
		{api.Forever + 1, good, api.ErrArg},
		{math.MaxUint64, good, api.ErrArg},
		{500, nil, api.ErrArg},
		{500, []api.Op{}, api.ErrArg},
		{500, someOps(3, 256), api.OK},
		{500, someOps(3, 257), api.ErrArg},
		{500, someOps(3, 5000), api.ErrArg},
		{500, bad, api.ErrArg},
		{500, bad[5:], api.ErrArg},
		{499, bad, api.ErrArg},
		{500, append(someOps(3, 255), api.Op{Kind: api.OpDrop, Id: 1}), api.ErrArg},
		{500, []api.Op{{Kind: api.OpNode, Id: 1, Label: "N", Period: api.Period{From: 1, To: 2}}}, api.ErrArg},
		{500, []api.Op{{Kind: api.OpNode, Id: 1, Edge: true, Period: api.Period{From: 1, To: 2}}}, api.ErrArg},
		{500, []api.Op{{Kind: api.OpKeep, Id: api.MaxId + 1, Period: api.Period{From: 1, To: 2}}}, api.ErrArg},
		{500, []api.Op{{Kind: api.OpSet, Id: 1, Key: "k", Value: api.Value{Kind: api.Node, Num: 1}, Period: api.Period{From: 1, To: 2}}}, api.ErrArg},
	} {
		d := diskOf(t, nil, nil)
		l := opened(t, d)
		fill(t, l, api.Batch{Number: 1, Stamp: 500, Ops: good})
		before := seen(d)
		n, err := l.Append(x.stamp, x.ops)
		if err != x.want || (n == 2) != (err == api.OK) || n != 2 && n != 0 {
			t.Errorf("Append(%d, %d operations) is %d, %d", x.stamp, len(x.ops), n, err)
		}
		isClosed(t, l, false)
		if err != api.OK && seen(d) != before {
			t.Errorf("Append(%d, %d operations) changed the disk", x.stamp, len(x.ops))
		}
		want := []api.Batch{{Number: 1, Stamp: 500, Ops: good}}
		if err == api.OK {
			want = append(want, api.Batch{Number: 2, Stamp: x.stamp, Ops: x.ops})
		}
		holds(t, l, want, 1)
		holds(t, opened(t, d), want, 1)
	}
}

// P11.3: the first batch may have any stamp; ErrArg comes ahead of the errors of the steps.
func TestAppendFirst(t *testing.T) {
	for _, stamp := range []uint64{0, 1, api.Forever - 1} {
		l := opened(t, diskOf(t, nil, nil))
		fill(t, l, api.Batch{Number: 1, Stamp: stamp, Ops: someOps(1, 1)}, api.Batch{Number: 2, Stamp: stamp, Ops: someOps(2, 1)})
	}
	d := diskOf(t, nil, nil)
	l := opened(t, d)
	well(t, d.Fuse(0), d.Quota(0))
	if n, err := l.Append(api.Forever, someOps(1, 1)); n != 0 || err != api.ErrArg || !d.On() {
		t.Errorf("Append is %d, %d", n, err)
	}
	if n, err := l.Append(1, someOps(1, 1)); n != 0 || err != api.ErrOff || d.On() {
		t.Errorf("Append is %d, %d", n, err)
	}
	if n, err := l.Append(api.Forever, nil); n != 0 || err != api.ErrOff {
		t.Errorf("Append to a closed log is %d, %d", n, err)
	}
}

// P11.3: behind batch MaxBatch there is none, ahead of what is wrong with it. So many batches have no room on a disk, so that the log is made up.
func TestAppendLast(t *testing.T) {
	for number, want := range map[uint64]api.Errno{api.MaxBatch: api.ErrFull, api.MaxBatch - 1: api.OK} {
		d := diskOf(t, nil, nil)
		l := &Log{kept: &contents{disk: d, batches: []api.Batch{{Number: number, Stamp: 9, Ops: someOps(1, 1)}}}}
		if n, err := l.Append(9, someOps(1, 1)); err != want || (n == number+1) != (err == api.OK) {
			t.Errorf("Append behind %d is %d, %d", number, n, err)
		}
		if want == api.OK {
			continue
		}
		before := seen(d)
		if n, err := l.Append(0, nil); n != 0 || err != api.ErrFull || seen(d) != before {
			t.Errorf("Append behind %d is %d, %d", number, n, err)
		}
		l.kept.closed = true
		if n, err := l.Append(9, someOps(1, 1)); n != 0 || err != api.ErrOff {
			t.Errorf("Append to a closed log is %d, %d", n, err)
		}
	}
}

// P11.3 and P11.6: an Append without room on the disk changes no batch, leaves the log open, and may be tried again.
func TestAppendFull(t *testing.T) {
	all := history(19)
	for n := range 18 {
		l, d := logOf(t, all[:n], 0)()
		size := len(encoded(all[n]))
		for _, short := range []int{1, size / 2, size} {
			well(t, d.Quota(d.Used()+size-short))
			if n, err := l.Append(all[n].Stamp, all[n].Ops); n != 0 || err != api.ErrFull {
				t.Errorf("Append behind %d batches is %d, %d", len(l.Batches()), n, err)
			}
			holds(t, l, all[:n], n/16+1) // if there was room for a segment it is there
			isClosed(t, l, false)
			holds(t, opened(t, d.Copy()), all[:n], n/16+1)
		}
		well(t, d.Quota(d.Used()+size))
		fill(t, l, all[n])
		holds(t, l, all[:n+1], n/16+1)
		holds(t, opened(t, d), all[:n+1], n/16+1)
	}
}

// P11.3: the same steps when the segment is there already, because there was no room for the batch.
func TestAppendAfterFull(t *testing.T) {
	all := history(17)
	prepare := func() (*Log, *disk.Disk) {
		l, d := logOf(t, all[:16], 0)()
		well(t, d.Quota(d.Used()))
		if _, err := l.Append(all[16].Stamp, all[16].Ops); err != api.ErrFull {
			t.Fatal(err)
		}
		well(t, d.Quota(api.MaxBytes))
		return l, d
	}
	stepped(t, prepare, adding(all[16]), act{what: "append", name: seg(17), bytes: encoded(all[16])}, isAct("sync", seg(17)))
}

// P11.3 and P11.6: there may be too many files for another segment.
func TestAppendFiles(t *testing.T) {
	all := history(17)
	for _, n := range []int{0, 16} {
		l, d := logOf(t, all[:n], 0)()
		for i := 0; len(d.Names()) < api.MaxFiles; i++ {
			well(t, d.Create(fmt.Sprint("other", i)))
		}
		before := seen(d)
		if n, err := l.Append(all[n].Stamp, all[n].Ops); n != 0 || err != api.ErrFull {
			t.Errorf("Append is %d, %d", n, err)
		}
		if seen(d) != before {
			t.Error("Append changed the disk")
		}
		isClosed(t, l, false)
		holds(t, l, all[:n], n/16)
		well(t, d.Remove("other0"))
		fill(t, l, all[n])
		holds(t, l, all[:n+1], n/16+1)
	}
}

// P11.3: batches as great as they may be.
func TestAppendGreat(t *testing.T) {
	d := diskOf(t, nil, nil)
	l := opened(t, d)
	var all []api.Batch
	for i := range uint64(40) {
		x := api.Batch{Number: i + 1, Stamp: api.Forever - 1, Ops: someOps(32+i, 256)}
		fill(t, l, x)
		all = append(all, x)
	}
	if filesOf(d)[seg(17)] != encoded(all[16:32]...) {
		t.Error("the second segment is another one")
	}
	holds(t, opened(t, d), all, 3)
	well(t, l.Checkpoint())
	if filesOf(d)["check"] != checkpoint(all...) {
		t.Error("the checkpoint is another one")
	}
	holds(t, opened(t, d), all, 0)
}
