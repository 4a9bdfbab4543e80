package hist

import (
	"fmt"
	"testing"

	"almanac/api"
	"almanac/disk"
)

// checkSteps are the steps of a Checkpoint of these batches, where there are these segments.
func checkSteps(batches []api.Batch, segments ...string) []act {
	acts := []act{
		isAct("create", "check-new"),
		{what: "append", name: "check-new", bytes: checkpoint(batches...)},
		isAct("sync", "check-new"),
		{what: "rename", name: "check-new", to: "check"},
	}
	for _, name := range segments {
		acts = append(acts, isAct("remove", name))
	}
	return acts
}

// P11.4: the steps of a Checkpoint, of logs of many lengths, with and without an earlier checkpoint.
func TestCheckpointSteps(t *testing.T) {
	all := history(70)
	for _, n := range []int{1, 2, 15, 16, 17, 33, 64, 70} {
		for _, checked := range []int{0, 1, 16, 64} {
			if checked > n {
				continue
			}
			var segments []string
			for i := checked; i < n; i += 16 {
				segments = append(segments, seg(i+1))
			}
			stepped(t, logOf(t, all[:n], checked), (*Log).Checkpoint, checkSteps(all[:n], segments...)...)
		}
	}
}

// P11.4: what is there after a Checkpoint, and after the Appends behind it.
func TestCheckpoint(t *testing.T) {
	all := history(40)
	l, d := logOf(t, all[:20], 0)()
	for n := 20; n <= 40; n += 5 {
		for range 2 { // another one, of the same batches, changes nothing
			well(t, l.Checkpoint())
			holds(t, l, all[:n], 0)
			if fs := filesOf(d); len(fs) != 1 || fs["check"] != checkpoint(all[:n]...) {
				t.Errorf("the files are %v", fs.names())
			}
			if safe, err := d.Safe("check"); err != api.OK || safe != d.Used() {
				t.Errorf("%d bytes of %d are durable", safe, d.Used())
			}
			holds(t, opened(t, d.Copy()), all[:n], 0)
		}
		if n < 40 {
			fill(t, l, all[n:n+5]...)
			if fs := filesOf(d); len(fs) != 2 || fs["check"] != checkpoint(all[:n]...) || fs[seg(n+1)] != encoded(all[n:n+5]...) {
				t.Errorf("the files are %v", fs.names())
			}
		}
	}
}

// P11.4: without batches there is no step, be there a segment or not.
func TestCheckpointEmpty(t *testing.T) {
	stepped(t, logOf(t, nil, 0), (*Log).Checkpoint)
	full := func() (*Log, *disk.Disk) {
		l, d := logOf(t, nil, 0)()
		well(t, d.Quota(10))
		if n, err := l.Append(1, someOps(1, 1)); n != 0 || err != api.ErrFull {
			t.Fatal(n, err)
		}
		well(t, d.Quota(api.MaxBytes))
		return l, d
	}
	stepped(t, full, (*Log).Checkpoint)
	l, d := full()
	well(t, d.Fuse(0))
	well(t, l.Checkpoint())
	if !d.On() || l.Segments() != 1 || len(d.Names()) != 1 {
		t.Error("Checkpoint without batches did something")
	}
	if d.Sync(seg(1)) != api.ErrOff {
		t.Fatal("the fuse did not burn down")
	}
	well(t, l.Checkpoint()) // without power, too
	isClosed(t, l, false)
}

// P11.4: a segment without batches is removed, too.
func TestCheckpointEmptySegment(t *testing.T) {
	all := history(17)
	prepare := func() (*Log, *disk.Disk) {
		l, d := logOf(t, all[:16], 0)()
		well(t, d.Quota(d.Used()))
		if n, err := l.Append(all[16].Stamp, all[16].Ops); n != 0 || err != api.ErrFull {
			t.Fatal(n, err)
		}
		well(t, d.Quota(api.MaxBytes))
		return l, d
	}
	stepped(t, prepare, (*Log).Checkpoint, checkSteps(all[:16], seg(1), seg(17))...)
	l, d := prepare()
	well(t, l.Checkpoint())
	holds(t, l, all[:16], 0)
	fill(t, l, all[16])
	holds(t, opened(t, d), all, 1)
}

// P11.4: when a step has failed, the log has the batches that it had, and the segments that are still there.
func TestCheckpointFails(t *testing.T) {
	all := history(40)
	for fuse, segments := range []int{3, 3, 3, 3, 3, 2, 1, 0} {
		l, d := logOf(t, all, 0)()
		well(t, d.Fuse(fuse))
		err := l.Checkpoint()
		if (err == api.OK) != (fuse == 7) || err != api.OK && err != api.ErrOff {
			t.Errorf("with the fuse %d Checkpoint is %d", fuse, err)
		}
		holds(t, l, all, segments)
		isClosed(t, l, fuse < 7)
		well(t, d.Crash(nil, nil))
		isClosed(t, l, fuse < 7)
		if fuse < 4 { // the earlier segments hold
			segments = 3
		} else { // the checkpoint is there, and Open removes what is left of them
			segments = 0
		}
		holds(t, opened(t, d), all, segments)
	}
}

// P11.4: the errors of the disk that are no power loss close the log as well.
func TestCheckpointStrange(t *testing.T) {
	all := history(20)
	for _, x := range []struct {
		strange  func(d *disk.Disk) api.Errno
		want     api.Errno
		segments int
	}{
		{func(d *disk.Disk) api.Errno { return d.Create("check-new") }, api.ErrThere, 2},
		{func(d *disk.Disk) api.Errno { return d.Remove(seg(1)) }, api.ErrNone, 2},
		{func(d *disk.Disk) api.Errno { return d.Remove(seg(17)) }, api.ErrNone, 1},
	} {
		l, d := logOf(t, all, 0)()
		well(t, x.strange(d))
		if err := l.Checkpoint(); err != x.want {
			t.Errorf("Checkpoint is %d, not %d", err, x.want)
		}
		holds(t, l, all, x.segments)
		isClosed(t, l, true)
	}
}

// P11.4 and P11.6: without room for the checkpoint there is none, not even in part, and the log goes on.
func TestCheckpointFull(t *testing.T) {
	all := history(22)
	for _, checked := range []int{0, 3} {
		prepare := func() (*Log, *disk.Disk) {
			l, d := logOf(t, all[:20], checked)()
			well(t, d.Quota(d.Used()+len(checkpoint(all[:20]...))-1))
			return l, d
		}
		l, d := prepare()
		before := seen(d)
		for range 3 {
			if err := l.Checkpoint(); err != api.ErrFull {
				t.Errorf("Checkpoint is %d", err)
			}
			if seen(d) != before {
				t.Error("Checkpoint without room changed the disk")
			}
			isClosed(t, l, false)
			holds(t, l, all[:20], 2)
			holds(t, opened(t, d.Copy()), all[:20], 2)
		}
		fill(t, l, all[20])
		well(t, d.Quota(d.Used()+len(checkpoint(all[:21]...))))
		well(t, l.Checkpoint())
		holds(t, l, all[:21], 0)
		for fuse, want := range []api.Errno{api.ErrOff, api.ErrOff, api.ErrFull} { // the create, the remove, and neither
			l, d := prepare()
			well(t, d.Fuse(fuse))
			if err := l.Checkpoint(); err != want {
				t.Errorf("with the fuse %d Checkpoint is %d", fuse, err)
			}
			isClosed(t, l, want == api.ErrOff)
			holds(t, l, all[:20], 2)
			well(t, d.Crash(nil, nil))
			holds(t, opened(t, d), all[:20], 2)
			if seen(d) != before {
				t.Errorf("with the fuse %d Checkpoint changed the disk", fuse)
			}
		}
	}
}

// P11.4 and P11.6: there may be too many files for another one.
func TestCheckpointFiles(t *testing.T) {
	all := history(20)
	l, d := logOf(t, all, 0)()
	for i := 0; len(d.Names()) < api.MaxFiles; i++ {
		well(t, d.Create(fmt.Sprint("other", i)))
	}
	before := seen(d)
	if err := l.Checkpoint(); err != api.ErrFull || seen(d) != before {
		t.Errorf("Checkpoint is %d", err)
	}
	isClosed(t, l, false)
	holds(t, l, all, 2)
	well(t, d.Remove("other0"), l.Checkpoint())
	holds(t, l, all, 0)
}
