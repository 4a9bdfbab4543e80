package hist

import (
	"math/rand"
	"slices"
	"testing"

	"almanac/api"
	"almanac/codec"
	"almanac/disk"
)

// promised fails unless the batches of l, after a power loss, are those done, or also the one that was in progress, if any was; it tells how many there are.
func promised(t *testing.T, l *Log, done []api.Batch, progress ...api.Batch) int {
	t.Helper()
	got := l.Batches()
	if !slices.EqualFunc(got, done, codec.SameBatch) && !slices.EqualFunc(got, append(slices.Clip(done), progress...), codec.SameBatch) {
		t.Errorf("there are %d batches, where %d were done", len(got), len(done))
	}
	if l.Last() != uint64(len(got)) {
		t.Errorf("Last is %d of %d batches", l.Last(), len(got))
	}
	return len(got)
}

// event is an Append of the next batch, or a Checkpoint.
type event int

const (
	add event = iota
	checkpointNow
	openNow
)

// work carries out events on d until one fails, and tells how many batches were done, and whether another one was in progress.
func work(d *disk.Disk, all []api.Batch, events []event) (done int, progress bool) {
	l, err := Open(d)
	if err != api.OK {
		return 0, false
	}
	for _, e := range events {
		switch e {
		case add:
			_, err = l.Append(all[done].Stamp, all[done].Ops)
			if err != api.OK {
				return done, true
			}
			done++
		case checkpointNow:
			err = l.Checkpoint()
		case openNow:
			l, err = Open(d)
		}
		if err != api.OK {
			return done, false
		}
	}
	return done, false
}

// someEvents are events of which the first ones fill segments, with a Checkpoint at all kinds of places.
func someEvents() []event {
	adds := func(n int) []event { return make([]event, n) }
	return slices.Concat(
		adds(2), []event{checkpointNow}, adds(17), []event{openNow}, adds(1), []event{checkpointNow, checkpointNow},
		adds(16), []event{checkpointNow}, adds(1), []event{openNow, checkpointNow}, adds(2))
}

// picks are numbers from 0 to most: the first ones, the last ones, and some between.
func picks(most int) []uint16 {
	var l []uint16
	for n := range most + 1 {
		if n < 4 || n > most-4 || n%(1+most/40) == 0 {
			l = append(l, uint16(n))
		}
	}
	return l
}

// P11.5: a power loss at each step, with much of what the disk may keep of the bytes of an Append or a checkpoint; then the log is opened, and goes on.
func TestPowerLoss(t *testing.T) {
	all := history(60)
	events := someEvents()
	lost := 0
	for fuse := 0; ; fuse++ {
		d := diskOf(t, nil, nil)
		well(t, d.Fuse(fuse))
		done, progress := work(d, all, events)
		if d.On() {
			if fuse < 80 || done < 39 {
				t.Errorf("all is done after %d steps: %d batches", fuse, done)
			}
			break
		}
		lost++
		var next []api.Batch
		loose := len(checkpoint(all[:done]...)) // as many bytes as there may be that are not durable
		if progress {
			next = all[done : done+1]
			loose = len(encoded(next...))
		}
		with := 0
		for _, pick := range picks(loose) {
			for _, turn := range []byte{0, 1, 255} {
				c := d.Copy()
				well(t, c.Crash([]uint16{pick}, []byte{turn}))
				l := opened(t, c)
				n := promised(t, l, all[:done], next...)
				with += n - done
				if pick%16 == 0 {
					fill(t, l, all[n:n+3]...)
					holds(t, opened(t, c), all[:n+3], l.Segments())
				}
			}
		}
		if with > 0 && len(next) == 0 {
			t.Errorf("with the fuse %d there are %d batches that nobody added", fuse, with)
		}
	}
	if lost == 0 {
		t.Error("there was no power loss")
	}
}

// P11.5: a power loss during Open, and during the next one: the batches are the same.
func TestPowerLossInOpen(t *testing.T) {
	all := history(60)
	r := rand.New(rand.NewSource(3))
	crash := func(d *disk.Disk) {
		well(t, d.Crash([]uint16{uint16(r.Intn(100)), uint16(r.Intn(100))}, []byte{byte(r.Intn(2)), byte(r.Intn(256))}))
	}
	again := 0
	for round := range 3000 {
		d := diskOf(t, nil, nil)
		well(t, d.Fuse(round%95))
		done, progress := work(d, all, someEvents())
		crash(d)
		var next []api.Batch
		if progress {
			next = all[done : done+1]
		}
		n := promised(t, opened(t, d.Copy()), all[:done], next...)
		for range r.Intn(4) { // an Open may fail with any of its steps
			well(t, d.Fuse(r.Intn(4)))
			if l, err := Open(d); err == api.OK {
				promised(t, l, all[:n])
			} else if l != nil || err != api.ErrOff {
				t.Errorf("Open is %v, %d", l, err)
			}
			if !d.On() {
				again++
			}
			crash(d)
		}
		l := opened(t, d)
		promised(t, l, all[:n])
		holds(t, opened(t, d), all[:n], l.Segments())
	}
	if again < 500 {
		t.Errorf("there were %d power losses during Open", again)
	}
}

// P11.5: an Append that fails without a power loss, behind which the log is opened, is there for good or it isn't.
func TestFailedAppend(t *testing.T) {
	all := history(3)
	d := diskOf(t, nil, nil)
	l := opened(t, d)
	fill(t, l, all[:2]...)
	well(t, d.Fuse(1))
	if n, err := l.Append(all[2].Stamp, all[2].Ops); n != 0 || err != api.ErrOff {
		t.Fatal(n, err)
	}
	holds(t, l, all[:2], 1)
	well(t, d.Crash([]uint16{uint16(len(encoded(all[2])))}, nil)) // all of it was kept
	for range 3 {
		holds(t, opened(t, d), all, 1)
		well(t, d.Crash(nil, nil))
	}
}

// P11.5 and P11.6: logs at work for long, with power losses at any time, on disks that get full at times.
func TestLongWork(t *testing.T) {
	r := rand.New(rand.NewSource(4))
	for range 25 {
		d := diskOf(t, nil, nil)
		l := opened(t, d)
		var done []api.Batch
		for range 300 {
			progress := api.Batch{Number: l.Last() + 1, Stamp: l.Stamp() + uint64(r.Intn(3)), Ops: someOps(1+uint64(r.Intn(100)), 1+r.Intn(4))}
			well(t, d.Fuse(r.Intn(30)-1), d.Quota(min(api.MaxBytes, d.Used()+r.Intn(2*d.Used()+300))))
			n, err := uint64(0), api.OK
			if r.Intn(9) == 0 {
				progress.Number = 0
				err = l.Checkpoint()
			} else if n, err = l.Append(progress.Stamp, progress.Ops); err == api.OK {
				done = append(done, progress)
			}
			if (n > 0) != (err == api.OK && progress.Number > 0) || n > 0 && n != progress.Number {
				t.Fatalf("Append is %d, %d", n, err)
			}
			if promised(t, l, done); err == api.OK || err == api.ErrFull {
				well(t, d.Fuse(-1))
				if r.Intn(10) == 0 {
					well(t, d.Crash([]uint16{uint16(r.Intn(500))}, []byte{byte(r.Intn(4))}))
					promised(t, opened(t, d.Copy()), done) // nothing was in progress
				}
				continue
			}
			if err != api.ErrOff || d.On() {
				t.Fatalf("the error is %d", err)
			}
			isClosed(t, l, true)
			well(t, d.Crash([]uint16{uint16(r.Intn(500))}, []byte{byte(r.Intn(4))}))
			l = opened(t, d)
			if progress.Number == 0 {
				promised(t, l, done)
			} else if promised(t, l, done, progress) > len(done) {
				done = append(done, progress)
			}
		}
		if len(done) < 50 {
			t.Errorf("there are %d batches", len(done))
		}
	}
}
