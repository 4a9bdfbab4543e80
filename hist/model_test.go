package hist

import (
	"fmt"
	"maps"
	"regexp"
	"slices"
	"strings"
	"testing"

	"almanac/api"
	"almanac/codec"
	"almanac/disk"
	"almanac/frame"
	"almanac/wire"
)

// well fails unless all of these are OK.
func well(t *testing.T, errs ...api.Errno) {
	t.Helper()
	for i, err := range errs {
		if err != api.OK {
			t.Fatalf("call %d is %d", i, err)
		}
	}
}

// number is the encoding of n, by chapter 3.
func number(n uint64) string {
	var digits []byte
	for ; n > 0; n /= 256 {
		digits = append([]byte{byte(n)}, digits...)
	}
	return string(rune(len(digits))) + string(digits)
}

// rawFrame is a frame with these bytes, by chapters 4 and 9, whatever they are.
func rawFrame(kind int, body string) string {
	b := append([]byte{byte(kind), byte(len(body) >> 8), byte(len(body))}, body...)
	sum := ^uint32(0)
	for _, c := range b {
		sum ^= uint32(c) << 24
		for range 8 {
			out := sum >> 31
			sum = sum<<1 ^ out*0x04c11db7
		}
	}
	sum = ^sum
	return string(append(b, byte(sum>>24), byte(sum>>16), byte(sum>>8), byte(sum)))
}

// opFrames are the frames of operations, by the chapter.
func opFrames(ops []api.Op) string {
	var s string
	for _, o := range ops {
		body, err := codec.PutOp(o)
		if err != api.OK {
			panic(fmt.Sprintf("%+v is not valid", o))
		}
		s += rawFrame(1, string(body))
	}
	return s
}

// committed are the frames of operations, and a frame of kind Commit with these numbers.
func committed(ops []api.Op, numbers ...uint64) string {
	body := ""
	for _, n := range numbers {
		body += number(n)
	}
	return opFrames(ops) + rawFrame(2, body)
}

// encoded is the encodings of batches in the log, by the chapter.
func encoded(batches ...api.Batch) string {
	var s string
	for _, x := range batches {
		s += committed(x.Ops, x.Number, x.Stamp, uint64(len(x.Ops)))
	}
	return s
}

// checkpoint is the contents of "check" with these batches.
func checkpoint(batches ...api.Batch) string {
	return encoded(batches...) + rawFrame(3, number(uint64(len(batches))))
}

// seg is the name of a segment.
func seg(n int) string { return fmt.Sprintf("seg-%010d", n) }

// someOps are count operations, of all kinds, which differ with n.
func someOps(n uint64, count int) []api.Op {
	p := api.Period{From: n, To: n*n + 1 + n}
	all := []api.Op{
		{Kind: api.OpNode, Id: n, Label: "n", Period: p},
		{Kind: api.OpSet, Id: n, Key: "key_1", Value: api.Value{Kind: api.Str, Str: strings.Repeat("\x00", int(n%33))}, Period: p},
		{Kind: api.OpEdge, Edge: true, Id: n, From: n, To: api.MaxId, Period: p},
		{Kind: api.OpKeep, Id: n, Edge: true, Period: api.Period{From: 0, To: api.Forever}},
		{Kind: api.OpDrop, Id: n, Period: p},
		{Kind: api.OpSet, Edge: true, Id: api.MaxId, Key: "k", Value: api.Value{Kind: api.Int, Num: -int64(n)}, Period: p},
		{Kind: api.OpSet, Id: n, Key: "k", Period: p},
		{Kind: api.OpSet, Id: n, Key: "k", Value: api.Value{Kind: api.Float, Float: 1 / float64(n)}, Period: p},
	}
	var ops []api.Op
	for i := range count {
		ops = append(ops, all[(int(n%8)+i)%len(all)])
	}
	return ops
}

// history is the first n batches of a log: batches with one to five operations, and stamps of which some are the same.
func history(n int) []api.Batch {
	var l []api.Batch
	for i := range uint64(n) {
		l = append(l, api.Batch{Number: i + 1, Stamp: i / 3 * 100, Ops: someOps(i+1, 1+int(i*i%5))})
	}
	return l
}

// files are the bytes of the files of a disk.
type files map[string]string

func (fs files) names() []string { return slices.Sorted(maps.Keys(fs)) }

// with is these files and one more, or one with other bytes.
func (fs files) with(name, bytes string) files {
	l := maps.Clone(fs)
	l[name] = bytes
	return l
}

// without is these files but one.
func (fs files) without(name string) files {
	l := maps.Clone(fs)
	delete(l, name)
	return l
}

// diskOf is a disk with these files, of whose bytes all are durable, and behind them some that are not.
func diskOf(t *testing.T, durable, loose files) *disk.Disk {
	t.Helper()
	d, err := disk.New(api.MaxBytes)
	well(t, err)
	for _, name := range durable.names() {
		well(t, d.Create(name), d.Append(name, []byte(durable[name])), d.Sync(name))
	}
	for _, name := range loose.names() {
		if d.Create(name); loose[name] != "" {
			well(t, d.Append(name, []byte(loose[name])))
		}
	}
	return d
}

// filesOf are the files of a disk whose power is on.
func filesOf(d *disk.Disk) files {
	fs := files{}
	for _, name := range d.Names() {
		b, _ := d.Read(name)
		fs[name] = string(b)
	}
	return fs
}

// seen is all that can be told of a disk by its calls, now and after a power loss.
func seen(d *disk.Disk) string {
	s := fmt.Sprint(d.On(), fuseOf(d), "\n")
	for name, b := range sorted(filesOf(d)) {
		safe, _ := d.Safe(name)
		s += fmt.Sprintf("%s:%x %d\n", name, b, safe)
	}
	for _, pick := range []uint16{0, 1, 2, 9, 30, 31, 65535} {
		c := d.Copy()
		c.Crash(slices.Repeat([]uint16{pick}, 600), nil)
		s += "after a power loss:\n"
		for name, b := range sorted(filesOf(c)) {
			s += fmt.Sprintf("%s:%x\n", name, b)
		}
	}
	return s
}

// sorted goes through files in the order of their names.
func sorted(fs files) func(func(string, string) bool) {
	return func(yield func(string, string) bool) {
		for _, name := range fs.names() {
			if !yield(name, fs[name]) {
				return
			}
		}
	}
}

// fuseOf is at which step, counted from 1, the power of a disk goes off; 0 if it is off, 40 if it stays on for so long.
func fuseOf(d *disk.Disk) int {
	c := d.Copy()
	n := 0
	for ; c.On() && n < 40; n++ {
		if names := c.Names(); len(names) > 0 {
			c.Sync(names[0])
		} else {
			c.Create("probe")
		}
	}
	return n
}

// act is a step on a disk.
type act struct {
	what, name string
	to         string // of a rename
	bytes      string // of an append
	size       int    // of a truncate
}

func (a act) do(d *disk.Disk) api.Errno {
	switch a.what {
	case "create":
		return d.Create(a.name)
	case "append":
		return d.Append(a.name, []byte(a.bytes))
	case "sync":
		return d.Sync(a.name)
	case "rename":
		return d.Rename(a.name, a.to)
	case "truncate":
		return d.Truncate(a.name, a.size)
	case "remove":
		return d.Remove(a.name)
	}
	panic(a.what)
}

// play carries out acts up to the first that returns an error.
func play(d *disk.Disk, acts []act) api.Errno {
	for _, a := range acts {
		if err := a.do(d); err != api.OK {
			return err
		}
	}
	return api.OK
}

func isAct(what, name string) act { return act{what: what, name: name} }

// modelBatches are the batches whose encodings frames begin with, behind those before; how many bytes their groups have; and whether all groups are encodings of the next batches.
func modelBatches(before []api.Batch, frames []frame.Frame) (batches []api.Batch, size int, ok bool) {
	batches = before
	var ops []api.Op
	bad, bytes := false, 0
	for _, f := range frames {
		bytes += 7 + len(f.Body)
		if f.Kind == 3 || f.Kind == 1 && len(ops) == 256 {
			break
		}
		if f.Kind == 1 {
			o, err := codec.TakeOp(f.Body)
			bad = bad || err != api.OK
			ops = append(ops, o)
			continue
		}
		x := api.Batch{Ops: ops}
		var n uint64
		r := wire.New(f.Body)
		for _, p := range []*uint64{&x.Number, &x.Stamp, &n} {
			m, err := r.Num(1<<64 - 1)
			*p, bad = m, bad || err != api.OK
		}
		var last api.Batch
		if len(batches) > 0 {
			last = batches[len(batches)-1]
		}
		if bad || r.End() != api.OK || !codec.MayBatch(x) || n != uint64(len(ops)) || x.Number != last.Number+1 || x.Stamp < last.Stamp {
			return nil, 0, false
		}
		batches, ops, size = append(batches, x), nil, bytes
	}
	return batches, size, true
}

// modelOpen is the batches and the segments of a log on a disk with these files, and the steps that Open carries out; false if the disk is not well-formed.
func modelOpen(fs files) (batches []api.Batch, segments []string, acts []act, ok bool) {
	n := 0
	if b, there := fs["check"]; there {
		frames, size := frame.Split([]byte(b))
		if size != len(b) || size == 0 {
			return nil, nil, nil, false
		}
		behind := len(b) - 7 - len(frames[len(frames)-1].Body)
		batches, size, ok = modelBatches(nil, frames)
		n = len(batches)
		if !ok || n == 0 || size != behind || b[size:] != rawFrame(3, number(uint64(n))) {
			return nil, nil, nil, false
		}
	}
	if _, there := fs["check-new"]; there {
		acts = append(acts, isAct("remove", "check-new"))
	}
	form := regexp.MustCompile(`^seg-[0-9]{10}$`)
	whole, kept := true, 0
	for name, b := range sorted(fs) {
		switch {
		case name == "check" || name == "check-new":
			continue
		case !form.MatchString(name) || name == seg(0):
			return nil, nil, nil, false
		case name <= seg(n):
			acts = append(acts, isAct("remove", name))
			continue
		case !whole || name != seg(len(batches)+1) || len(segments) > 0 && name == segments[len(segments)-1]:
			return nil, nil, nil, false
		}
		frames, _ := frame.Split([]byte(b))
		had := len(batches)
		batches, kept, ok = modelBatches(batches, frames)
		if !ok || len(batches)-had > 16 {
			return nil, nil, nil, false
		}
		whole = kept == len(b) && len(batches) > had
		segments = append(segments, name)
	}
	if len(segments) > 0 {
		last := segments[len(segments)-1]
		if kept < len(fs[last]) {
			acts = append(acts, act{what: "truncate", name: last, size: kept})
		}
		acts = append(acts, isAct("sync", last))
	}
	return batches, segments, acts, true
}

// opened is the log on d, where there must be one.
func opened(t *testing.T, d *disk.Disk) *Log {
	t.Helper()
	l, err := Open(d)
	if err != api.OK || l == nil {
		t.Fatalf("Open is %v, %d", l, err)
	}
	return l
}

// holds fails unless a log has these batches, and that many segments.
func holds(t *testing.T, l *Log, batches []api.Batch, segments int) {
	t.Helper()
	var last api.Batch
	if n := len(batches); n > 0 {
		last = batches[n-1]
	}
	if got := l.Batches(); !slices.EqualFunc(got, batches, codec.SameBatch) {
		t.Errorf("there are %d batches, not those %d", len(got), len(batches))
	}
	if l.Last() != last.Number || l.Stamp() != last.Stamp || l.Segments() != segments {
		t.Errorf("Last is %d, Stamp %d, Segments %d, not %d, %d and %d", l.Last(), l.Stamp(), l.Segments(), last.Number, last.Stamp, segments)
	}
}

// fill appends batches to a log.
func fill(t *testing.T, l *Log, batches ...api.Batch) {
	t.Helper()
	for _, x := range batches {
		if n, err := l.Append(x.Stamp, x.Ops); n != x.Number || err != api.OK {
			t.Fatalf("Append of batch %d is %d, %d", x.Number, n, err)
		}
	}
}

// isClosed fails unless a log is closed, or is not.
func isClosed(t *testing.T, l *Log, closed bool) {
	t.Helper()
	_, err := l.Append(0, nil) // not valid, so that nothing is done
	if want := map[bool]api.Errno{true: api.ErrOff, false: api.ErrArg}[closed]; err != want {
		t.Errorf("Append without operations is %d, not %d", err, want)
	}
	if closed && l.Checkpoint() != api.ErrOff {
		t.Error("Checkpoint of a closed log is not ErrOff")
	}
}

// stepped fails unless a call on the log that prepare makes carries out these steps, in their order: with each fuse, the disk, the error and the log must be what the steps make of them.
func stepped(t *testing.T, prepare func() (*Log, *disk.Disk), call func(*Log) api.Errno, acts ...act) {
	t.Helper()
	for fuse := -1; fuse <= len(acts); fuse++ {
		l, d := prepare()
		model := d.Copy()
		well(t, d.Fuse(fuse), model.Fuse(fuse))
		err, want := call(l), play(model, acts)
		if err != want || seen(d) != seen(model) {
			t.Errorf("with the fuse %d: %d, not %d, the disk is\n%snot\n%s", fuse, err, want, seen(d), seen(model))
		}
		isClosed(t, l, want != api.OK && want != api.ErrFull)
	}
}
