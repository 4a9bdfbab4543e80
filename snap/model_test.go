package snap

import (
	"math/rand"
	"slices"
	"testing"

	"almanac/api"
	"almanac/batch"
	"almanac/codec"
	"almanac/entity"
	"almanac/piece"
)

// This file is the chapter once more, without the package: all batches and all states are kept, one after the other.

// model is batches, and the states at 0, at 1 and so on.
type model struct {
	batches []api.Batch
	states  []batch.State
}

// empty is a model without batches.
func empty() model { return model{states: []batch.State{{}}} }

// now is the last state.
func (m model) now() batch.State { return m.states[len(m.states)-1] }

// add is the model with one more batch, which has to be possible.
func (m model) add(t *testing.T, stamp uint64, ops []api.Op) model {
	t.Helper()
	s, err := batch.Apply(m.now(), ops)
	if err != api.OK {
		t.Fatalf("the model can't apply %v: %d", ops, err)
	}
	x := api.Batch{Number: uint64(len(m.batches)) + 1, Stamp: stamp, Ops: slices.Clone(ops)}
	return model{batches: append(slices.Clip(m.batches), x), states: append(slices.Clip(m.states), s)}
}

// upTo is the model with its first n batches.
func (m model) upTo(n int) model { return model{batches: m.batches[:n], states: m.states[:n+1]} }

// stamp is the last stamp.
func (m model) stamp() uint64 {
	if len(m.batches) == 0 {
		return 0
	}
	return m.batches[len(m.batches)-1].Stamp
}

// by is the number of batches with at most this stamp.
func (m model) by(stamp uint64) uint64 {
	var n uint64
	for _, x := range m.batches {
		if x.Stamp <= stamp {
			n++
		}
	}
	return n
}

// steps is how far the state at n is from the last one ahead of it that there is a snapshot of.
func (m model) steps(n int) int {
	for d := range n {
		if (n-d)%8 == 0 || n-d == len(m.batches) {
			return d
		}
	}
	return n
}

// changed are the entities that differ between two states.
func (m model) changed(a, b int) []Id {
	var ids []Id
	for _, edge := range []bool{false, true} {
		for id := uint64(1); ; id++ {
			x, old := batch.Get(m.states[a], edge, id)
			y, is := batch.Get(m.states[b], edge, id)
			if !old && !is {
				break
			}
			if old != is || !entity.Same(x, y) {
				ids = append(ids, Id{Edge: edge, Id: id})
			}
		}
	}
	return ids
}

// isNone tells whether s is the empty state.
func isNone(s batch.State) bool { return len(s.Nodes) == 0 && len(s.Edges) == 0 }

// isNoBatch tells whether x is the zero batch.
func isNoBatch(x api.Batch) bool { return x.Number == 0 && x.Stamp == 0 && len(x.Ops) == 0 }

// check checks that all that s tells is as in the model; what changed, for some numbers only.
func check(t *testing.T, s *Snaps, m model) {
	t.Helper()
	checkLast(t, s, m)
	last := len(m.batches)
	for n, want := range m.states {
		if got, err := s.At(uint64(n)); err != api.OK || !batch.Same(got, want) || !batch.May(got) {
			t.Fatalf("At(%d) is %v, %d, not %v", n, got, err, want)
		}
		if got := s.Steps(uint64(n)); got != m.steps(n) {
			t.Fatalf("Steps(%d) is %d of %d", n, got, last)
		}
		for _, other := range []int{0, n, max(n, 1) - 1, last} {
			checkChanged(t, s, m, n, other)
		}
	}
	for n, want := range m.batches {
		if got, err := s.Batch(uint64(n) + 1); err != api.OK || !codec.SameBatch(got, want) {
			t.Fatalf("Batch(%d) is %v, %d, not %v", n+1, got, err, want)
		}
		for _, stamp := range []uint64{want.Stamp, want.Stamp + 1, max(want.Stamp, 1) - 1} {
			if got := s.By(stamp); got != m.by(stamp) {
				t.Fatalf("By(%d) is %d, not %d", stamp, got, m.by(stamp))
			}
		}
	}
}

// checkChanged checks what changed between two numbers, both ways.
func checkChanged(t *testing.T, s *Snaps, m model, a, b int) {
	t.Helper()
	want := m.changed(a, b)
	x, err := s.Changed(uint64(a), uint64(b))
	if err != api.OK || !slices.Equal(x, want) {
		t.Fatalf("Changed(%d, %d) is %v, %d, not %v", a, b, x, err, want)
	}
	y, err := s.Changed(uint64(b), uint64(a))
	if err != api.OK || !slices.Equal(y, want) {
		t.Fatalf("Changed(%d, %d) is %v, %d, not %v", b, a, y, err, want)
	}
}

// checkLast checks what s tells of its last batch, what is beyond it, and which snapshots it keeps.
func checkLast(t *testing.T, s *Snaps, m model) {
	t.Helper()
	last := uint64(len(m.batches))
	if s.Last() != last || s.Stamp() != m.stamp() {
		t.Fatalf("Last is %d, not %d, Stamp is %d, not %d", s.Last(), last, s.Stamp(), m.stamp())
	}
	if got, err := s.At(last); err != api.OK || !batch.Same(got, m.now()) || s.Steps(last) != 0 {
		t.Fatalf("At(%d) is %v, %d by %d steps, not %v", last, got, err, s.Steps(last), m.now())
	}
	for _, n := range []uint64{last + 1, last + 2, last + 8, api.MaxBatch, api.MaxBatch + 1, 1 << 63, 1<<64 - 1} {
		if got, err := s.At(n); err != api.ErrNone || !isNone(got) || s.Steps(n) != 0 {
			t.Fatalf("At(%d) is %v, %d by %d steps", n, got, err, s.Steps(n))
		}
		for _, x := range [][2]uint64{{n, 0}, {0, n}, {n, last}, {last, n}, {n, n}} {
			if got, err := s.Changed(x[0], x[1]); err != api.ErrNone || len(got) != 0 {
				t.Fatalf("Changed(%d, %d) is %v, %d", x[0], x[1], got, err)
			}
		}
	}
	for _, n := range []uint64{0, last + 1, last + 2, api.MaxBatch, 1 << 63, 1<<64 - 1} {
		if got, err := s.Batch(n); err != api.ErrNone || !isNoBatch(got) {
			t.Fatalf("Batch(%d) is %v, %d", n, got, err)
		}
	}
	if all := s.By(1<<40 - 1); all != last || s.By(1<<64-1) != last {
		t.Fatalf("By of the last stamps is %d of %d", all, last)
	}
	checkSnapshots(t, s, m)
}

// checkSnapshots checks that s keeps the states at the multiples of Every, and at the last batch, and no others.
func checkSnapshots(t *testing.T, s *Snaps, m model) {
	t.Helper()
	kept := 0
	for n, want := range m.states {
		if n%Every != 0 && n != len(m.batches) {
			continue
		}
		kept++
		if got, is := s.kept.snapshots[uint64(n)]; !is || !batch.Same(got, want) {
			t.Fatalf("the snapshot at %d is %v, not %v", n, got, want)
		}
	}
	if len(s.kept.snapshots) != kept {
		t.Fatalf("there are %d snapshots, not %d", len(s.kept.snapshots), kept)
	}
}

// of is the period with these ends.
func of(from, to uint64) api.Period { return api.Period{From: from, To: to} }

// number is an Int.
func number(n int64) api.Value { return api.Value{Kind: api.Int, Num: n} }

// node is an OpNode.
func node(id uint64, p api.Period) api.Op {
	return api.Op{Kind: api.OpNode, Id: id, Label: "n", Period: p}
}

// edge is an OpEdge.
func edge(id, from, to uint64, p api.Period) api.Op {
	return api.Op{Kind: api.OpEdge, Edge: true, Id: id, Label: "e", From: from, To: to, Period: p}
}

// keep is an OpKeep.
func keep(edge bool, id uint64, p api.Period) api.Op {
	return api.Op{Kind: api.OpKeep, Edge: edge, Id: id, Period: p}
}

// drop is an OpDrop.
func drop(edge bool, id uint64, p api.Period) api.Op {
	return api.Op{Kind: api.OpDrop, Edge: edge, Id: id, Period: p}
}

// set is an OpSet.
func set(edge bool, id uint64, key string, p api.Period, v api.Value) api.Op {
	return api.Op{Kind: api.OpSet, Edge: edge, Id: id, Key: key, Value: v, Period: p}
}

// list is a list of operations.
func list(ops ...api.Op) []api.Op { return ops }

// batchOf is a batch.
func batchOf(number, stamp uint64, ops ...api.Op) api.Batch {
	return api.Batch{Number: number, Stamp: stamp, Ops: ops}
}

// some is an operation on what there is in s, or a little beyond, at the first instants or at the last ones. Periods of edges are short, and those of nodes long, so that not all of them dangle.
func some(r *rand.Rand, s batch.State) api.Op {
	nodes, edges := len(s.Nodes), len(s.Edges)
	beyond := func(n int) uint64 { return uint64(1 + r.Intn(n+1)) }
	base := []uint64{0, 1<<40 - 9}[r.Intn(2)]
	from := base + uint64(r.Intn(9))
	short, long := of(from, from+1), of(from, base+9)
	switch r.Intn(12) {
	case 0:
		return node(uint64(nodes+1), of(0, 1<<40))
	case 1:
		return node(beyond(nodes), long)
	case 2, 3:
		return edge(uint64(edges+1), beyond(nodes), beyond(nodes), short)
	case 4:
		return keep(r.Intn(3) == 0, beyond(nodes), short)
	case 5:
		return drop(false, beyond(nodes), short)
	case 6:
		return drop(true, beyond(edges), long)
	}
	v := number(int64(1 + r.Intn(2)))
	if r.Intn(4) == 0 {
		v = api.Value{}
	}
	x, n := false, nodes
	if r.Intn(3) == 0 {
		x, n = true, edges
	}
	return set(x, beyond(n), string(rune('a'+r.Intn(3))), short, v)
}

// someList is some operations, most of which can be applied to s.
func someList(r *rand.Rand, s batch.State) []api.Op {
	var ops []api.Op
	for range 1 + r.Intn(4) {
		o := some(r, s)
		next, err := batch.Apply(s, list(o))
		if err != api.OK && r.Intn(10) > 0 {
			continue
		}
		ops = append(ops, o)
		if err == api.OK {
			s = next
		}
	}
	return ops
}

// walk adds batches to a sequence and to the model, and calls f after each step, whatever its error was.
func walk(t *testing.T, seed int64, steps int, f func(s *Snaps, m model)) {
	t.Helper()
	r := rand.New(rand.NewSource(seed))
	s, m := New(), empty()
	for range steps {
		x := api.Batch{Number: uint64(len(m.batches)) + 1, Stamp: m.stamp() + uint64(r.Intn(3)), Ops: someList(r, m.now())}
		if r.Intn(12) == 0 {
			x.Number += uint64(r.Intn(3)) - 1
		}
		if r.Intn(12) == 0 && m.stamp() > 0 {
			x.Stamp = m.stamp() - 1
		}
		_, want := batch.Apply(m.now(), x.Ops)
		if x.Number != uint64(len(m.batches))+1 || x.Stamp < m.stamp() || len(x.Ops) == 0 {
			want = api.ErrArg
		}
		if want == api.OK {
			m = m.add(t, x.Stamp, x.Ops)
		}
		if err := s.Add(x); err != want {
			t.Fatalf("Add(%v) is %d, not %d", x, err, want)
		}
		f(s, m)
	}
	if got := len(m.batches); got < steps/3 || got > steps*9/10 {
		t.Errorf("of %d lists, %d were added", steps, got)
	}
}

// spoil fills all the memory of s, and that behind its lists.
func spoil(s batch.State) {
	for _, l := range [][]entity.Entity{s.Nodes, s.Edges} {
		l = l[:cap(l)]
		for i := range l {
			spoilEntity(l[i])
			l[i] = entity.Entity{Id: 99}
		}
	}
}

// spoilEntity fills all the memory of e, and that behind its lists.
func spoilEntity(e entity.Entity) {
	props := e.Props[:cap(e.Props)]
	for i := range props {
		line := props[i].Line[:cap(props[i].Line)]
		for k := range line {
			line[k] = piece.Piece{Period: of(7, 7)}
		}
		props[i] = entity.Prop{Key: "spoilt"}
	}
	valid := e.Valid[:cap(e.Valid)]
	for i := range valid {
		valid[i] = of(7, 7)
	}
}
