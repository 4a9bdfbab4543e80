package store

import (
	"math/rand"
	"slices"
	"testing"

	"almanac/api"
	"almanac/batch"
	"almanac/codec"
	"almanac/entity"
	"almanac/piece"
)

// This file is the chapter once more, without the package: all batches and all states are kept, one after the other.

// model is batches, and the states at 0, at 1 and so on.
type model struct {
	batches []api.Batch
	states  []batch.State
}

// empty is a model without batches.
func empty() model { return model{states: []batch.State{{}}} }

// now is the last state.
func (m model) now() batch.State { return m.states[len(m.states)-1] }

// add is the model with one more batch, which has to be possible.
func (m model) add(t *testing.T, stamp uint64, ops []api.Op) model {
	t.Helper()
	s, err := batch.Apply(m.now(), ops)
	if err != api.OK {
		t.Fatalf("the model can't apply %v: %d", ops, err)
	}
	x := api.Batch{Number: uint64(len(m.batches)) + 1, Stamp: stamp, Ops: slices.Clone(ops)}
	return model{batches: append(slices.Clip(m.batches), x), states: append(slices.Clip(m.states), s)}
}

// upTo is the model with its first n batches.
func (m model) upTo(n int) model { return model{batches: m.batches[:n], states: m.states[:n+1]} }

// versions are the versions of an entity.
func (m model) versions(edge bool, id uint64) []Version {
	var all []Version
	for n := 1; n < len(m.states); n++ {
		old, was := batch.Get(m.states[n-1], edge, id)
		e, is := batch.Get(m.states[n], edge, id)
		if is && !(was && entity.Same(old, e)) {
			all = append(all, Version{Number: uint64(n), Entity: e})
		}
	}
	return all
}

// sameVersions tells whether a and b are the same.
func sameVersions(a, b []Version) bool {
	return slices.EqualFunc(a, b, func(x, y Version) bool { return x.Number == y.Number && entity.Same(x.Entity, y.Entity) })
}

// isNone tells whether s is the empty state.
func isNone(s batch.State) bool { return len(s.Nodes) == 0 && len(s.Edges) == 0 }

// isNoBatch tells whether x is the zero batch.
func isNoBatch(x api.Batch) bool { return x.Number == 0 && x.Stamp == 0 && len(x.Ops) == 0 }

// check checks that all that s tells is as in the model.
func check(t *testing.T, s *Store, m model) {
	t.Helper()
	checkLast(t, s, m)
	for n, want := range m.states {
		if got, err := s.State(uint64(n)); err != api.OK || !batch.Same(got, want) || !batch.May(got) {
			t.Fatalf("State(%d) is %v, %d, not %v", n, got, err, want)
		}
	}
	for n, want := range m.batches {
		if got, err := s.Batch(uint64(n) + 1); err != api.OK || !codec.SameBatch(got, want) {
			t.Fatalf("Batch(%d) is %v, %d, not %v", n+1, got, err, want)
		}
	}
	for _, edge := range []bool{false, true} {
		for id := range s.Next(edge) + 1 {
			if got, want := s.Versions(edge, id), m.versions(edge, id); !sameVersions(got, want) {
				t.Fatalf("Versions(%v, %d) are %v, not %v", edge, id, got, want)
			}
		}
	}
}

// checkLast checks what s tells of its last batch, and what is beyond it.
func checkLast(t *testing.T, s *Store, m model) {
	t.Helper()
	last, stamp := uint64(len(m.batches)), uint64(0)
	if last > 0 {
		stamp = m.batches[last-1].Stamp
	}
	if s.Last() != last || s.Stamp() != stamp {
		t.Fatalf("Last is %d, not %d, Stamp is %d, not %d", s.Last(), last, s.Stamp(), stamp)
	}
	now := m.now()
	if got := s.Now(); !batch.Same(got, now) {
		t.Fatalf("Now is %v, not %v", got, now)
	}
	if n, e := s.Next(false), s.Next(true); n != uint64(len(now.Nodes))+1 || e != uint64(len(now.Edges))+1 {
		t.Fatalf("Next is %d and %d in %v", n, e, now)
	}
	for _, n := range []uint64{last + 1, last + 2, api.MaxBatch, api.MaxBatch + 1, 1 << 63, 1<<64 - 1} {
		if got, err := s.State(n); err != api.ErrNone || !isNone(got) {
			t.Fatalf("State(%d) is %v, %d", n, got, err)
		}
	}
	for _, n := range []uint64{0, last + 1, last + 2, api.MaxBatch, 1 << 63, 1<<64 - 1} {
		if got, err := s.Batch(n); err != api.ErrNone || !isNoBatch(got) {
			t.Fatalf("Batch(%d) is %v, %d", n, got, err)
		}
	}
}

// of is the period with these ends.
func of(from, to uint64) api.Period { return api.Period{From: from, To: to} }

// number is an Int.
func number(n int64) api.Value { return api.Value{Kind: api.Int, Num: n} }

// node is an OpNode.
func node(id uint64, p api.Period) api.Op {
	return api.Op{Kind: api.OpNode, Id: id, Label: "n", Period: p}
}

// edge is an OpEdge.
func edge(id, from, to uint64, p api.Period) api.Op {
	return api.Op{Kind: api.OpEdge, Edge: true, Id: id, Label: "e", From: from, To: to, Period: p}
}

// keep is an OpKeep.
func keep(edge bool, id uint64, p api.Period) api.Op {
	return api.Op{Kind: api.OpKeep, Edge: edge, Id: id, Period: p}
}

// drop is an OpDrop.
func drop(edge bool, id uint64, p api.Period) api.Op {
	return api.Op{Kind: api.OpDrop, Edge: edge, Id: id, Period: p}
}

// set is an OpSet.
func set(edge bool, id uint64, key string, p api.Period, v api.Value) api.Op {
	return api.Op{Kind: api.OpSet, Edge: edge, Id: id, Key: key, Value: v, Period: p}
}

// list is a list of operations.
func list(ops ...api.Op) []api.Op { return ops }

// some is an operation on what there is in s, or a little beyond, at the first instants or at the last ones. Periods of edges are short, and those of nodes long, so that not all of them dangle.
func some(r *rand.Rand, s batch.State) api.Op {
	nodes, edges := len(s.Nodes), len(s.Edges)
	beyond := func(n int) uint64 { return uint64(1 + r.Intn(n+1)) }
	base := []uint64{0, 1<<40 - 9}[r.Intn(2)]
	from := base + uint64(r.Intn(9))
	short, long := of(from, from+1), of(from, base+9)
	switch r.Intn(12) {
	case 0:
		return node(uint64(nodes+1), of(0, 1<<40))
	case 1:
		return node(beyond(nodes), long)
	case 2, 3:
		return edge(uint64(edges+1), beyond(nodes), beyond(nodes), short)
	case 4:
		return keep(r.Intn(3) == 0, beyond(nodes), short)
	case 5:
		return drop(false, beyond(nodes), short)
	case 6:
		return drop(true, beyond(edges), long)
	}
	v := number(int64(1 + r.Intn(2)))
	if r.Intn(4) == 0 {
		v = api.Value{}
	}
	x, n := false, nodes
	if r.Intn(3) == 0 {
		x, n = true, edges
	}
	return set(x, beyond(n), string(rune('a'+r.Intn(3))), short, v)
}

// someList is some operations, most of which can be applied to s.
func someList(r *rand.Rand, s batch.State) []api.Op {
	var ops []api.Op
	for range 1 + r.Intn(4) {
		o := some(r, s)
		next, err := batch.Apply(s, list(o))
		if err != api.OK && r.Intn(10) > 0 {
			continue
		}
		ops = append(ops, o)
		if err == api.OK {
			s = next
		}
	}
	return ops
}

// walk adds batches to a store and to the model, and calls f after each step, whatever its error was.
func walk(t *testing.T, seed int64, steps int, f func(s *Store, m model)) {
	t.Helper()
	r := rand.New(rand.NewSource(seed))
	s, m := New(), empty()
	var stamp uint64
	for range steps {
		ops := someList(r, m.now())
		at := stamp + uint64(r.Intn(3))
		if r.Intn(8) == 0 && stamp > 0 {
			at = stamp - 1
		}
		_, want := batch.Apply(m.now(), ops)
		if at < stamp || len(ops) == 0 {
			want = api.ErrArg
		}
		n, err := s.Add(at, ops)
		if want == api.OK {
			m, stamp = m.add(t, at, ops), at
		}
		if err != want || err == api.OK && n != uint64(len(m.batches)) || err != api.OK && n != 0 {
			t.Fatalf("Add(%d, %v) is %d, %d, not %d", at, ops, n, err, want)
		}
		f(s, m)
	}
	if got := len(m.batches); got < steps/3 || got > steps*9/10 {
		t.Errorf("of %d lists, %d were added", steps, got)
	}
}

// spoilEntity fills all the memory of e, and that behind its lists.
func spoilEntity(e entity.Entity) {
	props := e.Props[:cap(e.Props)]
	for i := range props {
		line := props[i].Line[:cap(props[i].Line)]
		for k := range line {
			line[k] = piece.Piece{Period: of(7, 7)}
		}
		props[i] = entity.Prop{Key: "spoilt"}
	}
	valid := e.Valid[:cap(e.Valid)]
	for i := range valid {
		valid[i] = of(7, 7)
	}
}

// spoil fills all the memory of s, and that behind its lists.
func spoil(s batch.State) {
	for _, l := range [][]entity.Entity{s.Nodes, s.Edges} {
		l = l[:cap(l)]
		for i := range l {
			spoilEntity(l[i])
			l[i] = entity.Entity{Id: 99}
		}
	}
}
