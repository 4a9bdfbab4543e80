package snap

import (
	"math"
	"slices"
	"testing"

	"almanac/api"
	"almanac/batch"
	"almanac/entity"
	"almanac/piece"
)

// lists are the operations of the batches that good has: all kinds, of nodes and edges, some of which change nothing. They go beyond two snapshots.
func lists() [][]api.Op {
	return [][]api.Op{
		list(node(1, of(0, 9)), node(2, of(2, 1<<40))),
		list(edge(1, 1, 2, of(3, 5)), set(false, 1, "k", of(2, 4), number(7))),
		list(keep(false, 1, of(0, 9))),
		list(set(true, 1, "a", of(3, 4), api.Value{Kind: api.Str, Str: "x"})),
		list(drop(false, 1, of(2, 3)), node(3, of(0, 1<<40)), edge(2, 2, 3, of(4, 1<<40))),
		list(drop(true, 1, of(3, 4)), keep(true, 1, of(3, 4))),
		list(set(false, 3, "k", of(0, 9), number(1)), set(false, 3, "k", of(0, 9), api.Value{})),
		list(drop(true, 1, of(0, 1<<40)), drop(true, 2, of(0, 1<<40)), drop(false, 1, of(0, 1<<40))),
		list(keep(false, 1, of(0, 9))),
		list(set(false, 1, "k", of(3, 4), number(7))),
		list(drop(false, 1, of(2, 3))),
		list(node(4, of(0, 1)), drop(false, 4, of(0, 1))),
		list(keep(true, 2, of(4, 6))),
		list(set(true, 2, "k", of(4, 6), number(1))),
		list(set(true, 2, "k", of(4, 6), number(2))),
		list(set(true, 2, "k", of(4, 6), number(1))),
		list(drop(true, 2, of(4, 6))),
		list(keep(false, 4, of(0, 1))),
	}
}

// good is a sequence with these batches, the n-th one with the Stamp 10 * (n / 2), and its model.
func good(t *testing.T) (*Snaps, model) {
	t.Helper()
	s, m := New(), empty()
	for i, ops := range lists() {
		number, stamp := uint64(i)+1, 10*(uint64(i+1)/2)
		if err := s.Add(batchOf(number, stamp, ops...)); err != api.OK {
			t.Fatalf("Add of batch %d is %d", number, err)
		}
		m = m.add(t, stamp, ops)
	}
	return s, m
}

// The chapter's examples.
func TestExamples(t *testing.T) {
	s := New()
	for n := uint64(1); n <= 10; n++ {
		if err := s.Add(batchOf(n, 2*n, node(n, of(0, 1<<40)))); err != api.OK {
			t.Fatalf("Add of batch %d is %d", n, err)
		}
	}
	if x, err := s.At(3); err != api.OK || len(x.Nodes) != 3 || len(x.Edges) != 0 {
		t.Errorf("At(3) is %v, %d", x, err)
	}
	if x, err := s.At(11); err != api.ErrNone || !isNone(x) {
		t.Errorf("At(11) is %v, %d", x, err)
	}
	for n, want := range map[uint64]int{3: 3, 8: 0, 9: 1, 10: 0} {
		if got := s.Steps(n); got != want {
			t.Errorf("Steps(%d) is %d, not %d", n, got, want)
		}
	}
	for stamp, want := range map[uint64]uint64{1: 0, 2: 1, 7: 3} {
		if got := s.By(stamp); got != want {
			t.Errorf("By(%d) is %d, not %d", stamp, got, want)
		}
	}
	for _, x := range [][2]uint64{{2, 4}, {4, 2}} {
		if got, err := s.Changed(x[0], x[1]); err != api.OK || !slices.Equal(got, []Id{{Id: 3}, {Id: 4}}) {
			t.Errorf("Changed(%d, %d) is %v, %d", x[0], x[1], got, err)
		}
	}
}

// P16.1: a new sequence, which shares nothing with another one.
func TestNew(t *testing.T) {
	s, u := New(), New()
	check(t, s, empty())
	if err := s.Add(batchOf(1, 3, node(1, of(0, 1)))); err != api.OK {
		t.Errorf("Add is %d", err)
	}
	check(t, u, empty())
	check(t, New(), empty())
	if s.Last() != 1 || s.Stamp() != 3 || s.By(2) != 0 || s.By(3) != 1 || Every != 8 {
		t.Errorf("after a batch, Last is %d, Stamp is %d", s.Last(), s.Stamp())
	}
}

// P16.1 to P16.5: ErrNil ahead of all else, and nothing from a sequence that is none.
func TestNil(t *testing.T) {
	var none *Snaps
	if none.Copy() != nil {
		t.Errorf("a copy of nil is not nil")
	}
	if (&Snaps{}).Copy() == nil {
		t.Errorf("a copy of a sequence that New did not make is nil")
	}
	for _, s := range []*Snaps{nil, {}, (&Snaps{}).Copy()} {
		for _, x := range []api.Batch{{}, batchOf(1, 0, node(1, of(0, 1))), batchOf(2, 1<<40), batchOf(1, 0, keep(false, 1, of(0, 1))), {Number: 1, Ops: make([]api.Op, 257)}} {
			if err := s.Add(x); err != api.ErrNil {
				t.Errorf("Add(%v) is %d", x, err)
			}
		}
		for _, n := range []uint64{0, 1, 1 << 40, math.MaxUint64} {
			if x, err := s.At(n); err != api.ErrNil || !isNone(x) {
				t.Errorf("At(%d) is %v, %d", n, x, err)
			}
			if x, err := s.Batch(n); err != api.ErrNil || !isNoBatch(x) {
				t.Errorf("Batch(%d) is %v, %d", n, x, err)
			}
			for _, other := range []uint64{0, 1, n} {
				if x, err := s.Changed(n, other); err != api.ErrNil || len(x) != 0 {
					t.Errorf("Changed(%d, %d) is %v, %d", n, other, x, err)
				}
			}
			if s.By(n) != 0 || s.Steps(n) != 0 {
				t.Errorf("By(%d) is %d, Steps(%d) is %d", n, s.By(n), n, s.Steps(n))
			}
		}
		if s.Last() != 0 || s.Stamp() != 0 {
			t.Errorf("Last is %d, Stamp is %d", s.Last(), s.Stamp())
		}
	}
}

// P16.1, P16.3 and P16.5: all that a sequence tells, by words of its own.
func TestTells(t *testing.T) {
	s, m := good(t)
	check(t, s, m)
	if s.Last() != 18 || s.Stamp() != 90 {
		t.Errorf("Last is %d, Stamp is %d", s.Last(), s.Stamp())
	}
	x, err := s.At(2)
	want := batch.State{
		Nodes: []entity.Entity{{Id: 1, Label: "n", Valid: []api.Period{of(0, 9)}, Props: []entity.Prop{{Key: "k", Line: []piece.Piece{{Period: of(2, 4), Value: number(7)}}}}}, {Id: 2, Label: "n", Valid: []api.Period{of(2, 1<<40)}}},
		Edges: []entity.Entity{{Edge: true, Id: 1, Label: "e", From: 1, To: 2, Valid: []api.Period{of(3, 5)}}},
	}
	if err != api.OK || !batch.Same(x, want) {
		t.Errorf("At(2) is %v, %d", x, err)
	}
	b, err := s.Batch(4)
	if err != api.OK || b.Number != 4 || b.Stamp != 20 || !slices.Equal(b.Ops, lists()[3]) {
		t.Errorf("Batch(4) is %v, %d", b, err)
	}
	for n, want := range []int{0, 1, 2, 3, 4, 5, 6, 7, 0, 1, 2, 3, 4, 5, 6, 7, 0, 1, 0, 0, 0} {
		if got := s.Steps(uint64(n)); got != want {
			t.Errorf("Steps(%d) is %d, not %d", n, got, want)
		}
	}
}

// P16.3: By counts batches with the same stamp all at once, and goes to the edges of stamps.
func TestBy(t *testing.T) {
	s := New()
	stamps := []uint64{0, 0, 3, 3, 3, 7, 1<<40 - 1, 1<<40 - 1}
	for i, stamp := range stamps {
		if err := s.Add(batchOf(uint64(i)+1, stamp, node(uint64(i)+1, of(0, 1)))); err != api.OK {
			t.Fatalf("Add is %d", err)
		}
	}
	for stamp, want := range map[uint64]uint64{0: 2, 1: 2, 2: 2, 3: 5, 4: 5, 6: 5, 7: 6, 8: 6, 1<<40 - 2: 6, 1<<40 - 1: 8, 1 << 40: 8, math.MaxUint64: 8} {
		if got := s.By(stamp); got != want {
			t.Errorf("By(%d) is %d, not %d", stamp, got, want)
		}
	}
}

// P16.4: what changed, the nodes ahead of the edges. What a batch leaves as it was has not changed, nor has what was changed back.
func TestChanged(t *testing.T) {
	s, m := good(t)
	node, edge := func(id uint64) Id { return Id{Id: id} }, func(id uint64) Id { return Id{Edge: true, Id: id} }
	for _, x := range []struct {
		a, b uint64
		want []Id
	}{
		{0, 0, nil}, {0, 1, []Id{node(1), node(2)}}, {0, 2, []Id{node(1), node(2), edge(1)}}, {1, 2, []Id{node(1), edge(1)}},
		{2, 3, nil}, {3, 4, []Id{edge(1)}}, {4, 5, []Id{node(1), node(3), edge(2)}}, {5, 6, []Id{edge(1)}}, {6, 7, nil}, {7, 8, []Id{node(1), edge(1), edge(2)}},
		{2, 6, []Id{node(1), node(3), edge(2)}}, {0, 18, []Id{node(1), node(2), node(3), node(4), edge(1), edge(2)}},
		{11, 12, []Id{node(4)}}, {12, 18, []Id{node(4)}}, {12, 17, nil}, {14, 16, nil}, {14, 15, []Id{edge(2)}}, {7, 10, []Id{node(1), edge(1), edge(2)}}, {18, 18, nil},
	} {
		if got, err := s.Changed(x.a, x.b); err != api.OK || !slices.Equal(got, x.want) {
			t.Errorf("Changed(%d, %d) is %v, %d, not %v", x.a, x.b, got, err, x.want)
		}
	}
	for a := range m.states {
		for b := range m.states[a:] {
			checkChanged(t, s, m, a, a+b)
		}
	}
}

// P16.4: values are compared by what they are: a NaN is the same as itself, and a Float another one than an Int.
func TestChangedValues(t *testing.T) {
	point := func(f float64) api.Value { return api.Value{Kind: api.Float, Float: f} }
	nan := point(math.Float64frombits(0x7ff8000000000001))
	s := New()
	ops := [][]api.Op{list(node(1, of(0, 9)))}
	values := []api.Value{nan, nan, point(1), number(1), number(1), {Kind: api.Str, Str: "1"}, {Kind: api.Bool, Bool: true}, {}, {}}
	for _, v := range values {
		ops = append(ops, list(set(false, 1, "k", of(0, 9), v)))
	}
	for i, l := range ops {
		if err := s.Add(batchOf(uint64(i)+1, 0, l...)); err != api.OK {
			t.Fatalf("Add(%v) is %d", l, err)
		}
	}
	var numbers []int
	for n := range ops {
		got, err := s.Changed(uint64(n), uint64(n)+1)
		if err != api.OK || len(got) > 0 && got[0] != (Id{Id: 1}) {
			t.Errorf("Changed(%d, %d) is %v, %d", n, n+1, got, err)
		}
		if len(got) > 0 {
			numbers = append(numbers, n+1)
		}
	}
	if !slices.Equal(numbers, []int{1, 2, 4, 5, 7, 8, 9}) {
		t.Errorf("something changed by the batches %v", numbers)
	}
}

// P16.6: whatever is added, or fails to be, what was is as it was.
func TestPast(t *testing.T) {
	walk(t, 166, 60, func(s *Snaps, m model) { check(t, s, m) })
}

// P16.8, of all numbers of a walk.
func TestChangedLaws(t *testing.T) {
	var s *Snaps
	var m model
	walk(t, 168, 40, func(x *Snaps, y model) { s, m = x, y })
	changed := func(a, b uint64) []Id {
		ids, err := s.Changed(a, b)
		if err != api.OK {
			t.Fatalf("Changed(%d, %d) is %d", a, b, err)
		}
		return ids
	}
	var table [][][]Id
	for a := range m.states {
		checkChanged(t, s, m, a, a)
		if got := changed(uint64(a), uint64(a)); len(got) != 0 {
			t.Errorf("Changed(%d, %d) is %v", a, a, got)
		}
		var row [][]Id
		for b := range m.states {
			checkChanged(t, s, m, a, b)
			row = append(row, changed(uint64(a), uint64(b)))
		}
		table = append(table, row)
	}
	for a, row := range table {
		for b, ids := range row {
			if !slices.Equal(ids, table[b][a]) {
				t.Errorf("Changed(%d, %d) is %v, and the other way %v", a, b, ids, table[b][a])
			}
			for c := range table {
				for _, id := range ids {
					if !slices.Contains(table[a][c], id) && !slices.Contains(table[c][b], id) {
						t.Errorf("%v is in Changed(%d, %d), but not by way of %d", id, a, b, c)
					}
				}
			}
		}
	}
}
