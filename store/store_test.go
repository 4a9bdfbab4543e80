package store

import (
	"math"
	"slices"
	"testing"

	"almanac/api"
	"almanac/batch"
	"almanac/entity"
	"almanac/piece"
)

// lists are the operations of the batches that good has: all kinds, of nodes and edges, some of which change nothing.
func lists() [][]api.Op {
	return [][]api.Op{
		list(node(1, of(0, 9)), node(2, of(2, 1<<40))),
		list(edge(1, 1, 2, of(3, 5)), set(false, 1, "k", of(2, 4), number(7))),
		list(keep(false, 1, of(0, 9))),
		list(set(true, 1, "a", of(3, 4), api.Value{Kind: api.Str, Str: "x"})),
		list(drop(false, 1, of(2, 3)), node(3, of(0, 1<<40)), edge(2, 2, 3, of(4, 1<<40))),
		list(drop(true, 1, of(3, 4)), keep(true, 1, of(3, 4))),
		list(set(false, 3, "k", of(0, 9), number(1)), set(false, 3, "k", of(0, 9), api.Value{})),
		list(drop(true, 1, of(0, 1<<40)), drop(true, 2, of(0, 1<<40)), drop(false, 1, of(0, 1<<40))),
	}
}

// good is a store with these batches, the n-th one with the Stamp 10 * n, and its model.
func good(t *testing.T) (*Store, model) {
	t.Helper()
	s, m := New(), empty()
	for i, ops := range lists() {
		stamp := 10 * uint64(i+1)
		if n, err := s.Add(stamp, ops); n != uint64(i)+1 || err != api.OK {
			t.Fatalf("Add(%d, %v) is %d, %d", stamp, ops, n, err)
		}
		m = m.add(t, stamp, ops)
	}
	return s, m
}

// The chapter's examples.
func TestExamples(t *testing.T) {
	s := New()
	if n, err := s.Add(5, list(node(1, of(0, 9)))); n != 1 || err != api.OK {
		t.Errorf("the first Add is %d, %d", n, err)
	}
	if n, err := s.Add(4, list(drop(false, 1, of(3, 4)))); n != 0 || err != api.ErrArg {
		t.Errorf("Add with an earlier stamp is %d, %d", n, err)
	}
	if n, err := s.Add(5, list(drop(false, 1, of(3, 4)))); n != 2 || err != api.OK {
		t.Errorf("the second Add is %d, %d", n, err)
	}
	for n, want := range [][]api.Period{1: {of(0, 9)}, 2: {of(0, 3), of(4, 9)}} {
		if n == 0 {
			continue
		}
		x, err := s.State(uint64(n))
		if err != api.OK || len(x.Nodes) != 1 || len(x.Edges) != 0 || !slices.Equal(x.Nodes[0].Valid, want) {
			t.Errorf("State(%d) is %v, %d", n, x, err)
		}
	}
	if x, err := s.State(3); err != api.ErrNone || !isNone(x) {
		t.Errorf("State(3) is %v, %d", x, err)
	}
	all := s.Versions(false, 1)
	if len(all) != 2 || all[0].Number != 1 || all[1].Number != 2 || !slices.Equal(all[0].Entity.Valid, []api.Period{of(0, 9)}) || !slices.Equal(all[1].Entity.Valid, []api.Period{of(0, 3), of(4, 9)}) {
		t.Errorf("the versions are %v", all)
	}
}

// P15.1: a new store, and one that New did not make.
func TestNew(t *testing.T) {
	s, u := New(), New()
	check(t, s, empty())
	if _, err := s.Add(3, list(node(1, of(0, 1)))); err != api.OK {
		t.Errorf("Add is %d", err)
	}
	check(t, u, empty())
	check(t, New(), empty())
	if s.Last() != 1 || s.Stamp() != 3 || s.Next(false) != 2 || s.Next(true) != 1 {
		t.Errorf("after a batch, Last is %d, Stamp is %d", s.Last(), s.Stamp())
	}
}

// P15.1 to P15.3: ErrNil ahead of all else, and nothing from a store that is none.
func TestNil(t *testing.T) {
	for _, s := range []*Store{nil, {}} {
		for _, ops := range [][]api.Op{nil, list(node(1, of(0, 1))), list(api.Op{}), make([]api.Op, 257)} {
			if x, err := s.Try(ops); err != api.ErrNil || !isNone(x) {
				t.Errorf("Try is %v, %d", x, err)
			}
			for _, stamp := range []uint64{0, 1 << 40} {
				if n, err := s.Add(stamp, ops); n != 0 || err != api.ErrNil {
					t.Errorf("Add is %d, %d", n, err)
				}
			}
			if err := s.Load([]api.Batch{{Number: 1, Ops: ops}}); err != api.ErrNil {
				t.Errorf("Load is %d", err)
			}
		}
		if err := s.Load(nil); err != api.ErrNil {
			t.Errorf("Load of nothing is %d", err)
		}
		for _, n := range []uint64{0, 1, math.MaxUint64} {
			if x, err := s.State(n); err != api.ErrNil || !isNone(x) {
				t.Errorf("State is %v, %d", x, err)
			}
			if x, err := s.Batch(n); err != api.ErrNil || !isNoBatch(x) {
				t.Errorf("Batch is %v, %d", x, err)
			}
			if len(s.Versions(false, n)) != 0 || len(s.Versions(true, n)) != 0 {
				t.Errorf("there are versions")
			}
		}
		if s.Last() != 0 || s.Stamp() != 0 || s.Next(false) != 0 || s.Next(true) != 0 || !isNone(s.Now()) {
			t.Errorf("Last is %d, Stamp is %d, Next is %d, Now is %v", s.Last(), s.Stamp(), s.Next(true), s.Now())
		}
	}
}

// P15.1 and P15.3: all that a store tells, by words of its own.
func TestTells(t *testing.T) {
	s, m := good(t)
	check(t, s, m)
	if s.Last() != 8 || s.Stamp() != 80 || s.Next(false) != 4 || s.Next(true) != 3 {
		t.Errorf("Last is %d, Stamp is %d, Next is %d and %d", s.Last(), s.Stamp(), s.Next(false), s.Next(true))
	}
	if x, err := s.State(0); err != api.OK || !isNone(x) {
		t.Errorf("State(0) is %v, %d", x, err)
	}
	x, err := s.State(2)
	want := batch.State{
		Nodes: []entity.Entity{{Id: 1, Label: "n", Valid: []api.Period{of(0, 9)}, Props: []entity.Prop{{Key: "k", Line: []piece.Piece{{Period: of(2, 4), Value: number(7)}}}}}, {Id: 2, Label: "n", Valid: []api.Period{of(2, 1<<40)}}},
		Edges: []entity.Entity{{Edge: true, Id: 1, Label: "e", From: 1, To: 2, Valid: []api.Period{of(3, 5)}}},
	}
	if err != api.OK || !batch.Same(x, want) {
		t.Errorf("State(2) is %v, %d", x, err)
	}
	b, err := s.Batch(4)
	if err != api.OK || b.Number != 4 || b.Stamp != 40 || !slices.Equal(b.Ops, lists()[3]) {
		t.Errorf("Batch(4) is %v, %d", b, err)
	}
}

// P15.3: the numbers of all versions. What a batch leaves as it was is none: neither what it doesn't name, nor what it changes back.
func TestVersions(t *testing.T) {
	s, _ := good(t)
	for _, x := range []struct {
		edge bool
		id   uint64
		want []uint64
	}{
		{false, 1, []uint64{1, 2, 5, 8}}, {false, 2, []uint64{1}}, {false, 3, []uint64{5}}, {true, 1, []uint64{2, 4, 6, 8}}, {true, 2, []uint64{5, 8}},
		{false, 0, nil}, {false, 4, nil}, {true, 0, nil}, {true, 3, nil}, {true, 1 << 40, nil}, {false, 1 << 63, nil}, {false, math.MaxUint64, nil}, {true, math.MaxUint64, nil},
	} {
		var got []uint64
		for _, v := range s.Versions(x.edge, x.id) {
			got = append(got, v.Number)
			if v.Entity.Edge != x.edge || v.Entity.Id != x.id || !entity.May(v.Entity) {
				t.Errorf("a version of (%v, %d) is %v", x.edge, x.id, v.Entity)
			}
		}
		if !slices.Equal(got, x.want) {
			t.Errorf("the versions of (%v, %d) have the numbers %v, not %v", x.edge, x.id, got, x.want)
		}
	}
}

// P15.3: an entity that is valid at no instant has versions, too, and values are compared by what they are: a NaN is not another version of itself, a Float one of an Int.
func TestVersionsOfLittle(t *testing.T) {
	point := func(f float64) api.Value { return api.Value{Kind: api.Float, Float: f} }
	s := New()
	for _, ops := range [][]api.Op{
		list(node(1, of(0, 1)), drop(false, 1, of(0, 1))),
		list(keep(false, 1, of(0, 1))),
		list(drop(false, 1, of(0, 1))),
		list(keep(false, 1, of(0, 9)), set(false, 1, "k", of(0, 9), point(math.Float64frombits(0x7ff8000000000001)))),
		list(set(false, 1, "k", of(0, 9), point(math.Float64frombits(0x7ff8000000000001)))),
		list(set(false, 1, "k", of(0, 9), point(1))),
		list(set(false, 1, "k", of(0, 9), number(1))),
		list(set(false, 1, "k", of(0, 9), number(1))),
	} {
		if _, err := s.Add(0, ops); err != api.OK {
			t.Fatalf("Add(%v) is %d", ops, err)
		}
	}
	var got []uint64
	for _, v := range s.Versions(false, 1) {
		got = append(got, v.Number)
	}
	if !slices.Equal(got, []uint64{1, 2, 3, 4, 6, 7}) {
		t.Errorf("the versions have the numbers %v", got)
	}
	if first := s.Versions(false, 1)[0].Entity; len(first.Valid) != 0 || first.Label != "n" {
		t.Errorf("the first version is %v", first)
	}
}

// P15.4: whatever is added, or fails to be, what was is as it was.
func TestPast(t *testing.T) {
	walk(t, 154, 60, func(s *Store, m model) { check(t, s, m) })
}

// P15.5: in each state an entity is as in its last version till then, and two versions one after the other differ.
func TestLastVersion(t *testing.T) {
	var s *Store
	walk(t, 155, 120, func(x *Store, _ model) { s = x })
	var states []batch.State
	for n := range s.Last() + 1 {
		x, _ := s.State(n)
		states = append(states, x)
	}
	for _, edge := range []bool{false, true} {
		for id := range s.Next(edge) + 1 {
			all := s.Versions(edge, id)
			for i := 1; i < len(all); i++ {
				if all[i-1].Number >= all[i].Number || entity.Same(all[i-1].Entity, all[i].Entity) {
					t.Errorf("two versions are %v and %v", all[i-1], all[i])
				}
			}
			for n, x := range states {
				got, is := batch.Get(x, edge, id)
				if want := lastOf(all, uint64(n)); is != (want.Id > 0) || !entity.Same(got, want) {
					t.Errorf("at %d, (%v, %d) is %v, and its last version %v", n, edge, id, got, want)
				}
			}
		}
	}
}

// lastOf is the entity of the last version with a number of at most n, or a zero one.
func lastOf(all []Version, n uint64) entity.Entity {
	var last entity.Entity
	for _, v := range all {
		if v.Number <= n {
			last = v.Entity
		}
	}
	return last
}

// What is returned is new memory, and arguments are neither changed nor kept.
func TestMemory(t *testing.T) {
	s, m := New(), empty()
	for i, ops := range lists() {
		ops = append(make([]api.Op, 0, len(ops)+3), ops...)
		if _, err := s.Add(uint64(i), ops); err != api.OK || !slices.Equal(ops, lists()[i]) || ops[:cap(ops)][len(ops)].Kind != 0 {
			t.Fatalf("Add is %d, and made %v of its operations", err, ops)
		}
		m = m.add(t, uint64(i), ops)
		clear(ops[:cap(ops)])
	}
	check(t, s, m)
	all := slices.Clone(m.batches)
	for i, x := range all {
		all[i].Ops = slices.Clone(x.Ops)
	}
	u := New()
	if err := u.Load(all[:5]); err != api.OK || u.Load(all[5:]) != api.OK {
		t.Fatalf("Load is %d", err)
	}
	for _, x := range all {
		clear(x.Ops)
	}
	clear(all)
	for _, s := range []*Store{s, u} {
		spoilAll(t, s)
		check(t, s, m)
	}
}

// spoilAll fills the memory of all that s returns. What a list of it shares with another one would be spoilt there.
func spoilAll(t *testing.T, s *Store) {
	t.Helper()
	for n := range s.Last() + 1 {
		x, _ := s.State(n)
		spoil(x)
		b, _ := s.Batch(n)
		ops := b.Ops[:cap(b.Ops)]
		for i := range ops {
			ops[i] = api.Op{Id: 99}
		}
	}
	spoil(s.Now())
	for _, ops := range [][]api.Op{nil, list(node(4, of(0, 1))), list(set(false, 2, "k", of(5, 6), number(1)))} {
		x, err := s.Try(ops)
		if err != api.OK {
			t.Errorf("Try(%v) is %d", ops, err)
		}
		spoil(x)
	}
	for id := range uint64(4) {
		for _, edge := range []bool{false, true} {
			all, kept := s.Versions(edge, id), s.Versions(edge, id)
			for i, v := range all {
				if !sameVersions(all[i:], kept[i:]) {
					t.Errorf("the versions of (%v, %d) share memory", edge, id)
				}
				spoilEntity(v.Entity)
			}
			clear(all[:cap(all)])
		}
	}
}

// A struct that is assigned is the same store.
func TestAssigned(t *testing.T) {
	s, m := good(t)
	u := *s
	ops := list(node(4, of(0, 1)))
	if n, err := u.Add(80, ops); n != 9 || err != api.OK {
		t.Errorf("Add is %d, %d", n, err)
	}
	m = m.add(t, 80, ops)
	check(t, s, m)
	check(t, &u, m)
	if n, err := s.Add(90, list(node(5, of(0, 1)))); n != 10 || err != api.OK || u.Last() != 10 {
		t.Errorf("Add is %d, %d, and the other one has %d batches", n, err, u.Last())
	}
}
