package batch

import (
	"math"
	"slices"
	"testing"

	"almanac/api"
	"almanac/entity"
	"almanac/piece"
)

// good is a valid state with nodes and edges that have all that they can have.
func good() State {
	line := func(from, to uint64, n int64) []piece.Piece {
		return []piece.Piece{{Period: of(from, to), Value: number(n)}}
	}
	return State{
		Nodes: []entity.Entity{
			{Id: 1, Label: "n", Valid: periods(0, 10, 12, 1<<40), Props: []entity.Prop{{Key: "a", Line: line(2, 4, 7)}, {Key: "b", Line: []piece.Piece{{Period: of(3, 5), Value: api.Value{Kind: api.Str, Str: "x"}}}}}},
			{Id: 2, Valid: periods(5, 20)},
			{Id: 3, Label: "m"},
		},
		Edges: []entity.Entity{
			{Edge: true, Id: 1, Label: "e", From: 1, To: 2, Valid: periods(6, 8, 12, 13), Props: []entity.Prop{{Key: "k", Line: line(6, 7, 1)}}},
			{Edge: true, Id: 2, From: 1, To: 1, Valid: periods(0, 1, 30, 1<<40)},
			{Edge: true, Id: 3, From: 3, To: 2},
		},
	}
}

// with is the good state, changed.
func with(change func(s *State)) State {
	s := deep(good())
	change(&s)
	return s
}

// illFormed are states with an entity that is not well-formed, that has another place than its Id says, or whose nodes don't exist.
func illFormed() []State {
	l := []State{
		{Nodes: make([]entity.Entity, 1)}, {Edges: make([]entity.Entity, 1)}, {Nodes: good().Edges[1:2]},
		{Edges: []entity.Entity{{Edge: true, Id: 1, From: 1, To: 1}}}, {Edges: good().Edges}, {Nodes: good().Edges, Edges: good().Nodes},
		with(func(s *State) { s.Nodes = append(s.Nodes, entity.Entity{}) }), with(func(s *State) { s.Edges = append(s.Edges, entity.Entity{}) }),
		with(func(s *State) { s.Nodes = s.Nodes[1:] }), with(func(s *State) { s.Nodes = s.Nodes[:2] }), with(func(s *State) { s.Nodes = s.Nodes[:1] }), with(func(s *State) { s.Edges = s.Edges[1:] }),
		with(func(s *State) { slices.Reverse(s.Nodes) }), with(func(s *State) { slices.Reverse(s.Edges) }),
		with(func(s *State) { s.Nodes = append(s.Nodes, s.Nodes[2]) }), with(func(s *State) { s.Edges = append(s.Edges, s.Edges[2]) }),
		with(func(s *State) { s.Nodes = append(s.Nodes, entity.Entity{Id: 5}) }), with(func(s *State) { s.Edges = append(s.Edges, entity.Entity{Edge: true, Id: 5, From: 1, To: 1}) }),
		with(func(s *State) { s.Nodes = append(s.Nodes, entity.Entity{Edge: true, Id: 4, From: 1, To: 1}) }), with(func(s *State) { s.Edges = append(s.Edges, entity.Entity{Id: 4}) }),
		with(func(s *State) { s.Nodes[0].Id = 2 }), with(func(s *State) { s.Nodes[2].Id = 4 }), with(func(s *State) { s.Edges[0].Id = 0 }), with(func(s *State) { s.Edges[2].Id = 2 }),
		with(func(s *State) { s.Nodes[0].Label = "N" }), with(func(s *State) { s.Edges[2].Label = " " }), with(func(s *State) { s.Nodes[2].From = 1 }), with(func(s *State) { s.Nodes[2].To = 1 }),
		with(func(s *State) { s.Nodes[0].Valid = periods(0, 10, 10, 1<<40) }), with(func(s *State) { s.Edges[0].Valid = periods(12, 13, 6, 8) }), with(func(s *State) { s.Edges[2].Valid = periods(6, 6) }),
		with(func(s *State) { s.Nodes[0].Props[0].Line = nil }), with(func(s *State) { s.Edges[0].Props[0].Key = "K" }), with(func(s *State) { slices.Reverse(s.Nodes[0].Props) }), with(func(s *State) { s.Edges[0].Valid = periods(12, 13) }),
	}
	for _, id := range []uint64{0, 4, 1 << 40, 1<<40 + 1, math.MaxUint64} {
		for i := range 3 {
			l = append(l, with(func(s *State) { s.Edges[i].From = id }), with(func(s *State) { s.Edges[i].To = id }))
		}
	}
	return l
}

// hanging are states in which an edge dangles, and that are valid otherwise; and where it does so first.
func hanging() []struct {
	s        State
	edge, at uint64
} {
	return []struct {
		s        State
		edge, at uint64
	}{
		{with(func(s *State) { s.Nodes[0].Valid = periods(0, 7, 12, 1<<40) }), 1, 7},
		{with(func(s *State) { s.Nodes[1].Valid = periods(5, 7, 8, 12) }), 1, 7},
		{with(func(s *State) { s.Nodes[1].Valid = periods(5, 12) }), 1, 12},
		{with(func(s *State) { s.Nodes[1].Valid = nil }), 1, 6},
		{with(func(s *State) { s.Nodes[0].Valid = periods(2, 10) }), 1, 12},
		{with(func(s *State) { s.Nodes[0].Valid = periods(0, 10, 12, 31, 32, 1<<40) }), 2, 31},
		{with(func(s *State) { s.Nodes[0].Valid = periods(0, 10, 12, 1<<40-1) }), 2, 1<<40 - 1},
		{with(func(s *State) { s.Nodes[0].Valid = periods(1, 10, 12, 1<<40) }), 2, 0},
		{with(func(s *State) { s.Edges[2].Valid = periods(5, 20) }), 3, 5},
		{with(func(s *State) { s.Nodes[2].Valid, s.Edges[2].Valid = periods(0, 1<<40), periods(19, 21) }), 3, 20},
		{with(func(s *State) { s.Edges[1].Valid, s.Edges[2].Valid = periods(9, 11), periods(3, 4) }), 2, 10},
		{with(func(s *State) { s.Edges[0].To = 3 }), 1, 6},
		{with(func(s *State) { s.Edges[0].From, s.Edges[1].To = 2, 2 }), 2, 0},
	}
}

// P14.1: May, of states that are valid.
func TestMay(t *testing.T) {
	for _, s := range []State{
		{}, {Nodes: []entity.Entity{}, Edges: []entity.Entity{}}, good(), {Nodes: good().Nodes}, {Nodes: []entity.Entity{{Id: 1}}}, {Nodes: []entity.Entity{{Id: 1}, {Id: 2}}, Edges: []entity.Entity{{Edge: true, Id: 1, From: 2, To: 1}}},
		with(func(s *State) { s.Edges = s.Edges[:2] }), with(func(s *State) { s.Edges[2].From, s.Edges[2].To = 2, 3 }), with(func(s *State) { s.Edges[0].Valid = periods(5, 10, 12, 20) }), with(func(s *State) { s.Edges[0].From, s.Edges[0].To = 2, 1 }),
	} {
		if !May(s) {
			t.Errorf("May(%v) is false", s)
		}
		if e, at, is := Dangling(s); e != 0 || at != 0 || is {
			t.Errorf("Dangling(%v) is %d, %d, %v", s, e, at, is)
		}
	}
}

// P14.1: May, of states that are not valid.
func TestMayNot(t *testing.T) {
	for _, s := range illFormed() {
		if May(s) {
			t.Errorf("May(%v) is true", s)
		}
	}
}

// P14.1 and P14.2: states that are not valid for a dangling edge alone, each in one way.
func TestDangling(t *testing.T) {
	for i, x := range hanging() {
		if e, at, is := Dangling(x.s); e != x.edge || at != x.at || !is || May(x.s) {
			t.Errorf("%d: Dangling is %d, %d, %v", i, e, at, is)
		}
	}
}

// P14.2: states of which nothing but the meaning of Valid, and the places of nodes, is asked.
func TestDanglingAnyState(t *testing.T) {
	wild := func(valid ...api.Period) entity.Entity {
		return entity.Entity{Edge: true, Id: 9, Label: "?", Valid: valid}
	}
	from := func(a, b uint64, valid ...api.Period) entity.Entity {
		return entity.Entity{From: a, To: b, Valid: valid}
	}
	nodes := []entity.Entity{wild(of(5, 9), of(1, 4), of(3, 5), of(7, 7), of(9, 2)), wild(of(0, 1<<40), of(0, 1<<40+1)), wild(of(20, 1<<40+1))}
	for i, x := range []struct {
		edges    []entity.Entity
		edge, at uint64
		is       bool
	}{
		{nil, 0, 0, false},
		{[]entity.Entity{from(1, 2, of(4, 6), of(1, 2), of(5, 9))}, 0, 0, false},
		{[]entity.Entity{from(1, 2, of(8, 10), of(0, 2))}, 1, 0, true},
		{[]entity.Entity{from(1, 2, of(8, 10), of(1, 2), of(0, 0), of(0, 1<<40+1))}, 1, 9, true},
		{[]entity.Entity{from(2, 1, of(30, 40), of(20, 30))}, 1, 20, true},
		{[]entity.Entity{from(2, 2, of(30, 1<<40), of(0, 30)), from(0, 1), from(9, 9, of(3, 3)), from(1, 4, of(5, 6)), from(1, 2, of(0, 1))}, 4, 5, true},
		{[]entity.Entity{from(0, 2, of(2, 3))}, 1, 2, true},
		{[]entity.Entity{from(2, 0, of(2, 3))}, 1, 2, true},
		{[]entity.Entity{from(2, 4, of(2, 3))}, 1, 2, true},
		{[]entity.Entity{from(math.MaxUint64, 2, of(2, 3))}, 1, 2, true},
		{[]entity.Entity{from(2, 1<<40, of(1<<40-1, 1<<40))}, 1, 1<<40 - 1, true},
		{[]entity.Entity{from(3, 2, of(20, 1<<40))}, 1, 20, true},
		{[]entity.Entity{from(0, 0, of(20, 1<<40+1), of(3, 2), of(math.MaxUint64, 0))}, 0, 0, false},
	} {
		s := State{Nodes: nodes, Edges: x.edges}
		if e, at, is := Dangling(s); e != x.edge || at != x.at || is != x.is {
			t.Errorf("%d: Dangling is %d, %d, %v", i, e, at, is)
		}
	}
	for _, s := range illFormed() { // whatever else there is, it returns
		if e, _, is := Dangling(s); is != (e > 0) || e > uint64(len(s.Edges)) {
			t.Errorf("Dangling(%v) is %d, %v", s, e, is)
		}
	}
}

// P14.1: Get, of all places and around them, in states that are valid or not.
func TestGet(t *testing.T) {
	for _, s := range append(illFormed(), good(), State{}) {
		for _, edge := range []bool{false, true} {
			list := s.Nodes
			if edge {
				list = s.Edges
			}
			for i, want := range list {
				if got, is := Get(s, edge, uint64(i)+1); !is || !equalEntities(got, want) {
					t.Errorf("Get(%v, %d) of %v is %v, %v", edge, i+1, s, got, is)
				}
			}
			for _, id := range []uint64{0, uint64(len(list)) + 1, 1 << 40, 1 << 63, math.MaxUint64} {
				if got, is := Get(s, edge, id); is || !entity.Same(got, entity.Entity{}) {
					t.Errorf("Get(%v, %d) of %v is %v, %v", edge, id, s, got, is)
				}
			}
		}
	}
}

// P14.1: Ends.
func TestEnds(t *testing.T) {
	if got := Ends(good()); !slices.Equal(got, []uint64{0, 1, 2, 3, 4, 5, 6, 7, 8, 10, 12, 13, 20, 30, 1 << 40}) {
		t.Errorf("Ends is %v", got)
	}
	if got := Ends(State{}); len(got) != 0 {
		t.Errorf("Ends of nothing is %v", got)
	}
	if got := Ends(State{Edges: good().Edges[:1]}); !slices.Equal(got, []uint64{6, 7, 8, 12, 13}) { // not valid as a state, but each entity is well-formed
		t.Errorf("Ends of an edge is %v", got)
	}
	bad := with(func(s *State) { s.Nodes[0].Label, s.Edges[0].Valid[0].To = "N", 6 })
	if got := Ends(bad); !slices.Equal(got, []uint64{0, 1, 5, 20, 30, 1 << 40}) { // those that are not well-formed have none
		t.Errorf("Ends of the rest is %v", got)
	}
	walk(t, 400, func(g graph, _ []api.Op) {
		var want []uint64
		s := g.state()
		for _, e := range slices.Concat(s.Nodes, s.Edges) {
			for _, p := range e.Valid {
				want = append(want, p.From, p.To)
			}
			for _, x := range e.Props {
				for _, y := range x.Line {
					want = append(want, y.Period.From, y.Period.To)
				}
			}
		}
		slices.Sort(want)
		if got := Ends(s); !slices.Equal(got, slices.Compact(want)) {
			t.Errorf("Ends(%v) is %v", s, got)
		}
	})
}

// P14.1: Same, of any states.
func TestSame(t *testing.T) {
	all := []State{{}, good(), {Nodes: good().Nodes}, with(func(s *State) { s.Edges[2].Label = "x" }), with(func(s *State) { s.Nodes[0].Props[1].Line[0].Value.Str = "y" })}
	all = append(all, illFormed()...)
	for _, x := range hanging() {
		all = append(all, x.s)
	}
	for i, a := range all {
		for j, b := range all {
			if got := Same(a, deep(b)); got != equal(a, b) || i == j && !got {
				t.Errorf("Same(%v, %v) is %v", a, b, got)
			}
		}
	}
	if !Same(State{}, State{Nodes: []entity.Entity{}, Edges: []entity.Entity{}}) {
		t.Errorf("no entities are not the same as no entities")
	}
}
