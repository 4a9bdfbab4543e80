package batch

import (
	"math"
	"math/rand"
	"slices"
	"testing"

	"almanac/api"
	"almanac/entity"
	"almanac/piece"
)

// applied is what Apply returns, which has to be OK.
func applied(t *testing.T, s State, ops ...api.Op) State {
	t.Helper()
	next, err := Apply(s, ops)
	if err != api.OK || !May(next) {
		t.Fatalf("Apply(%v, %v) is %v, %d", s, ops, next, err)
	}
	return next
}

// fails checks that Apply returns this error.
func fails(t *testing.T, s State, want api.Errno, ops ...api.Op) {
	t.Helper()
	if got, err := Apply(s, ops); err != want || len(got.Nodes) != 0 || len(got.Edges) != 0 {
		t.Errorf("Apply(%v, %v) is %v, %d, not %d", s, ops, got, err, want)
	}
}

// The chapter's examples.
func TestExamples(t *testing.T) {
	s := applied(t, State{}, node(1, of(0, 9)), node(2, of(2, 1<<40)), edge(1, 1, 2, of(3, 5)))
	if e, at, is := Dangling(s); e != 0 || at != 0 || is {
		t.Errorf("Dangling is %d, %d, %v", e, at, is)
	}
	if got := Ends(s); !slices.Equal(got, []uint64{0, 2, 3, 5, 9, 1 << 40}) {
		t.Errorf("Ends is %v", got)
	}
	fails(t, s, api.ErrDangling, drop(false, 1, of(4, 6)))
	fails(t, s, api.ErrArg, node(2, of(0, 1)))
	fails(t, s, api.ErrUnknown, keep(true, 2, of(0, 1)))
	fails(t, s, api.ErrUnknown, set(false, 2, "k", of(0, 3), number(1)))
	s = applied(t, s, drop(false, 1, of(4, 6)), drop(true, 1, of(4, 1<<40)))
	want := State{
		Nodes: []entity.Entity{{Id: 1, Label: "n", Valid: periods(0, 4, 6, 9)}, {Id: 2, Label: "n", Valid: periods(2, 1<<40)}},
		Edges: []entity.Entity{{Edge: true, Id: 1, Label: "e", From: 1, To: 2, Valid: periods(3, 4)}},
	}
	if !equal(s, want) {
		t.Errorf("the state is %v", s)
	}
}

// P14.3, P14.4 and P14.6: lists of operations, one after the other, by the model.
func TestWalk(t *testing.T) {
	walk(t, 2000, func(g graph, ops []api.Op) {
		s := g.state()
		after, want := g.after(ops)
		if want != api.OK {
			fails(t, s, want, ops...)
			return
		}
		got := applied(t, s, ops...)
		if !equal(got, after.state()) || !Same(got, after.state()) {
			t.Errorf("Apply(%v, %v) is %v", s, ops, got)
		}
		keepsIds(t, s, got)
		if got := applied(t, s); !equal(got, s) {
			t.Errorf("no operations make %v of %v", got, s)
		}
	})
}

// keepsIds checks that what was there is still there, under its Id: P14.6.
func keepsIds(t *testing.T, before, after State) {
	t.Helper()
	for _, edge := range []bool{false, true} {
		for id := uint64(1); ; id++ {
			a, was := Get(before, edge, id)
			b, is := Get(after, edge, id)
			if !was {
				break
			}
			if !is || a.Label != b.Label || a.From != b.From || a.To != b.To || a.Id != b.Id || a.Edge != b.Edge {
				t.Errorf("%v became %v", a, b)
			}
		}
	}
}

// P14.2: which edge dangles, in the states between operations.
func TestWalkDangling(t *testing.T) {
	n := 0
	walk(t, 1000, func(g graph, ops []api.Op) {
		next := g.copied()
		for _, o := range ops {
			if next.apply(o) != api.OK {
				return
			}
		}
		edge, at, is := next.dangling()
		if e, x, dangles := Dangling(next.state()); e != edge || x != at || dangles != is {
			t.Errorf("Dangling(%v) is %d, %d, %v", next.state(), e, x, dangles)
		}
		if is {
			n++
		}
	})
	if n < 100 {
		t.Errorf("%d states had a dangling edge", n)
	}
}

// P14.5: one list after the other, or both at once.
func TestAtOnce(t *testing.T) {
	r := rand.New(rand.NewSource(145))
	n := 0
	walk(t, 1000, func(g graph, ops []api.Op) {
		s := g.state()
		first, err := Apply(s, ops)
		if err != api.OK {
			return
		}
		g, _ = g.after(ops)
		var more []api.Op
		for range 3 {
			more = append(more, g.some(r))
		}
		second, err := Apply(first, more)
		if err != api.OK {
			return
		}
		if got := applied(t, s, slices.Concat(ops, more)...); !equal(got, second) {
			t.Errorf("%v and %v make %v of %v, and at once %v", ops, more, second, s, got)
		}
		n++
	})
	if n < 200 {
		t.Errorf("only %d pairs of lists were applied", n)
	}
}

// P14.3: an edge may dangle before all operations have been applied.
func TestDanglingBetween(t *testing.T) {
	s := applied(t, State{}, node(1, of(0, 1)), edge(1, 1, 1, of(0, 9)), keep(false, 1, of(1, 9)))
	s = applied(t, s, drop(false, 1, of(4, 6)), keep(true, 1, of(9, 12)), keep(false, 1, of(9, 12)), drop(true, 1, of(4, 6)))
	s = applied(t, s, drop(false, 1, of(0, 1<<40)), keep(false, 1, of(0, 4)), keep(false, 1, of(6, 12)))
	if want := periods(0, 4, 6, 12); !slices.Equal(s.Nodes[0].Valid, want) || !slices.Equal(s.Edges[0].Valid, want) {
		t.Errorf("the state is %v", s)
	}
	fails(t, s, api.ErrDangling, keep(true, 1, of(4, 5)))
	fails(t, s, api.ErrDangling, keep(true, 1, of(5, 6)), node(2, of(0, 1)), set(false, 1, "k", of(0, 1), number(1)))
	fails(t, s, api.ErrDangling, edge(2, 1, 1, of(11, 13)))
	fails(t, s, api.ErrDangling, node(2, of(0, 8)), edge(2, 1, 2, of(7, 9)))
	fails(t, s, api.ErrDangling, node(2, of(0, 8)), edge(2, 2, 1, of(7, 9)))
	fails(t, s, api.ErrUnknown, keep(true, 1, of(4, 5)), keep(true, 2, of(4, 5)))
	fails(t, s, api.ErrArg, keep(true, 1, of(4, 5)), api.Op{})
}

// P14.3: ErrForm, ahead of all else.
func TestErrForm(t *testing.T) {
	states := illFormed()
	for _, x := range hanging() {
		states = append(states, x.s)
	}
	for _, s := range states {
		fails(t, s, api.ErrForm)
		fails(t, s, api.ErrForm, node(uint64(len(s.Nodes))+1, of(0, 1)))
		fails(t, s, api.ErrForm, keep(false, 9, of(0, 1)))
		fails(t, s, api.ErrForm, keep(false, 1, of(0, 1<<40)), keep(false, 2, of(0, 1<<40)), keep(false, 3, of(0, 1<<40)))
		fails(t, s, api.ErrForm, make([]api.Op, 257)...)
	}
}

// P14.3: ErrLong, for more than 256 operations, ahead of what they are.
func TestErrLong(t *testing.T) {
	var ops []api.Op
	for i := range uint64(256) {
		ops = append(ops, node(i+1, of(i, i+1)))
	}
	if s := applied(t, State{}, ops...); len(s.Nodes) != 256 || s.Nodes[255].Valid[0] != of(255, 256) {
		t.Errorf("there are %d nodes", len(s.Nodes))
	}
	fails(t, State{}, api.ErrLong, append(ops, node(257, of(0, 1)))...)
	fails(t, State{}, api.ErrLong, make([]api.Op, 257)...)
	fails(t, State{}, api.ErrLong, make([]api.Op, 1000)...)
	fails(t, State{}, api.ErrArg, make([]api.Op, 256)...)
	fails(t, good(), api.ErrLong, append(ops, keep(true, 1, of(0, 1)))...)
}

// P14.3: ErrLong, for too many properties, in its turn among the operations.
func TestErrLongProperties(t *testing.T) {
	ops := []api.Op{node(1, of(0, 9))}
	for i := range 16 {
		ops = append(ops, set(false, 1, string(rune('a'+i)), of(0, 1), number(1)))
	}
	s := applied(t, State{}, ops...)
	more := set(false, 1, "z", of(0, 1), number(1))
	fails(t, s, api.ErrLong, more)
	fails(t, State{}, api.ErrLong, append(ops, more, api.Op{})...)
	fails(t, s, api.ErrLong, more, keep(true, 1, of(0, 1)))
	fails(t, s, api.ErrUnknown, keep(true, 1, of(0, 1)), more)
	fails(t, s, api.ErrUnknown, set(false, 1, "z", of(0, 10), number(1)))
	fails(t, s, api.ErrArg, api.Op{}, more)
	fails(t, s, api.ErrLong, edge(1, 1, 1, of(20, 21)), more)
	applied(t, s, set(false, 1, "b", of(0, 1), api.Value{}), more)
	applied(t, s, drop(false, 1, of(0, 1)), keep(false, 1, of(0, 1)), more)
}

// P14.3: ErrArg, for operations that are not valid, and for Ids that are not the next ones, ahead of nodes and edges that don't exist.
func TestErrArg(t *testing.T) {
	s := good()
	l := []api.Op{
		{}, {Kind: 6, Id: 1, Period: of(0, 1)}, {Kind: -1, Id: 1, Period: of(0, 1)}, {Kind: math.MaxInt, Id: 4, Period: of(0, 1)},
		{Kind: api.OpNode, Edge: true, Id: 4, Period: of(0, 1)}, {Kind: api.OpEdge, Id: 4, From: 1, To: 1, Period: of(0, 1)}, {Kind: api.OpNode, Id: 4, From: 1, To: 1, Period: of(0, 1)},
		edge(4, 0, 1, of(0, 1)), edge(4, 1, 0, of(0, 1)), edge(4, 1, 1<<40+1, of(0, 1)), edge(4, math.MaxUint64, 1, of(0, 1)),
		set(false, 1, "", of(0, 1), number(1)), set(false, 1, "K", of(0, 1), number(1)), set(false, 1, "k", of(0, 1), api.Value{Kind: api.Node, Num: 1}), set(false, 9, "k", of(0, 1), api.Value{Kind: 7}), set(true, 9, "k", of(0, 1), api.Value{Num: 1}),
		{Kind: api.OpKeep, Id: 1, Label: "n", Period: of(0, 1)}, {Kind: api.OpDrop, Id: 1, Key: "a", Period: of(0, 1)}, {Kind: api.OpKeep, Edge: true, Id: 1, From: 1, To: 2, Period: of(0, 1)},
	}
	for _, id := range []uint64{0, 1, 2, 3, 5, 1 << 40, 1<<40 + 1, math.MaxUint64} {
		l = append(l, node(id, of(0, 1)), edge(id, 1, 1, of(0, 1)), edge(id, 9, 9, of(0, 1)), edge(id, 1<<40, 1, of(0, 1)))
	}
	for _, id := range []uint64{0, 1<<40 + 1, math.MaxUint64} {
		l = append(l, keep(false, id, of(0, 1)), drop(true, id, of(0, 1)), set(false, id, "k", of(0, 1), number(1)))
	}
	for _, p := range badPeriods() {
		l = append(l, node(4, p), edge(4, 1, 1, p), keep(false, 1, p), drop(true, 1, p), set(false, 1, "k", p, number(1)), keep(false, 9, p), set(true, 9, "k", p, api.Value{}))
	}
	for _, o := range l {
		fails(t, s, api.ErrArg, o)
		fails(t, s, api.ErrArg, drop(false, 1, of(0, 1)), o, keep(false, 9, of(0, 1)))
		fails(t, s, api.ErrUnknown, keep(false, 4, of(0, 1)), o)
	}
	fails(t, s, api.ErrArg, node(4, of(0, 1)), node(4, of(0, 1)))
	fails(t, s, api.ErrArg, node(4, of(0, 1)), node(6, of(0, 1)))
	fails(t, s, api.ErrArg, edge(4, 1, 1, of(0, 1)), edge(4, 1, 1, of(0, 1)))
	applied(t, s, node(4, of(0, 1)), edge(4, 1, 1, of(0, 1)), node(5, of(0, 1)), edge(5, 4, 5, of(0, 1)))
}

// P14.3: ErrUnknown, for what doesn't exist, or not yet, or not at each instant.
func TestErrUnknown(t *testing.T) {
	s := good()
	for _, id := range []uint64{4, 5, 1 << 40} {
		for _, x := range []bool{false, true} {
			for _, o := range []api.Op{keep(x, id, of(0, 1)), drop(x, id, of(0, 1)), set(x, id, "k", of(0, 1), number(1)), set(x, id, "k", of(0, 1), api.Value{})} {
				fails(t, s, api.ErrUnknown, o)
				fails(t, s, api.ErrUnknown, o, node(4, of(0, 1)), edge(4, 1, 1, of(0, 1)))
				fails(t, s, api.ErrUnknown, o, api.Op{})
			}
		}
		fails(t, s, api.ErrUnknown, edge(4, 1, id, of(0, 1)))
		fails(t, s, api.ErrUnknown, edge(4, id, 1, of(0, 1)))
		fails(t, s, api.ErrUnknown, edge(4, id, id, of(0, 1)), node(4, of(0, 1)))
	}
	fails(t, s, api.ErrUnknown, set(false, 1, "k", of(9, 11), number(1)))
	fails(t, s, api.ErrUnknown, set(true, 3, "k", of(0, 1), api.Value{}))
	fails(t, s, api.ErrUnknown, drop(false, 1, of(3, 4)), set(false, 1, "k", of(2, 5), number(1)))
	applied(t, s, keep(false, 1, of(10, 11)), set(false, 1, "k", of(9, 11), number(1)))
	applied(t, s, node(4, of(0, 1)), edge(4, 4, 1, of(0, 1)), set(true, 4, "k", of(0, 1), number(1)), keep(false, 4, of(1, 2)), drop(true, 4, of(0, 9)))
}

// P14.3: the same Id is another entity among the nodes than among the edges.
func TestNodeOrEdge(t *testing.T) {
	s := applied(t, State{}, node(1, of(0, 9)), node(2, of(0, 9)), edge(1, 1, 2, of(3, 5)), set(true, 1, "k", of(3, 4), number(1)), set(false, 1, "j", of(3, 4), number(2)), drop(true, 1, of(4, 5)), keep(false, 2, of(10, 11)))
	want := State{
		Nodes: []entity.Entity{{Id: 1, Label: "n", Valid: periods(0, 9), Props: []entity.Prop{{Key: "j", Line: []piece.Piece{{Period: of(3, 4), Value: number(2)}}}}}, {Id: 2, Label: "n", Valid: periods(0, 9, 10, 11)}},
		Edges: []entity.Entity{{Edge: true, Id: 1, Label: "e", From: 1, To: 2, Valid: periods(3, 4), Props: []entity.Prop{{Key: "k", Line: []piece.Piece{{Period: of(3, 4), Value: number(1)}}}}}},
	}
	if !equal(s, want) {
		t.Errorf("the state is %v", s)
	}
}

// spoil fills all the memory of an answer, and that behind its lists, and checks that no two of its lists share any.
func spoil(t *testing.T, s State) {
	t.Helper()
	lists := []*[]entity.Entity{&s.Nodes, &s.Edges}
	for _, list := range lists {
		for i := range *list {
			kept := deep(s)
			e := &(*list)[i]
			for j := range e.Props {
				line := e.Props[j].Line[:cap(e.Props[j].Line)]
				for k := range line {
					line[k] = piece.Piece{Period: of(7, 7)}
				}
			}
			props := e.Props[:cap(e.Props)]
			for j := range props {
				props[j].Key = "spoilt"
			}
			valid := e.Valid[:cap(e.Valid)]
			for j := range valid {
				valid[j] = of(7, 7)
			}
			places := [][]entity.Entity{kept.Nodes, kept.Edges}
			if list == lists[0] {
				places[0][i] = *e
			} else {
				places[1][i] = *e
			}
			if !equal(kept, s) {
				t.Errorf("lists of %v share memory", s)
			}
		}
	}
	for _, list := range lists {
		all := (*list)[:cap(*list)]
		for i := range all {
			all[i] = entity.Entity{Id: 99}
		}
	}
}

// Arguments are not changed, and what is returned is new memory.
func TestMemory(t *testing.T) {
	s, kept := deep(good()), good()
	behind := entity.Entity{Label: "behind"}
	s.Nodes[:4][3], s.Edges[:4][3] = behind, behind
	for _, ops := range [][]api.Op{
		nil, {node(4, of(0, 1))}, {edge(4, 1, 1, of(0, 1))}, {keep(false, 1, of(10, 11))}, {keep(false, 1, of(10, 12))}, {drop(true, 1, of(6, 7))}, {drop(false, 1, of(3, 4))}, {drop(false, 1, of(7, 8))},
		{set(false, 1, "a", of(2, 4), number(1))}, {set(false, 1, "a", of(3, 4), api.Value{})}, {set(false, 1, "c", of(3, 4), number(1)), set(false, 2, "c", of(5, 6), number(1)), node(4, of(0, 9)), node(5, of(0, 9)), edge(4, 4, 5, of(0, 9)), set(true, 4, "k", of(0, 9), number(1))},
		{node(4, of(0, 1)), {}},
	} {
		opsKept := slices.Clone(ops)
		got, _ := Apply(s, ops)
		spoil(t, got)
		for _, edge := range []bool{false, true} {
			for id := range uint64(5) {
				if e, is := Get(s, edge, id); is {
					spoil(t, State{Nodes: []entity.Entity{e}})
				}
			}
		}
		clear(Ends(s))
		if Dangling(s); !May(s) || !Same(s, kept) || !equal(s, kept) || !slices.Equal(ops, opsKept) {
			t.Fatalf("by %v the argument became %v", ops, s)
		}
		if !equalEntities(s.Nodes[:4][3], behind) || !equalEntities(s.Edges[:4][3], behind) {
			t.Fatalf("by %v there is %v behind the nodes, %v behind the edges", ops, s.Nodes[:4][3], s.Edges[:4][3])
		}
	}
}
