package batch

import (
	"math"
	"math/rand"
	"slices"
	"testing"

	"almanac/api"
	"almanac/entity"
	"almanac/piece"
)

// This file is the chapter once more, without the package and those below it: what a graph is at each instant, and what a list of operations does to it.

// width is how many instants a window has.
const width = 5

// bases are where windows begin: at the begin of time, within it, and at its end.
func bases() []uint64 { return []uint64{0, 1, 1 << 33, 1<<40 - width} }

// meaning is what a property is at the instants of a window: Ints, or 0, where it is Null.
type meaning [width]int64

// thing is a node, or an edge, of which nothing is known but the instants of a window. At all others it isn't valid.
type thing struct {
	label    string
	from, to uint64
	valid    [width]bool
	props    map[string]meaning
}

// graph is a state in a window.
type graph struct {
	base         uint64
	nodes, edges []thing
}

// number is an Int.
func number(n int64) api.Value { return api.Value{Kind: api.Int, Num: n} }

// of is the period with these ends.
func of(from, to uint64) api.Period { return api.Period{From: from, To: to} }

// periods are the periods with these ends, by twos.
func periods(ends ...uint64) []api.Period {
	var l []api.Period
	for i := 0; i < len(ends); i += 2 {
		l = append(l, of(ends[i], ends[i+1]))
	}
	return l
}

// badPeriods are periods that are not valid.
func badPeriods() []api.Period {
	return periods(0, 0, 3, 3, 4, 3, 1<<40, 1<<40, 0, 1<<40+1, 3, 1<<40+1, 1<<40, 1<<40+1, 0, math.MaxUint64, math.MaxUint64, 0)
}

// node is an OpNode.
func node(id uint64, p api.Period) api.Op {
	return api.Op{Kind: api.OpNode, Id: id, Label: "n", Period: p}
}

// edge is an OpEdge.
func edge(id, from, to uint64, p api.Period) api.Op {
	return api.Op{Kind: api.OpEdge, Edge: true, Id: id, Label: "e", From: from, To: to, Period: p}
}

// keep is an OpKeep.
func keep(edge bool, id uint64, p api.Period) api.Op {
	return api.Op{Kind: api.OpKeep, Edge: edge, Id: id, Period: p}
}

// drop is an OpDrop.
func drop(edge bool, id uint64, p api.Period) api.Op {
	return api.Op{Kind: api.OpDrop, Edge: edge, Id: id, Period: p}
}

// set is an OpSet.
func set(edge bool, id uint64, key string, p api.Period, v api.Value) api.Op {
	return api.Op{Kind: api.OpSet, Edge: edge, Id: id, Key: key, Value: v, Period: p}
}

// entity is the node, or the edge, of that Id that the thing means.
func (x thing) entity(base uint64, edge bool, id uint64) entity.Entity {
	e := entity.Entity{Edge: edge, Id: id, Label: x.label, From: x.from, To: x.to}
	for i, valid := range x.valid {
		t := base + uint64(i)
		switch {
		case !valid:
		case i > 0 && x.valid[i-1]:
			e.Valid[len(e.Valid)-1].To++
		default:
			e.Valid = append(e.Valid, of(t, t+1))
		}
	}
	var keys []string
	for key, m := range x.props {
		if m != (meaning{}) {
			keys = append(keys, key)
		}
	}
	slices.Sort(keys)
	for _, key := range keys {
		e.Props = append(e.Props, entity.Prop{Key: key, Line: x.props[key].line(base)})
	}
	return e
}

// line is what m means in the window at base.
func (m meaning) line(base uint64) []piece.Piece {
	var l []piece.Piece
	for i, n := range m {
		t := base + uint64(i)
		switch {
		case n == 0:
		case i > 0 && n == m[i-1]:
			l[len(l)-1].Period.To++
		default:
			l = append(l, piece.Piece{Period: of(t, t+1), Value: number(n)})
		}
	}
	return l
}

// state is the state that the graph means.
func (g graph) state() State {
	var s State
	for i, x := range g.nodes {
		s.Nodes = append(s.Nodes, x.entity(g.base, false, uint64(i)+1))
	}
	for i, x := range g.edges {
		s.Edges = append(s.Edges, x.entity(g.base, true, uint64(i)+1))
	}
	return s
}

// copied is the graph in memory of its own.
func (g graph) copied() graph {
	copy := func(l []thing) []thing {
		l = slices.Clone(l)
		for i, x := range l {
			l[i].props = map[string]meaning{}
			for key, m := range x.props {
				l[i].props[key] = m
			}
		}
		return l
	}
	g.nodes, g.edges = copy(g.nodes), copy(g.edges)
	return g
}

// dangling is the first edge that is valid at an instant at which one of its nodes is not, and the first such instant.
func (g graph) dangling() (uint64, uint64, bool) {
	for i, e := range g.edges {
		for k := range width {
			if e.valid[k] && !(g.nodes[e.from-1].valid[k] && g.nodes[e.to-1].valid[k]) {
				return uint64(i) + 1, g.base + uint64(k), true
			}
		}
	}
	return 0, 0, false
}

// after is what becomes of the graph by the operations, which are valid, and within the window.
func (g graph) after(ops []api.Op) (graph, api.Errno) {
	g = g.copied()
	for _, o := range ops {
		if err := g.apply(o); err != api.OK {
			return graph{}, err
		}
	}
	if _, _, dangles := g.dangling(); dangles {
		return graph{}, api.ErrDangling
	}
	return g, api.OK
}

// apply changes the graph as o, a valid operation within the window, says.
func (g *graph) apply(o api.Op) api.Errno {
	list := &g.nodes
	if o.Edge {
		list = &g.edges
	}
	places := []int{}
	for i := range width {
		if t := g.base + uint64(i); o.Period.From <= t && t < o.Period.To {
			places = append(places, i)
		}
	}
	if o.Kind == api.OpNode || o.Kind == api.OpEdge {
		if o.Id != uint64(len(*list)+1) {
			return api.ErrArg
		}
		if count := uint64(len(g.nodes)); o.From > count || o.To > count {
			return api.ErrUnknown
		}
		x := thing{label: o.Label, from: o.From, to: o.To, props: map[string]meaning{}}
		for _, i := range places {
			x.valid[i] = true
		}
		*list = append(*list, x)
		return api.OK
	}
	if o.Id > uint64(len(*list)) {
		return api.ErrUnknown
	}
	return (*list)[o.Id-1].apply(o, places)
}

// apply changes the thing at these places of the window, as o says.
func (x *thing) apply(o api.Op, places []int) api.Errno {
	m := x.props[o.Key]
	for _, i := range places {
		if o.Kind == api.OpSet && !x.valid[i] {
			return api.ErrUnknown
		}
		m[i] = o.Value.Num
	}
	if o.Kind == api.OpSet {
		if o.Value.Kind != api.Null && x.props[o.Key] == (meaning{}) && x.keys() == 16 {
			return api.ErrLong
		}
		x.props[o.Key] = m
		return api.OK
	}
	for _, i := range places {
		x.valid[i] = o.Kind == api.OpKeep
		for key, m := range x.props {
			if o.Kind == api.OpDrop {
				m[i] = 0
			}
			x.props[key] = m
		}
	}
	return api.OK
}

// keys is how many properties the thing has.
func (x thing) keys() int {
	n := 0
	for _, m := range x.props {
		if m != (meaning{}) {
			n++
		}
	}
	return n
}

// inWindow is some valid period within the window at base.
func inWindow(r *rand.Rand, base uint64) api.Period {
	from := uint64(r.Intn(width))
	return of(base+from, base+from+1+uint64(r.Intn(width-int(from))))
}

// some is an operation within the window, on what there is in the graph, or a little beyond. Periods of edges are short, and those of nodes long, so that not all of them dangle.
func (g graph) some(r *rand.Rand) api.Op {
	nodes, edges := len(g.nodes), len(g.edges)
	beyond := func(n int) uint64 { return uint64(1 + r.Intn(n+1)) }
	p := inWindow(r, g.base)
	whole := of(g.base, g.base+width)
	switch r.Intn(20) {
	case 0:
		return node(uint64(nodes+1), whole)
	case 1:
		return node(beyond(nodes), p)
	case 2, 3, 4:
		return edge(uint64(edges+1), beyond(nodes), beyond(nodes), of(p.From, p.From+1))
	case 5:
		return edge(beyond(edges), 1, 1, of(p.From, p.From+1))
	case 6, 7:
		return keep(false, beyond(nodes), p)
	case 8:
		return keep(true, beyond(edges), of(p.From, p.From+1))
	case 9:
		return drop(false, beyond(nodes), of(p.From, p.From+1))
	case 10, 11, 12:
		return drop(true, beyond(edges), p)
	}
	v := number(int64(1 + r.Intn(3)))
	if r.Intn(4) == 0 {
		v = api.Value{}
	}
	x := r.Intn(3) == 0
	n := nodes
	if x {
		n = edges
	}
	return set(x, beyond(n), string(rune('a'+r.Intn(3))), p, v)
}

// walk calls f with graphs and lists of operations, which are applied one list after the other, if they can be.
func walk(t *testing.T, steps int, f func(g graph, ops []api.Op)) {
	t.Helper()
	r := rand.New(rand.NewSource(14))
	var count [api.ErrUnknown + 1]int
	for _, base := range bases() {
		g := graph{base: base}
		for n := range steps {
			if n%100 == 0 {
				g = graph{base: base}
			}
			ops := []api.Op{}
			next := g.copied()
			for range r.Intn(5) {
				o := next.some(r)
				if err := next.copied().try(o); err != api.OK && r.Intn(6) > 0 {
					continue
				}
				next.apply(o)
				ops = append(ops, o)
			}
			f(g, ops)
			next, err := g.after(ops)
			if count[err]++; err == api.OK {
				g = next
			}
		}
	}
	if min(count[api.OK], count[api.ErrArg], count[api.ErrUnknown], count[api.ErrDangling]) < steps/20 {
		t.Errorf("too few of one sort: %v", count)
	}
}

// try is the error of o by itself.
func (g graph) try(o api.Op) api.Errno { return g.apply(o) }

// equal tells whether a and b agree in all fields.
func equal(a, b State) bool {
	return slices.EqualFunc(a.Nodes, b.Nodes, equalEntities) && slices.EqualFunc(a.Edges, b.Edges, equalEntities)
}

// equalEntities tells whether a and b agree in all fields.
func equalEntities(a, b entity.Entity) bool {
	return a.Edge == b.Edge && a.Id == b.Id && a.Label == b.Label && a.From == b.From && a.To == b.To && slices.Equal(a.Valid, b.Valid) &&
		slices.EqualFunc(a.Props, b.Props, func(x, y entity.Prop) bool {
			return x.Key == y.Key && slices.Equal(x.Line, y.Line)
		})
}

// deep is s in new memory, with room behind each list.
func deep(s State) State {
	room := func(l []entity.Entity) []entity.Entity {
		out := make([]entity.Entity, 0, len(l)+3)
		for _, e := range l {
			e.Valid = append(make([]api.Period, 0, len(e.Valid)+3), e.Valid...)
			props := make([]entity.Prop, 0, len(e.Props)+3)
			for _, x := range e.Props {
				props = append(props, entity.Prop{Key: x.Key, Line: append(make([]piece.Piece, 0, len(x.Line)+3), x.Line...)})
			}
			e.Props = props
			out = append(out, e)
		}
		return out
	}
	return State{Nodes: room(s.Nodes), Edges: room(s.Edges)}
}
