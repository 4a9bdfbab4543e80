package entity

import (
	"math"
	"math/rand"
	"slices"
	"strings"
	"testing"

	"almanac/api"
	"almanac/piece"
)

// This file is the chapter once more, without the package and those below it: what an entity is at each instant, and what an operation does to it.

// width is how many instants a window has.
const width = 5

// bases are where windows begin: at the begin of time, within it, and at its end.
func bases() []uint64 { return []uint64{0, 1, 1 << 33, 1<<40 - width} }

// none is the place of no value: there a property is Null.
const none = -1

// meaning is what a property is at the instants of a window: the places of values in a palette, or none.
type meaning [width]int

// model is an entity of which nothing is known but the instants of a window. At all others it isn't valid.
type model struct {
	base  uint64
	valid [width]bool
	props map[string]meaning
}

// number is an Int.
func number(n int64) api.Value { return api.Value{Kind: api.Int, Num: n} }

// point is a Float, with these bits.
func point(f float64) api.Value { return api.Value{Kind: api.Float, Float: f} }

// word is a Str.
func word(s string) api.Value { return api.Value{Kind: api.Str, Str: s} }

// palette are values that a property can have, each of them once.
func palette() []api.Value {
	return []api.Value{
		number(1), point(1), point(0), point(math.Copysign(0, -1)), {Kind: api.Bool}, {Kind: api.Bool, Bool: true}, word(""), word("1"),
		point(math.Float64frombits(0x7ff8000000000001)), point(math.Inf(1)), number(math.MinInt64), word(strings.Repeat("x", 32)),
	}
}

// badValues are values that no property can have, nor an operation, but for Null.
func badValues() []api.Value {
	return []api.Value{
		{Kind: 7}, {Kind: -1}, {Num: 1}, {Str: "a"}, {Float: math.Copysign(0, -1)}, {Kind: api.Int, Num: 1, Str: "1"}, {Kind: api.Bool, Num: 1},
		point(math.Float64frombits(0x7ff8000000000002)), word(strings.Repeat("x", 33)),
		{Kind: api.Node, Num: 1}, {Kind: api.Edge, Num: 1}, {Kind: api.Node}, {Kind: api.Edge, Num: 1<<40 + 1},
	}
}

// of is the period with these ends.
func of(from, to uint64) api.Period { return api.Period{From: from, To: to} }

// periods are the periods with these ends, by twos.
func periods(ends ...uint64) []api.Period {
	var l []api.Period
	for i := 0; i < len(ends); i += 2 {
		l = append(l, of(ends[i], ends[i+1]))
	}
	return l
}

// badPeriods are periods that are not valid.
func badPeriods() []api.Period {
	return periods(0, 0, 3, 3, 4, 3, 1<<40, 1<<40, 0, 1<<40+1, 3, 1<<40+1, 1<<40, 1<<40+1, 0, math.MaxUint64, math.MaxUint64, 0)
}

// at is a piece with these ends.
func at(from, to uint64, v api.Value) piece.Piece { return piece.Piece{Period: of(from, to), Value: v} }

// prop is a property with these pieces.
func prop(key string, line ...piece.Piece) Prop { return Prop{Key: key, Line: line} }

// isSame tells whether two valid values are the same: only values that agree in all their bits are.
func isSame(a, b api.Value) bool {
	return a.Kind == b.Kind && a.Bool == b.Bool && a.Num == b.Num && a.Str == b.Str && math.Float64bits(a.Float) == math.Float64bits(b.Float)
}

// equalLines tells whether a and b have the same pieces.
func equalLines(a, b []piece.Piece) bool {
	return slices.EqualFunc(a, b, func(x, y piece.Piece) bool { return x.Period == y.Period && isSame(x.Value, y.Value) })
}

// equal tells whether a and b agree in all fields.
func equal(a, b Entity) bool {
	return a.Edge == b.Edge && a.Id == b.Id && a.Label == b.Label && a.From == b.From && a.To == b.To && slices.Equal(a.Valid, b.Valid) &&
		slices.EqualFunc(a.Props, b.Props, func(x, y Prop) bool { return x.Key == y.Key && equalLines(x.Line, y.Line) })
}

// isZero tells whether e is what stands beside an error.
func isZero(e Entity) bool {
	return !e.Edge && e.Id == 0 && e.Label == "" && e.From == 0 && e.To == 0 && len(e.Valid) == 0 && len(e.Props) == 0
}

// deep is e in new memory, with room behind each list.
func deep(e Entity) Entity {
	e.Valid = append(make([]api.Period, 0, len(e.Valid)+8), e.Valid...)
	props := make([]Prop, 0, len(e.Props)+8)
	for _, x := range e.Props {
		props = append(props, Prop{Key: x.Key, Line: append(make([]piece.Piece, 0, len(x.Line)+8), x.Line...)})
	}
	e.Props = props
	return e
}

// heads are entities without instants: a node and an edge, with what they have for all time.
func heads() []Entity {
	return []Entity{{Id: 1, Label: "n"}, {Edge: true, Id: 1 << 40, From: 7, To: 1 << 40}}
}

// valueOf is the value at this place of the palette, or Null.
func valueOf(n int) api.Value {
	if n == none {
		return api.Value{}
	}
	return palette()[n]
}

// nothing is the meaning of a property that is not there.
func nothing() meaning {
	var m meaning
	for i := range m {
		m[i] = none
	}
	return m
}

// line is what m means in the window at base.
func (m meaning) line(base uint64) []piece.Piece {
	var l []piece.Piece
	for i, n := range m {
		t := base + uint64(i)
		switch {
		case n == none:
		case i > 0 && n == m[i-1]:
			l[len(l)-1].Period.To++
		default:
			l = append(l, at(t, t+1, palette()[n]))
		}
	}
	return l
}

// entity is the entity that the model means, with the label, and all else, of head.
func (m model) entity(head Entity) Entity {
	for i, valid := range m.valid {
		t := m.base + uint64(i)
		switch {
		case !valid:
		case i > 0 && m.valid[i-1]:
			head.Valid[len(head.Valid)-1].To++
		default:
			head.Valid = append(head.Valid, of(t, t+1))
		}
	}
	var keys []string
	for key, x := range m.props {
		if x != nothing() {
			keys = append(keys, key)
		}
	}
	slices.Sort(keys)
	for _, key := range keys {
		head.Props = append(head.Props, Prop{Key: key, Line: m.props[key].line(m.base)})
	}
	return head
}

// copied is m with a map of its own.
func (m model) copied() model {
	props := map[string]meaning{}
	for key, x := range m.props {
		props[key] = x
	}
	m.props = props
	return m
}

// keys is how many properties m has.
func (m model) keys() int {
	n := 0
	for _, x := range m.props {
		if x != nothing() {
			n++
		}
	}
	return n
}

// covers tells whether m is valid at each instant of the period.
func (m model) covers(p api.Period) bool {
	if p.From < m.base || p.To > m.base+width {
		return false
	}
	return !slices.Contains(m.valid[p.From-m.base:p.To-m.base], false)
}

// after is what becomes of m by the operation o, which applies to it: the value of an OpSet is at the place n of the palette. An OpKeep must be within the window.
func (m model) after(o api.Op, n int) (model, api.Errno) {
	m = m.copied()
	if o.Kind == api.OpSet {
		if !m.covers(o.Period) {
			return model{}, api.ErrUnknown
		}
		x, found := m.props[o.Key]
		if !found {
			x = nothing()
			m.props[o.Key] = x
		}
		if x == nothing() && n != none && m.keys() >= 16 {
			return model{}, api.ErrLong
		}
	}
	for i := range width {
		if t := m.base + uint64(i); o.Period.From <= t && t < o.Period.To {
			m.change(o, n, i)
		}
	}
	return m, api.OK
}

// change does at one instant what o does at each of its period.
func (m *model) change(o api.Op, n, i int) {
	m.valid[i] = o.Kind != api.OpDrop
	for key, x := range m.props {
		switch {
		case o.Kind == api.OpDrop:
			x[i] = none
		case o.Kind == api.OpSet && key == o.Key:
			x[i] = n
		}
		m.props[key] = x
	}
}

// some is a model with these keys, and values among the first n of the palette, in one window.
func some(r *rand.Rand, base uint64, n int, keys ...string) model {
	m := model{base: base, props: map[string]meaning{}}
	for i := range m.valid {
		m.valid[i] = r.Intn(4) > 0
	}
	for _, key := range keys {
		x := nothing()
		for i := range x {
			if m.valid[i] {
				x[i] = r.Intn(n+1) - 1
			}
		}
		m.props[key] = x
	}
	return m
}

// allModels calls f with all models of one property that has values among the first n of the palette.
func allModels(n int, f func(m model)) {
	total := 1
	for range width {
		total *= n + 2
	}
	for _, base := range bases() {
		for k := range total {
			m := model{base: base}
			x := nothing()
			for i := range width {
				m.valid[i] = k%(n+2) > 0
				x[i] = max(none, k%(n+2)-2)
				k /= n + 2
			}
			m.props = map[string]meaning{"k": x}
			f(m)
		}
	}
}

// someModels calls f with models of some properties, and all sorts of values.
func someModels(f func(r *rand.Rand, m model)) {
	r := rand.New(rand.NewSource(13))
	for _, base := range bases() {
		for n := range 400 {
			f(r, some(r, base, 1+n%len(palette()), []string{"k", "a", "b2", "a_", "z"}[:n%6]...))
		}
	}
}

// inWindow are the valid periods within the window at base.
func inWindow(base uint64) []api.Period {
	var l []api.Period
	for from := range uint64(width) {
		for to := from + 1; to <= width; to++ {
			l = append(l, of(base+from, base+to))
		}
	}
	return l
}

// around are valid periods that reach out of the window at base, or are beside it.
func around(base uint64) []api.Period {
	var l []api.Period
	if base > 0 {
		l = append(l, of(base-1, base), of(base-1, base+2), of(0, base+width))
	}
	if base+width < 1<<40 {
		l = append(l, of(base+width, base+width+1), of(base+2, 1<<40), of(base+width, 1<<40))
	}
	return append(l, of(0, 1<<40))
}

// instants are those of the window at base, and some beside it and beyond time.
func instants(base uint64) []uint64 {
	l := []uint64{0, base - 1, base + width, 1<<40 - 1, 1 << 40, 1<<40 + 1, math.MaxUint64}
	for i := range uint64(width) {
		l = append(l, base+i)
	}
	return l
}

// keepOp is an OpKeep of e.
func keepOp(e Entity, p api.Period) api.Op {
	return api.Op{Kind: api.OpKeep, Edge: e.Edge, Id: e.Id, Period: p}
}

// dropOp is an OpDrop of e.
func dropOp(e Entity, p api.Period) api.Op {
	return api.Op{Kind: api.OpDrop, Edge: e.Edge, Id: e.Id, Period: p}
}

// setOp is an OpSet of e.
func setOp(e Entity, key string, p api.Period, v api.Value) api.Op {
	return api.Op{Kind: api.OpSet, Edge: e.Edge, Id: e.Id, Key: key, Value: v, Period: p}
}

// apply is what Apply returns, which has to be OK.
func apply(t *testing.T, e Entity, ops ...api.Op) Entity {
	t.Helper()
	for _, o := range ops {
		next, err := Apply(e, o)
		if err != api.OK {
			t.Fatalf("Apply(%v, %v) is %d", e, o, err)
		}
		e = next
	}
	return e
}
