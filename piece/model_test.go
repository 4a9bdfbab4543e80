package piece

import (
	"math"
	"math/rand"
	"slices"
	"strings"
	"testing"

	"almanac/api"
)

// This file is the chapter once more, without the package and those below it: what a line is, and what it means at each instant.

// width is how many instants a window has.
const width = 5

// bases are where windows begin: at the begin of time, within it, and at its end.
func bases() []uint64 { return []uint64{0, 1, 1 << 33, 1<<40 - width} }

// meaning is what a line means at the instants of a window: the places of values in a palette, or none.
type meaning [width]int

// none is the place of no value: there the meaning is Null.
const none = -1

// number is an Int.
func number(n int64) api.Value { return api.Value{Kind: api.Int, Num: n} }

// point is a Float, with these bits.
func point(f float64) api.Value { return api.Value{Kind: api.Float, Float: f} }

// word is a Str.
func word(s string) api.Value { return api.Value{Kind: api.Str, Str: s} }

// truth is a Bool.
func truth(b bool) api.Value { return api.Value{Kind: api.Bool, Bool: b} }

// node is a Node.
func node(n int64) api.Value { return api.Value{Kind: api.Node, Num: n} }

// edge is an Edge.
func edge(n int64) api.Value { return api.Value{Kind: api.Edge, Num: n} }

// palette are values that a piece can have, each of them once. Many are nearly the same.
func palette() []api.Value {
	return []api.Value{
		number(1), point(1), number(0), point(0), point(math.Copysign(0, -1)), truth(false), truth(true), word(""), word("a"), word("1"),
		point(math.Float64frombits(0x7ff8000000000001)), point(math.Inf(1)), point(math.Inf(-1)), number(-1), number(math.MaxInt64), number(math.MinInt64),
		point(1 << 63), number(1<<53 + 1), point(1 << 53), word("a\x00"), word("A"), word("\xff"), word(strings.Repeat("x", 32)),
	}
}

// invalid are values that are not valid.
func invalid() []api.Value {
	return []api.Value{
		{Kind: 7}, {Kind: -1}, {Kind: 99, Num: 1}, {Num: 1}, {Str: "a"}, {Bool: true}, {Float: math.Copysign(0, -1)}, {Float: 1},
		{Kind: api.Bool, Num: 1}, {Kind: api.Int, Float: 1}, {Kind: api.Int, Num: 1, Str: "1"}, {Kind: api.Float, Num: 1, Float: 1}, {Kind: api.Str, Str: "a", Bool: true},
		point(math.Float64frombits(0x7ff8000000000002)), point(math.Float64frombits(0xfff8000000000001)), word(strings.Repeat("x", 33)),
		node(0), node(-1), node(1<<40 + 1), edge(0), edge(1<<40 + 1),
	}
}

// entities are valid values that no piece can have, but for Null.
func entities() []api.Value {
	return []api.Value{node(1), node(7), node(1 << 40), edge(1), edge(7), edge(1 << 40)}
}

// of is the period with these ends.
func of(from, to uint64) api.Period { return api.Period{From: from, To: to} }

// at is a piece with these ends.
func at(from, to uint64, v api.Value) Piece { return Piece{Period: of(from, to), Value: v} }

// periods are the periods with these ends, by twos.
func periods(ends ...uint64) []api.Period {
	var l []api.Period
	for i := 0; i < len(ends); i += 2 {
		l = append(l, of(ends[i], ends[i+1]))
	}
	return l
}

// badPeriods are periods that are not valid.
func badPeriods() []api.Period {
	return periods(0, 0, 3, 3, 4, 3, 1<<40, 1<<40, 0, 1<<40+1, 3, 1<<40+1, 1<<40, 1<<40+1, 0, math.MaxUint64, math.MaxUint64, 0, math.MaxUint64-1, math.MaxUint64, math.MaxUint64, math.MaxUint64)
}

// isSame tells whether two valid values are the same: only values that agree in all their bits are.
func isSame(a, b api.Value) bool {
	return a.Kind == b.Kind && a.Bool == b.Bool && a.Num == b.Num && a.Str == b.Str && math.Float64bits(a.Float) == math.Float64bits(b.Float)
}

// equal tells whether a and b have the same pieces, whose values are valid.
func equal(a, b []Piece) bool {
	return slices.EqualFunc(a, b, func(x, y Piece) bool { return x.Period == y.Period && isSame(x.Value, y.Value) })
}

// isAmong tells whether v is one of l.
func isAmong(l []api.Value, v api.Value) bool {
	return slices.ContainsFunc(l, func(x api.Value) bool { return isSame(x, v) })
}

// isLine tells whether l, whose values are of the palette, invalid, entities, or Null, is a line.
func isLine(l []Piece) bool {
	for i, x := range l {
		if x.Period.From >= x.Period.To || x.Period.To > 1<<40 || !isAmong(palette(), x.Value) {
			return false
		}
		for j, y := range l {
			if i < j && x.Period.To > y.Period.From || x.Period.To == y.Period.From && isSame(x.Value, y.Value) {
				return false
			}
		}
	}
	return true
}

// line is the line that means m in the window at base, and Null everywhere else.
func (m meaning) line(base uint64) []Piece {
	var l []Piece
	for i, n := range m {
		t := base + uint64(i)
		switch {
		case n == none:
		case i > 0 && n == m[i-1]:
			l[len(l)-1].Period.To++
		default:
			l = append(l, at(t, t+1, palette()[n]))
		}
	}
	return l
}

// instants are the instants of the window at base that are chosen by their meanings, as a normal form.
func (m meaning) instants(base uint64, chosen func(n int) bool) []api.Period {
	var l []api.Period
	for i, n := range m {
		t := base + uint64(i)
		switch {
		case !chosen(n):
		case i > 0 && chosen(m[i-1]):
			l[len(l)-1].To++
		default:
			l = append(l, of(t, t+1))
		}
	}
	return l
}

// ends are the instants of the window at base, and the one behind it, at which the meaning changes. Behind and ahead of the window it is Null.
func (m meaning) ends(base uint64) []uint64 {
	var l []uint64
	before := none
	for i, n := range append(m[:], none) {
		if n != before {
			l = append(l, base+uint64(i))
		}
		before = n
	}
	return l
}

// changed is m with n at those instants of the window at base that are within the period.
func (m meaning) changed(base uint64, p api.Period, n int) meaning {
	for i := range m {
		if t := base + uint64(i); p.From <= t && t < p.To {
			m[i] = n
		}
	}
	return m
}

// within is m with none where no valid period of the set is.
func (m meaning) within(base uint64, set []api.Period) meaning {
	for i := range m {
		t := base + uint64(i)
		if !slices.ContainsFunc(set, func(p api.Period) bool { return p.From <= t && t < p.To && p.To <= 1<<40 }) {
			m[i] = none
		}
	}
	return m
}

// someMeaning is a meaning with values among the first n of the palette.
func someMeaning(r *rand.Rand, n int) meaning {
	var m meaning
	for i := range m {
		m[i] = r.Intn(n+1) - 1
	}
	return m
}

// allMeanings calls f with each meaning that has values among the first n of the palette.
func allMeanings(n int, f func(m meaning)) {
	total := 1
	for range width {
		total *= n + 1
	}
	for k := range total {
		var m meaning
		for i := range m {
			m[i], k = k%(n+1)-1, k/(n+1)
		}
		f(m)
	}
}

// inWindow are the valid periods within the window at base.
func inWindow(base uint64) []api.Period {
	var l []api.Period
	for from := range uint64(width) {
		for to := from + 1; to <= width; to++ {
			l = append(l, of(base+from, base+to))
		}
	}
	return l
}

// someSet is any list of periods in the window at base and around it, with some that are not valid.
func someSet(r *rand.Rand, base uint64) []api.Period {
	var l []api.Period
	for range r.Intn(6) {
		switch r.Intn(8) {
		case 0:
			l = append(l, badPeriods()[r.Intn(len(badPeriods()))])
		default:
			l = append(l, of(base+uint64(r.Intn(width+1)), base+uint64(r.Intn(width+1))))
		}
	}
	return l
}

// someList are any pieces in the window at base: their periods may not be valid, nor in order, nor their values such as a piece can have.
func someList(r *rand.Rand, base uint64) []Piece {
	l := someMeaning(r, 3).line(base)
	for range r.Intn(3) {
		if len(l) == 0 {
			break
		}
		x := &l[r.Intn(len(l))]
		switch r.Intn(8) {
		case 0:
			x.Period = badPeriods()[r.Intn(len(badPeriods()))]
		case 1:
			x.Value = invalid()[r.Intn(len(invalid()))]
		case 2:
			x.Value = entities()[r.Intn(len(entities()))]
		case 3:
			x.Value = api.Value{}
		case 4:
			x.Value = palette()[r.Intn(2)]
		case 5:
			x.Period.To++
		case 6:
			x.Period.From--
		default:
			slices.Reverse(l)
		}
	}
	return l
}

// lines calls f with meanings in windows, and their lines: all with few values, and some with many.
func lines(f func(base uint64, m meaning, l []Piece)) {
	r := rand.New(rand.NewSource(12))
	for _, base := range bases() {
		allMeanings(2, func(m meaning) { f(base, m, m.line(base)) })
		for range 300 {
			m := someMeaning(r, len(palette()))
			f(base, m, m.line(base))
		}
	}
}

// The model agrees with itself: what it makes is a line.
func TestModel(t *testing.T) {
	lines(func(base uint64, m meaning, l []Piece) {
		if !isLine(l) {
			t.Errorf("%v is not a line", l)
		}
	})
}
