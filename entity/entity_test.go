package entity

import (
	"math"
	"math/rand"
	"slices"
	"strings"
	"testing"

	"almanac/api"
	"almanac/piece"
)

// long is a word of 16 bytes.
const long = "abcdefghijk_0123"

// good is a well-formed edge, with all that an entity can have.
func good() Entity {
	return Entity{
		Edge: true, Id: 5, Label: "knows", From: 7, To: 9, Valid: periods(2, 5, 6, 12, 20, 1<<40),
		Props: []Prop{
			prop("a", at(2, 5, number(1)), at(6, 7, number(1)), at(30, 1<<40, word("x"))),
			prop("b_2", at(3, 4, point(0)), at(4, 5, point(math.Copysign(0, -1))), at(8, 12, word(""))),
			prop("z", at(7, 10, api.Value{Kind: api.Bool, Bool: true})),
		},
	}
}

// with is the good entity, changed.
func with(change func(e *Entity)) Entity {
	e := deep(good())
	change(&e)
	return e
}

// manyProps are properties with so many different keys.
func manyProps(n int) []Prop {
	var l []Prop
	for i := range n {
		l = append(l, prop("k"+string(rune('a'+i)), at(3, 4, number(int64(i)))))
	}
	return l
}

// wellFormed are entities that are well-formed, each of them once.
func wellFormed() []Entity {
	node := func(e *Entity) { e.Edge, e.From, e.To = false, 0, 0 }
	return []Entity{
		good(), with(node),
		{Id: 1}, {Id: 1 << 40}, {Id: 2}, {Id: 1, Edge: true, From: 1, To: 1}, {Id: 1, Edge: true, From: 1 << 40, To: 1}, {Id: 1, Edge: true, From: 1, To: 1 << 40},
		{Id: 1, Label: "n"}, {Id: 1, Label: "m"}, {Id: 1, Label: long}, {Id: 1, Label: "a__"},
		{Id: 1, Valid: periods(0, 1)}, {Id: 1, Valid: periods(0, 1<<40)}, {Id: 1, Valid: periods(1<<40-1, 1<<40)}, {Id: 1, Valid: periods(0, 1, 2, 3)}, {Id: 1, Valid: periods(0, 1, 3, 1<<40)},
		with(func(e *Entity) { e.Props = nil }), with(func(e *Entity) { e.Props = e.Props[:1] }), with(func(e *Entity) { e.Props = e.Props[1:] }),
		with(func(e *Entity) { e.Props = manyProps(16) }), with(func(e *Entity) { e.Props = manyProps(15) }),
		with(func(e *Entity) { e.Props[0].Key = long }), with(func(e *Entity) { e.Props[0].Key = "b" }), with(func(e *Entity) { e.Props[0].Key = "b_" }), with(func(e *Entity) { e.Props[0].Key = "b_1" }),
		with(func(e *Entity) { e.Props[1].Line = e.Props[1].Line[:2] }), with(func(e *Entity) { e.Props[1].Line[0].Period.From = 2 }), with(func(e *Entity) { e.Props[1].Line[1].Value = number(0) }),
		with(func(e *Entity) { e.Props[1].Line[1].Value = point(math.Float64frombits(0x7ff8000000000001)) }), with(func(e *Entity) { e.Props[2].Line = []piece.Piece{at(6, 12, number(1))} }),
		with(func(e *Entity) { e.Props[2].Line = []piece.Piece{at(6, 8, number(1)), at(8, 12, number(2))} }),
		with(func(e *Entity) { e.Props[2].Line = []piece.Piece{at(20, 1<<40, number(1))} }), with(func(e *Entity) { e.Props[2].Line = []piece.Piece{at(4, 5, number(1)), at(6, 7, number(1))} }),
	}
}

// badHeads are entities that are not well-formed by what they have for all time.
func badHeads() []Entity {
	l := []Entity{
		{}, {Edge: true, From: 1, To: 1}, {Id: 1, From: 1}, {Id: 1, To: 1}, {Id: 1, From: 1, To: 1}, {Id: 1, Edge: true}, {Id: 1, Edge: true, From: 1}, {Id: 1, Edge: true, To: 1},
		with(func(e *Entity) { e.Edge = false }), with(func(e *Entity) { e.Edge, e.From = false, 0 }), with(func(e *Entity) { e.Edge, e.To = false, 0 }),
	}
	for _, id := range []uint64{0, 1<<40 + 1, math.MaxUint64} {
		l = append(l, with(func(e *Entity) { e.Id = id }), with(func(e *Entity) { e.From = id }), with(func(e *Entity) { e.To = id }))
	}
	for _, s := range notWords() {
		l = append(l, with(func(e *Entity) { e.Label = s }))
	}
	return l
}

// notWords are texts that are no words, but for the empty one.
func notWords() []string {
	return []string{long + "4", strings.Repeat("a", 40), "A", "aB", "1", "1a", "_", "_a", "a b", " a", "a ", "a-", "\x00", "a\x00", "\xff", "a\u00e9", "\u00e9"}
}

// badTimes are entities that are not well-formed by their instants.
func badTimes() []Entity {
	l := []Entity{{Id: 1, Valid: periods(3, 4, 1, 2)}, {Id: 1, Valid: periods(1, 2, 2, 3)}, {Id: 1, Valid: periods(1, 3, 2, 4)}, {Id: 1, Valid: periods(1, 9, 2, 4)}, {Id: 1, Valid: periods(1, 2, 1, 2)}}
	for _, p := range badPeriods() {
		l = append(l, Entity{Id: 1, Valid: []api.Period{p}}, with(func(e *Entity) { e.Valid = append(e.Valid, p) }), with(func(e *Entity) { e.Valid = slices.Insert(e.Valid, 0, p) }), with(func(e *Entity) { e.Valid[1] = p }))
	}
	return append(l, with(func(e *Entity) { e.Valid[0].To = 6 }), with(func(e *Entity) { e.Valid[0].To = 7 }), with(func(e *Entity) { e.Valid[1].From = 5 }), with(func(e *Entity) { slices.Reverse(e.Valid) }))
}

// badProps are entities that are not well-formed by their properties.
func badProps() []Entity {
	one := number(1)
	l := []Entity{
		with(func(e *Entity) { e.Props = manyProps(17) }), with(func(e *Entity) { e.Props = manyProps(20) }),
		with(func(e *Entity) { e.Props[0].Key = "b_2" }), with(func(e *Entity) { e.Props[0].Key = "b_20" }), with(func(e *Entity) { e.Props[0].Key = "c" }), with(func(e *Entity) { e.Props[2].Key = "a" }), with(func(e *Entity) { e.Props[2].Key = "b" }),
		with(func(e *Entity) { slices.Reverse(e.Props) }), with(func(e *Entity) { e.Props = append(e.Props, e.Props[2]) }), with(func(e *Entity) { e.Props[2].Key = "" }), with(func(e *Entity) { e.Props[0].Key = "" }),
		with(func(e *Entity) { e.Valid = nil }), with(func(e *Entity) { e.Valid = e.Valid[:2] }), with(func(e *Entity) { e.Valid = e.Valid[1:] }),
		{Id: 1, Props: []Prop{prop("a")}}, {Id: 1, Props: []Prop{prop("a", at(0, 1, one))}},
	}
	for _, s := range notWords() {
		l = append(l, with(func(e *Entity) { e.Props[0].Key = s }), with(func(e *Entity) { e.Props[2].Key = s }), with(func(e *Entity) { e.Props[2].Key = "z" + s + "A" }))
	}
	for i := range 3 {
		for _, line := range badLines() {
			l = append(l, with(func(e *Entity) { e.Props[i].Line = line }))
		}
	}
	return l
}

// badLines are lists of pieces that the good entity can't have: they are no lines, or have pieces outside of its Valid.
func badLines() [][]piece.Piece {
	one, two := number(1), number(2)
	l := [][]piece.Piece{
		nil, {},
		{at(3, 4, one), at(2, 3, two)}, {at(2, 3, one), at(3, 4, one)}, {at(2, 4, one), at(3, 5, two)}, {at(2, 3, one), at(2, 3, one)}, {at(3, 4, api.Value{})},
		{at(1, 2, one)}, {at(1, 3, one)}, {at(0, 1, one)}, {at(4, 6, one)}, {at(5, 6, one)}, {at(4, 7, one)}, {at(5, 7, one)}, {at(2, 12, one)}, {at(0, 1<<40, one)}, {at(11, 13, one)}, {at(12, 20, one)}, {at(19, 21, one)}, {at(19, 1<<40, one)},
		{at(2, 5, one), at(5, 6, two), at(6, 7, one)}, {at(0, 1, one), at(2, 5, one)}, {at(2, 5, one), at(14, 15, one)},
	}
	for _, v := range badValues() {
		l = append(l, []piece.Piece{at(3, 4, v)}, []piece.Piece{at(2, 3, one), at(3, 4, v)})
	}
	for _, p := range badPeriods() {
		l = append(l, []piece.Piece{{Period: p, Value: one}}, []piece.Piece{at(2, 3, one), {Period: p, Value: one}})
	}
	return l
}

// illFormed are entities that are not well-formed.
func illFormed() []Entity { return slices.Concat(badHeads(), badTimes(), badProps()) }

// P13.1: May, of entities that are well-formed.
func TestMay(t *testing.T) {
	for _, e := range wellFormed() {
		if !May(e) {
			t.Errorf("May(%v) is false", e)
		}
	}
	for _, head := range heads() {
		allModels(2, func(m model) {
			if e := m.entity(head); !May(e) {
				t.Errorf("May(%v) is false", e)
			}
		})
	}
}

// P13.1: of an entity that is not well-formed everything else is nothing.
func TestIllFormed(t *testing.T) {
	for _, e := range illFormed() {
		if May(e) {
			t.Errorf("May(%v) is true", e)
		}
		if l := Ends(e); len(l) != 0 {
			t.Errorf("Ends(%v) is %v", e, l)
		}
		ends := []uint64{0, 2, 3, 8, 1<<40 - 1}
		for _, p := range e.Valid {
			ends = append(ends, p.From, p.To-1, p.To)
		}
		for _, n := range ends {
			if Has(e, n) {
				t.Errorf("Has(%v, %d) is true", e, n)
			}
		}
		for _, x := range append(e.Props, prop("a"), prop("")) {
			if l := Line(e, x.Key); len(l) != 0 {
				t.Errorf("Line(%v, %q) is %v", e, x.Key, l)
			}
			for _, n := range ends {
				if v := At(e, x.Key, n); v != (api.Value{}) {
					t.Errorf("At(%v, %q, %d) is %v", e, x.Key, n, v)
				}
			}
		}
	}
}

// P13.1: Has, At and Line, instant by instant.
func TestAsks(t *testing.T) {
	check := func(m model) {
		e := m.entity(heads()[0])
		for key, x := range m.props {
			if got := Line(e, key); !equalLines(got, x.line(m.base)) {
				t.Errorf("Line(%v, %q) is %v", e, key, got)
			}
		}
		for _, n := range instants(m.base) {
			i := n - m.base
			if got := Has(e, n); got != (i < width && m.valid[i]) {
				t.Errorf("Has(%v, %d) is %v", e, n, got)
			}
			for key, x := range m.props {
				want := api.Value{}
				if i < width {
					want = valueOf(x[i])
				}
				if got := At(e, key, n); !isSame(got, want) {
					t.Errorf("At(%v, %q, %d) is %v", e, key, n, got)
				}
			}
		}
		for _, key := range []string{"", "aa", "j", "kk", "zz", "K", "k ", "\xff"} {
			if v, l := At(e, key, m.base), Line(e, key); v != (api.Value{}) || len(l) != 0 {
				t.Errorf("under %q %v has %v, %v", key, e, v, l)
			}
		}
	}
	allModels(2, check)
	someModels(func(_ *rand.Rand, m model) { check(m) })
}

// P13.1: Ends, instant by instant.
func TestEnds(t *testing.T) {
	check := func(m model) {
		var want []uint64
		for i := range width + 1 {
			if m.turns(i) {
				want = append(want, m.base+uint64(i))
			}
		}
		if got := Ends(m.entity(heads()[1])); !slices.Equal(got, want) {
			t.Errorf("Ends(%v) is %v", m, got)
		}
	}
	allModels(2, check)
	someModels(func(_ *rand.Rand, m model) { check(m) })
	if got := Ends(good()); !slices.Equal(got, []uint64{2, 3, 4, 5, 6, 7, 8, 10, 12, 20, 30, 1 << 40}) {
		t.Errorf("Ends is %v", got)
	}
}

// P13.1: results known.
func TestAsksExamples(t *testing.T) {
	e := good()
	for n, want := range map[uint64]bool{0: false, 1: false, 2: true, 4: true, 5: false, 6: true, 11: true, 12: false, 19: false, 20: true, 1<<40 - 1: true, 1 << 40: false, math.MaxUint64: false} {
		if Has(e, n) != want {
			t.Errorf("Has at %d is %v", n, !want)
		}
	}
	for n, want := range map[uint64]api.Value{1: {}, 2: number(1), 4: number(1), 5: {}, 6: number(1), 7: {}, 29: {}, 30: word("x"), 1<<40 - 1: word("x"), 1 << 40: {}} {
		if got := At(e, "a", n); !isSame(got, want) {
			t.Errorf("At %d is %v", n, got)
		}
	}
	if got := At(e, "b_2", 4); !isSame(got, point(math.Copysign(0, -1))) {
		t.Errorf("At 4 is %v", got)
	}
	if got := Line(e, "z"); !equalLines(got, good().Props[2].Line) {
		t.Errorf("Line is %v", got)
	}
}

// P13.1: Same, of any entities: it asks for the same fields, not for the same meaning.
func TestSame(t *testing.T) {
	all := append(wellFormed(), slices.Concat(badHeads(), badTimes())...)
	all = append(all,
		with(func(e *Entity) { e.Props = manyProps(17) }), with(func(e *Entity) { slices.Reverse(e.Props) }), with(func(e *Entity) { e.Props[2].Key = "a" }), with(func(e *Entity) { e.Props[2].Line = nil }),
		with(func(e *Entity) { e.Props[2].Line = []piece.Piece{at(7, 8, number(1)), at(8, 10, number(1))} }), with(func(e *Entity) { e.Props[2].Line = []piece.Piece{at(7, 10, api.Value{})} }),
		with(func(e *Entity) { e.Id = 6 }), with(func(e *Entity) { e.From = 8 }), with(func(e *Entity) { e.To = 8 }), with(func(e *Entity) { e.Label = "" }),
	)
	for i, a := range all {
		for j, b := range all {
			if got := Same(a, deep(b)); got != equal(a, b) || i == j && !got {
				t.Errorf("Same(%v, %v) is %v", a, b, got)
			}
		}
	}
	empty := Entity{Id: 1, Valid: []api.Period{}, Props: []Prop{}}
	if !Same(empty, Entity{Id: 1}) || !Same(Entity{Id: 1}, empty) || !Same(Entity{}, Entity{}) {
		t.Errorf("no periods are not the same as no periods")
	}
	if a, b := (Entity{Props: []Prop{{Line: []piece.Piece{}}}}), (Entity{Props: []Prop{{}}}); !Same(a, b) || Same(a, Entity{}) {
		t.Errorf("no pieces are not the same as no pieces, or a property is none")
	}
}

// P13.1: Same returns for values that are not valid, too.
func TestSameReturns(t *testing.T) {
	for _, a := range badProps() {
		Same(a, a)
		Same(a, good())
		Same(good(), a)
	}
}

// turns tells whether a period of Valid, or a piece of a line, begins or ends at this instant of the window.
func (m model) turns(i int) bool {
	valid := func(i int) bool { return 0 <= i && i < width && m.valid[i] }
	if valid(i-1) != valid(i) {
		return true
	}
	for _, x := range m.props {
		place := func(i int) int {
			if i < 0 || i >= width {
				return none
			}
			return x[i]
		}
		if place(i-1) != place(i) {
			return true
		}
	}
	return false
}
