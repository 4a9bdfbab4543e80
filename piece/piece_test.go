package piece

import (
	"math"
	"math/rand"
	"slices"
	"strings"
	"testing"

	"almanac/api"
)

// P12.1 to P12.3: the examples of the chapter.
func TestExamples(t *testing.T) {
	one, two := number(1), number(2)
	made := set(t, set(t, set(t, nil, of(2, 6), one), of(4, 9), two), of(3, 5), one)
	if !equal(made, []Piece{at(2, 5, one), at(5, 9, two)}) {
		t.Errorf("three times Set is %v", made)
	}
	if got := set(t, made, of(0, 7), api.Value{}); !equal(got, []Piece{at(7, 9, two)}) {
		t.Errorf("Set of Null is %v", got)
	}
	if got := within(t, []Piece{at(2, 5, one), at(5, 9, two)}, periods(4, 6, 8, 20)); !equal(got, []Piece{at(4, 5, one), at(5, 6, two), at(8, 9, two)}) {
		t.Errorf("Within is %v", got)
	}
	if l, err := Set(nil, of(3, 3), one); err != api.ErrEmpty || len(l) != 0 {
		t.Errorf("Set in an empty period is %v, %d", l, err)
	}
	if l, err := Set([]Piece{at(1, 2, api.Value{})}, of(3, 4), one); err != api.ErrForm || len(l) != 0 {
		t.Errorf("Set of no line is %v, %d", l, err)
	}
}

// P12.1: Is, of lines.
func TestIsLine(t *testing.T) {
	one, two := number(1), number(2)
	for _, l := range [][]Piece{
		nil, {},
		{at(0, 1, one)}, {at(0, 1<<40, one)}, {at(1<<40-1, 1<<40, one)},
		{at(0, 1, one), at(2, 3, one)}, {at(0, 1, one), at(1, 2, two)}, {at(0, 1, one), at(1, 2, two), at(2, 3, one)},
		{at(0, 1, one), at(1, 2, point(1))}, {at(0, 1, point(0)), at(1, 2, point(math.Copysign(0, -1))), at(2, 1<<40, number(0))},
		{at(5, 9, truth(false)), at(9, 10, truth(true)), at(10, 11, word("")), at(11, 12, word("a"))},
	} {
		if !Is(l) {
			t.Errorf("Is(%v) is false", l)
		}
	}
	for _, v := range palette() {
		if !Is([]Piece{at(3, 4, v)}) {
			t.Errorf("Is of %v is false", v)
		}
	}
}

// notLines are lists that are not lines.
func notLines() [][]Piece {
	one, two := number(1), number(2)
	nan := point(math.Float64frombits(0x7ff8000000000001))
	l := [][]Piece{
		{at(2, 3, one), at(0, 1, one)}, {at(1, 2, one), at(0, 1, two)}, {at(0, 2, one), at(1, 3, two)}, {at(0, 9, one), at(3, 4, two)}, {at(3, 4, one), at(0, 9, two)},
		{at(0, 2, one), at(0, 2, one)}, {at(0, 2, one), at(0, 2, two)}, {at(0, 5, one), at(0, 2, two)}, {at(0, 2, one), at(0, 5, two)},
		{at(0, 1, one), at(1, 2, one)}, {at(0, 1, nan), at(1, 2, nan)}, {at(0, 1, word("a")), at(1, 2, word("a"))}, {at(0, 1, truth(true)), at(1, 2, truth(true))}, {at(0, 1, point(0)), at(1, 2, point(0))},
		{at(0, 1, one), at(1, 2, two), at(2, 3, two)}, {at(0, 1, one), at(3, 4, two), at(1, 2, two)}, {at(0, 1, one), at(1, 1, two), at(1, 2, one)},
		{at(0, 1, one), at(1, 2, api.Value{}), at(2, 3, one)}, {at(0, 1, one), at(2, 3, node(1))},
	}
	for _, p := range badPeriods() {
		l = append(l, []Piece{{p, one}}, []Piece{at(0, 1, one), {p, two}}, []Piece{{p, two}, at(1<<40-1, 1<<40, one)})
	}
	for _, v := range append(append(invalid(), entities()...), api.Value{}) {
		l = append(l, []Piece{at(3, 4, v)}, []Piece{at(0, 1, one), at(3, 4, v)}, []Piece{at(3, 4, v), at(6, 8, one)})
	}
	return l
}

// P12.1: of a list that is not a line everything else is nothing.
func TestNotLines(t *testing.T) {
	for _, l := range notLines() {
		if Is(l) {
			t.Errorf("Is(%v) is true", l)
		}
		asksNothing(t, l)
	}
}

// asksNothing checks that a list that is not a line means nothing.
func asksNothing(t *testing.T, l []Piece) {
	t.Helper()
	if len(Span(l)) != 0 || len(Ends(l)) != 0 {
		t.Errorf("%v: Span %v, Ends %v", l, Span(l), Ends(l))
	}
	for _, x := range l {
		if v := At(l, x.Period.From); v != (api.Value{}) {
			t.Errorf("At(%v, %d) is %v", l, x.Period.From, v)
		}
		if set := Where(l, x.Value); len(set) != 0 {
			t.Errorf("Where(%v, %v) is %v", l, x.Value, set)
		}
	}
}

// P12.1: Is, of any lists.
func TestIs(t *testing.T) {
	r := rand.New(rand.NewSource(121))
	var found [2]int
	for _, base := range bases() {
		for range 5000 {
			l := someList(r, base)
			want := isLine(l)
			if Is(l) != want {
				t.Errorf("Is(%v) is %v", l, !want)
			}
			if want {
				found[1]++
				continue
			}
			found[0]++
			asksNothing(t, l)
		}
	}
	if min(found[0], found[1]) < 3000 {
		t.Errorf("too few lists of one sort: %v", found)
	}
}

// P12.1: At, Span, Where and Ends, instant by instant.
func TestAsks(t *testing.T) {
	lines(func(base uint64, m meaning, l []Piece) {
		if !Is(l) {
			t.Errorf("Is(%v) is false", l)
		}
		for i, n := range m {
			want := api.Value{}
			if n != none {
				want = palette()[n]
			}
			if got := At(l, base+uint64(i)); !isSame(got, want) {
				t.Errorf("At(%v, %d) is %v", l, base+uint64(i), got)
			}
		}
		for _, beyond := range []uint64{base - 1, base + width, 1 << 40, 1<<40 + 1, math.MaxUint64} {
			if got := At(l, beyond); !isSame(got, api.Value{}) {
				t.Errorf("At(%v, %d) is %v", l, beyond, got)
			}
		}
		if got, want := Span(l), m.instants(base, func(n int) bool { return n != none }); !slices.Equal(got, want) {
			t.Errorf("Span(%v) is %v", l, got)
		}
		if got, want := Ends(l), m.ends(base); !slices.Equal(got, want) {
			t.Errorf("Ends(%v) is %v", l, got)
		}
		for k, v := range palette() {
			if got, want := Where(l, v), m.instants(base, func(n int) bool { return n == k }); !slices.Equal(got, want) {
				t.Errorf("Where(%v, %v) is %v", l, v, got)
			}
		}
	})
}

// P12.1: Where of a value that no piece has is empty.
func TestWhereNothing(t *testing.T) {
	l := []Piece{at(0, 2, number(1)), at(2, 5, word("a")), at(7, 9, point(1)), at(9, 1<<40, truth(true))}
	for _, v := range append(append(invalid(), entities()...), api.Value{}, number(2), word(""), truth(false)) {
		if got := Where(l, v); len(got) != 0 {
			t.Errorf("Where of %v is %v", v, got)
		}
	}
	for _, v := range append(palette(), api.Value{}) {
		if got := Where(nil, v); len(got) != 0 {
			t.Errorf("Where of no piece is %v", got)
		}
	}
}

// P12.1: what is not valid, but has a Str, or a number, that some piece has, is nowhere.
func TestWhereNotValid(t *testing.T) {
	l := []Piece{at(0, 2, number(1)), at(2, 5, word("a")), at(7, 9, point(1)), at(9, 12, truth(true))}
	for _, x := range l {
		v := x.Value
		v.Bool = v.Kind != api.Bool
		if v.Kind == api.Bool {
			v.Bool, v.Num = true, 1
		}
		if got := Where(l, v); len(got) != 0 {
			t.Errorf("Where of %v is %v", v, got)
		}
	}
}

// P12.1: results known.
func TestAsksExamples(t *testing.T) {
	one, two := number(1), number(2)
	l := []Piece{at(0, 2, one), at(2, 5, two), at(7, 9, two), at(9, 12, one), at(20, 1<<40, one)}
	if got := Span(l); !slices.Equal(got, periods(0, 5, 7, 12, 20, 1<<40)) {
		t.Errorf("Span is %v", got)
	}
	if got := Where(l, one); !slices.Equal(got, periods(0, 2, 9, 12, 20, 1<<40)) {
		t.Errorf("Where is %v", got)
	}
	if got := Ends(l); !slices.Equal(got, []uint64{0, 2, 5, 7, 9, 12, 20, 1 << 40}) {
		t.Errorf("Ends is %v", got)
	}
	for n, want := range map[uint64]api.Value{0: one, 1: one, 2: two, 4: two, 5: {}, 6: {}, 7: two, 8: two, 9: one, 12: {}, 19: {}, 20: one, 1<<40 - 1: one, 1 << 40: {}} {
		if got := At(l, n); !isSame(got, want) {
			t.Errorf("At %d is %v", n, got)
		}
	}
}

// P12.1: Same, of any lists: it asks for the same pieces, not for the same meaning.
func TestSame(t *testing.T) {
	one, two := number(1), number(2)
	all := append(notLines(), nil,
		[]Piece{at(0, 1, one)}, []Piece{at(0, 2, one)}, []Piece{at(0, 1, two)}, []Piece{at(0, 1, point(1))}, []Piece{at(0, 1, word("1"))},
		[]Piece{at(0, 1, one), at(1, 3, two)}, []Piece{at(0, 2, one), at(2, 3, two)}, []Piece{at(1, 3, two), at(0, 1, one)}, []Piece{at(0, 1, one), at(1, 3, two), at(4, 5, one)},
		[]Piece{at(0, 1, point(0))}, []Piece{at(0, 1, point(math.Copysign(0, -1)))}, []Piece{at(0, 1, number(0))}, []Piece{at(3, 3, one)}, []Piece{at(5, 3, one)},
	)
	for i, a := range all {
		for j, b := range all {
			got := Same(a, slices.Clone(b))
			if i == j && onlyValid(a) && !got {
				t.Errorf("Same(%v, %v) is false", a, b)
			}
			if i != j && onlyValid(a) && onlyValid(b) && got != equal(a, b) {
				t.Errorf("Same(%v, %v) is %v", a, b, got)
			}
		}
	}
	if !Same(nil, []Piece{}) || !Same([]Piece{}, nil) {
		t.Errorf("no pieces are not the same as no pieces")
	}
}

// onlyValid tells whether the values of l are valid: only those are known to be the same, or not.
func onlyValid(l []Piece) bool {
	return !slices.ContainsFunc(l, func(x Piece) bool { return isAmong(invalid(), x.Value) })
}

// P12.1: Same, of lines.
func TestSameLines(t *testing.T) {
	r := rand.New(rand.NewSource(1212))
	for _, base := range bases() {
		for range 20000 {
			m, n := someMeaning(r, 2), someMeaning(r, 2)
			if r.Intn(2) == 0 {
				n = m
				n[r.Intn(width)] = r.Intn(3) - 1
			}
			if got := Same(m.line(base), n.line(base)); got != (m == n) {
				t.Errorf("Same(%v, %v) is %v", m.line(base), n.line(base), got)
			}
		}
	}
}

// P12.6: the Wheres of the values have no instant in common, and are the Span together; between two Ends there is one value.
func TestWheres(t *testing.T) {
	lines(func(base uint64, m meaning, l []Piece) {
		var places []uint64
		for _, v := range palette() {
			for _, p := range Where(l, v) {
				for at := p.From; at < p.To; at++ {
					places = append(places, at)
				}
			}
		}
		slices.Sort(places)
		var span []uint64
		for _, p := range Span(l) {
			for at := p.From; at < p.To; at++ {
				span = append(span, at)
			}
		}
		if !slices.Equal(places, span) {
			t.Errorf("%v: Wheres %v, Span %v", l, places, span)
		}
		ends := Ends(l)
		for i := range ends[:max(0, len(ends)-1)] {
			for n := ends[i]; n < ends[i+1]; n++ {
				if !isSame(At(l, n), At(l, ends[i])) {
					t.Errorf("%v: not one value from %d to %d", l, ends[i], ends[i+1])
				}
			}
		}
	})
}

// Arguments are not changed, and what is returned is new memory.
func TestMemory(t *testing.T) {
	v := word(strings.Repeat("a", 20))
	kept := []Piece{at(2, 5, number(1)), at(5, 9, v), at(12, 1<<40, number(1))}
	room := append(make([]Piece, 0, 20), kept...)
	sets := append(make([]api.Period, 0, 20), periods(20, 30, 3, 6, 5, 5, 4, 7)...)
	setsKept := slices.Clone(sets)
	spoil := func(l []Piece, err api.Errno) {
		l = l[:cap(l)]
		for i := range l {
			l[i] = at(7, 7, number(7))
		}
	}
	for range 2 {
		spoil(Set(room, of(3, 4), number(2)))
		spoil(Set(room, of(9, 12), number(1)))
		spoil(Set(room, of(20, 30), number(1)))
		spoil(Set(room, of(0, 1<<40), number(1)))
		spoil(Set(room, of(9, 12), api.Value{}))
		spoil(Set(room, of(40, 1<<40), api.Value{}))
		spoil(Within(room, sets))
		spoil(Within(room, periods(0, 1<<40)))
		clear(Span(room))
		clear(Where(room, number(1)))
		clear(Ends(room))
		Same(room, kept)
		if !equal(room, kept) || !slices.Equal(sets, setsKept) {
			t.Fatalf("the arguments are %v and %v now", room, sets)
		}
		if rest := room[len(room):cap(room)]; slices.ContainsFunc(rest, func(x Piece) bool { return x != Piece{} }) {
			t.Fatalf("behind the argument there is %v now", rest)
		}
	}
	if got := Where(room, v); !slices.Equal(got, periods(5, 9)) {
		t.Errorf("Where is %v", got)
	}
}
