package piece

import (
	"math"
	"math/rand"
	"slices"
	"testing"

	"almanac/api"
)

// set is what Set returns, which has to be OK.
func set(t *testing.T, l []Piece, p api.Period, v api.Value) []Piece {
	t.Helper()
	got, err := Set(l, p, v)
	if err != api.OK {
		t.Fatalf("Set(%v, %v, %v) is %d", l, p, v, err)
	}
	return got
}

// within is what Within returns, which has to be OK.
func within(t *testing.T, l []Piece, set []api.Period) []Piece {
	t.Helper()
	got, err := Within(l, set)
	if err != api.OK {
		t.Fatalf("Within(%v, %v) is %d", l, set, err)
	}
	return got
}

// valueOf is the value at this place of the palette, or Null.
func valueOf(n int) api.Value {
	if n == none {
		return api.Value{}
	}
	return palette()[n]
}

// P12.2 and P12.4: Set, in all periods of a window.
func TestSetInstants(t *testing.T) {
	r := rand.New(rand.NewSource(122))
	lines(func(base uint64, m meaning, l []Piece) {
		for _, p := range inWindow(base) {
			for _, n := range []int{none, 0, 1, r.Intn(len(palette())), m[r.Intn(width)]} {
				want := m.changed(base, p, n).line(base)
				if got := set(t, l, p, valueOf(n)); !equal(got, want) || !Is(got) || !Same(got, want) {
					t.Errorf("Set(%v, %v, %v) is %v", l, p, valueOf(n), got)
				}
			}
		}
	})
}

// P12.2: Set, in periods that reach out of the window.
func TestSetAround(t *testing.T) {
	one, two, null := number(1), number(2), api.Value{}
	l := []Piece{at(2, 5, one), at(5, 9, two), at(12, 20, one)}
	for _, x := range []struct {
		p    api.Period
		v    api.Value
		want []Piece
	}{
		{of(0, 1), one, []Piece{at(0, 1, one), at(2, 5, one), at(5, 9, two), at(12, 20, one)}},
		{of(0, 2), one, []Piece{at(0, 5, one), at(5, 9, two), at(12, 20, one)}},
		{of(0, 2), two, []Piece{at(0, 2, two), at(2, 5, one), at(5, 9, two), at(12, 20, one)}},
		{of(2, 5), one, l},
		{of(3, 4), one, l},
		{of(2, 5), two, []Piece{at(2, 9, two), at(12, 20, one)}},
		{of(4, 6), one, []Piece{at(2, 6, one), at(6, 9, two), at(12, 20, one)}},
		{of(4, 6), null, []Piece{at(2, 4, one), at(6, 9, two), at(12, 20, one)}},
		{of(5, 12), one, []Piece{at(2, 20, one)}},
		{of(5, 11), one, []Piece{at(2, 11, one), at(12, 20, one)}},
		{of(9, 12), one, []Piece{at(2, 5, one), at(5, 9, two), at(9, 20, one)}},
		{of(9, 12), two, []Piece{at(2, 5, one), at(5, 12, two), at(12, 20, one)}},
		{of(9, 12), null, l},
		{of(10, 11), word("x"), []Piece{at(2, 5, one), at(5, 9, two), at(10, 11, word("x")), at(12, 20, one)}},
		{of(13, 1<<40), two, []Piece{at(2, 5, one), at(5, 9, two), at(12, 13, one), at(13, 1<<40, two)}},
		{of(20, 1<<40), one, []Piece{at(2, 5, one), at(5, 9, two), at(12, 1<<40, one)}},
		{of(1<<40-1, 1<<40), one, []Piece{at(2, 5, one), at(5, 9, two), at(12, 20, one), at(1<<40-1, 1<<40, one)}},
		{of(0, 1<<40), two, []Piece{at(0, 1<<40, two)}},
		{of(0, 1<<40), null, nil},
		{of(2, 20), null, nil},
		{of(2, 19), null, []Piece{at(19, 20, one)}},
		{of(3, 20), null, []Piece{at(2, 3, one)}},
	} {
		if got := set(t, l, x.p, x.v); !equal(got, x.want) || !Is(got) {
			t.Errorf("Set %v to %v is %v", x.p, x.v, got)
		}
	}
}

// P12.2: Set to values that are nearly the same as the one beside, or the same though they are equal to nothing.
func TestSetNear(t *testing.T) {
	for i, v := range palette() {
		for j, w := range palette() {
			want := []Piece{at(3, 5, v), at(5, 8, w)}
			if i == j {
				want = []Piece{at(3, 8, v)}
			}
			if got := set(t, set(t, nil, of(3, 6), v), of(5, 8), w); !equal(got, want) || !Is(got) {
				t.Errorf("%v, then %v: %v", v, w, got)
			}
		}
	}
}

// P12.2: the errors of Set, and their order.
func TestSetErrors(t *testing.T) {
	one := number(1)
	lists := [][]Piece{nil, {at(0, 2, one)}, {at(1, 2, one), at(2, 5, word("a")), at(1<<40-1, 1<<40, one)}}
	badValues := append(invalid(), entities()...)
	fails := func(l []Piece, p api.Period, v api.Value, want api.Errno) {
		t.Helper()
		if got, err := Set(l, p, v); err != want || len(got) != 0 {
			t.Errorf("Set(%v, %v, %v) is %v, %d", l, p, v, got, err)
		}
	}
	for _, l := range notLines() {
		fails(l, of(1, 2), one, api.ErrForm)
		fails(l, of(2, 2), one, api.ErrForm)
		fails(l, of(1, 2), api.Value{Kind: 9}, api.ErrForm)
		fails(l, of(0, 1<<40+1), node(1), api.ErrForm)
		fails(l, of(0, 1<<40), api.Value{}, api.ErrForm)
	}
	for _, l := range lists {
		for _, p := range badPeriods() {
			fails(l, p, one, api.ErrEmpty)
			fails(l, p, api.Value{}, api.ErrEmpty)
			fails(l, p, api.Value{Kind: 9}, api.ErrEmpty)
			fails(l, p, edge(1), api.ErrEmpty)
		}
		for _, v := range badValues {
			fails(l, of(1, 2), v, api.ErrArg)
			fails(l, of(0, 1<<40), v, api.ErrArg)
		}
	}
}

// P12.3 and P12.4: Within, of any lists of periods.
func TestWithinInstants(t *testing.T) {
	r := rand.New(rand.NewSource(123))
	lines(func(base uint64, m meaning, l []Piece) {
		for range 40 {
			s := someSet(r, base)
			want := m.within(base, s).line(base)
			if got := within(t, l, s); !equal(got, want) || !Is(got) {
				t.Errorf("Within(%v, %v) is %v", l, s, got)
			}
		}
	})
}

// P12.3: Within, of sets known.
func TestWithinExamples(t *testing.T) {
	one, two := number(1), number(2)
	l := []Piece{at(2, 5, one), at(5, 9, two), at(12, 20, one)}
	for _, x := range []struct {
		set  []api.Period
		want []Piece
	}{
		{nil, nil},
		{[]api.Period{}, nil},
		{periods(0, 1<<40), l},
		{periods(2, 20), l},
		{periods(0, 2, 9, 12, 20, 1<<40), nil},
		{periods(0, 1, 9, 10, 10, 11, 30, 40), nil},
		{periods(3, 4, 6, 7, 13, 14, 15, 16), []Piece{at(3, 4, one), at(6, 7, two), at(13, 14, one), at(15, 16, one)}},
		{periods(15, 16, 13, 14, 6, 7, 3, 4), []Piece{at(3, 4, one), at(6, 7, two), at(13, 14, one), at(15, 16, one)}},
		{periods(3, 4, 4, 5), []Piece{at(3, 5, one)}},
		{periods(4, 6, 3, 5, 3, 4), []Piece{at(3, 5, one), at(5, 6, two)}},
		{periods(8, 13), []Piece{at(8, 9, two), at(12, 13, one)}},
		{periods(0, 1<<40+1), nil},
		{periods(0, 1<<40+1, 4, 3, 7, 7, 8, 9), []Piece{at(8, 9, two)}},
		{periods(19, 1<<40, 0, 3), []Piece{at(2, 3, one), at(19, 20, one)}},
		{periods(0, math.MaxUint64, math.MaxUint64, 0), nil},
	} {
		if got := within(t, l, x.set); !equal(got, x.want) || !Is(got) {
			t.Errorf("Within %v is %v", x.set, got)
		}
	}
	if got := within(t, nil, periods(0, 1<<40)); len(got) != 0 {
		t.Errorf("Within of no piece is %v", got)
	}
}

// P12.3: Within of a list that is not a line, whatever the set.
func TestWithinErrors(t *testing.T) {
	for _, l := range notLines() {
		for _, s := range [][]api.Period{nil, periods(0, 1<<40), periods(5, 5), periods(0, 2, 3, 4)} {
			if got, err := Within(l, s); err != api.ErrForm || len(got) != 0 {
				t.Errorf("Within(%v, %v) is %v, %d", l, s, got, err)
			}
		}
	}
}

// P12.4: lines of one meaning are equal, in whatever way they were made.
func TestOneLine(t *testing.T) {
	r := rand.New(rand.NewSource(124))
	for _, base := range bases() {
		for range 1000 {
			m := someMeaning(r, 3)
			var a, b []Piece
			for _, i := range r.Perm(width) {
				t0 := base + uint64(i)
				a = set(t, a, of(t0, t0+1), valueOf(m[i]))
			}
			for i := range width { // from each instant on, up to the end of the window
				b = set(t, b, of(base+uint64(i), base+width), valueOf(m[i]))
			}
			if want := m.line(base); !equal(a, want) || !Same(a, b) {
				t.Errorf("%v: %v and %v", want, a, b)
			}
		}
	}
}

// P12.5: the second Set of a period counts; the order of two that have no instant in common doesn't; Set of Null is Within of everything else.
func TestTwoSets(t *testing.T) {
	r := rand.New(rand.NewSource(125))
	some := func() api.Value { return valueOf(r.Intn(len(palette())+1) - 1) }
	for _, base := range bases() {
		for range 4000 {
			l := someMeaning(r, 2).line(base)
			p, q := inWindow(base)[r.Intn(len(inWindow(base)))], inWindow(base)[r.Intn(len(inWindow(base)))]
			v, w := some(), some()
			if got := set(t, set(t, l, p, v), p, w); !Same(got, set(t, l, p, w)) {
				t.Errorf("%v: Set %v to %v, then to %v: %v", l, p, v, w, got)
			}
			if max(p.From, q.From) >= min(p.To, q.To) {
				a, b := set(t, set(t, l, p, v), q, w), set(t, set(t, l, q, w), p, v)
				if !Same(a, b) {
					t.Errorf("%v: Set %v to %v, and %v to %v: %v, or %v", l, p, v, q, w, a, b)
				}
			}
			rest := periods(0, p.From, p.To, 1<<40)
			if a, b := set(t, l, p, api.Value{}), within(t, l, rest); !Same(a, b) {
				t.Errorf("%v: Set %v to null: %v, Within the rest: %v", l, p, a, b)
			}
		}
	}
}

// P12.2 and P12.3: many changes, one after the other, of a line with many pieces.
func TestLong(t *testing.T) {
	r := rand.New(rand.NewSource(12))
	const long = 300
	var means [long]int
	for i := range means {
		means[i] = none
	}
	var l []Piece
	for range 4000 {
		from := r.Intn(long)
		to := min(long, from+1+r.Intn(12))
		n := r.Intn(4) - 1
		if r.Intn(40) == 0 {
			var s []api.Period
			for range 30 {
				s = append(s, of(uint64(r.Intn(long)), uint64(r.Intn(long))))
			}
			l = within(t, l, s)
			for i := range means {
				if !slices.ContainsFunc(s, func(p api.Period) bool { return p.From <= uint64(i) && uint64(i) < p.To }) {
					means[i] = none
				}
			}
		}
		l = set(t, l, of(uint64(from), uint64(to)), valueOf(n))
		for i := from; i < to; i++ {
			means[i] = n
		}
		for i, n := range means {
			if !isSame(meansAt(l, uint64(i)), valueOf(n)) {
				t.Fatalf("at %d: %v", i, l)
			}
		}
		if !isLine(l) {
			t.Fatalf("not a line: %v", l)
		}
	}
}

// meansAt is what l means at an instant, told without the package.
func meansAt(l []Piece, t uint64) api.Value {
	for _, x := range l {
		if x.Period.From <= t && t < x.Period.To {
			return x.Value
		}
	}
	return api.Value{}
}
