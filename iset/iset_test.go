package iset

import (
	"math"
	"math/rand"
	"slices"
	"testing"

	"almanac/api"
)

// of is the list of the periods with these ends, by twos.
func of(ends ...uint64) []api.Period {
	var l []api.Period
	for i := 0; i < len(ends); i += 2 {
		l = append(l, api.Period{From: ends[i], To: ends[i+1]})
	}
	return l
}

// width is how many instants a window has.
const width = 6

// bases are where windows begin: at the begin of time, within it, at its end, and across it.
func bases() []uint64 {
	return []uint64{0, 1, 1 << 33, api.Forever - width, api.Forever - 3, math.MaxUint64 - width}
}

// meant are the instants of the window at base that are in the set that l means, as bits, by the words of the chapter.
func meant(l []api.Period, base uint64) uint {
	var bits uint
	for i := range width {
		t := base + uint64(i)
		for _, p := range l {
			if p.From < p.To && p.To <= 1<<40 && p.From <= t && t < p.To {
				bits |= 1 << i
			}
		}
	}
	return bits
}

// normal is the normal form of the instants of the window at base whose bits are set, told without this package.
func normal(bits uint, base uint64) []api.Period {
	var l []api.Period
	for i := range width {
		t := base + uint64(i)
		switch {
		case bits>>i&1 == 0:
		case i > 0 && bits>>(i-1)&1 == 1:
			l[len(l)-1].To++
		default:
			l = append(l, api.Period{From: t, To: t + 1})
		}
	}
	return l
}

// isNormal tells whether l is a normal form, by the words of the chapter.
func isNormal(l []api.Period) bool {
	for i, p := range l {
		if p.From >= p.To || p.To > 1<<40 || i > 0 && l[i-1].To >= p.From {
			return false
		}
	}
	return true
}

// all are the bits of the window at base that are instants.
func all(base uint64) uint { return meant(of(0, 1<<40), base) }

// shuffled is a list with any periods in the window at base, and some that are not valid.
func shuffled(r *rand.Rand, base uint64) []api.Period {
	var l []api.Period
	for range r.Intn(7) {
		l = append(l, api.Period{From: base + uint64(r.Intn(width+1)), To: base + uint64(r.Intn(width+1))})
		if r.Intn(9) == 0 {
			l = append(l, of(0, 1<<40+1, math.MaxUint64, 0, 0, math.MaxUint64)[r.Intn(3)])
		}
	}
	return l
}

// anyLists calls f with lists of each window: all normal forms, and lists that are none.
func anyLists(f func(base uint64, l []api.Period)) {
	r := rand.New(rand.NewSource(6))
	for _, base := range bases() {
		for bits := range uint(1 << width) {
			f(base, normal(bits&all(base), base))
		}
		for range 2000 {
			f(base, shuffled(r, base))
		}
	}
}

// anyPairs calls f with pairs of lists of each window.
func anyPairs(f func(base uint64, a, b []api.Period)) {
	r := rand.New(rand.NewSource(66))
	for _, base := range bases() {
		for bits := range uint(1 << (2 * width)) {
			f(base, normal(bits&all(base), base), normal(bits>>width&all(base), base))
		}
		for range 4000 {
			f(base, shuffled(r, base), shuffled(r, base))
		}
	}
}

// P6.1: Of.
func TestOf(t *testing.T) {
	for _, x := range []struct{ l, want []api.Period }{
		{nil, nil},
		{of(5, 9, 1, 5, 7, 8, 9, 9), of(1, 9)},
		{of(1, 3, 5, 7), of(1, 3, 5, 7)},
		{of(5, 7, 1, 3), of(1, 3, 5, 7)},
		{of(1, 3, 3, 5), of(1, 5)},
		{of(3, 5, 1, 3), of(1, 5)},
		{of(1, 3, 4, 5), of(1, 3, 4, 5)},
		{of(1, 9, 2, 3, 4, 5, 9, 10), of(1, 10)},
		{of(1, 9, 1, 3, 1, 5), of(1, 9)},
		{of(2, 3, 2, 3, 2, 3), of(2, 3)},
		{of(0, 1<<40), of(0, 1<<40)},
		{of(1<<40-1, 1<<40, 0, 1), of(0, 1, 1<<40-1, 1<<40)},
		{of(1<<39, 1<<40, 0, 1<<39), of(0, 1<<40)},
		{of(3, 3, 5, 4, 0, 0), nil},
		{of(0, 1<<40+1, 1<<40, 1<<40, 1<<40, 1<<40+1, math.MaxUint64-1, math.MaxUint64, math.MaxUint64, 0), nil},
		{of(0, 1<<40+1, 2, 3, 0, math.MaxUint64, 4, 5), of(2, 3, 4, 5)},
		{of(2, 3, 3, 3, 4, 5), of(2, 3, 4, 5)},
		{of(2, 4, 9, 1, 4, 5), of(2, 5)},
	} {
		if got := Of(x.l); !slices.Equal(got, x.want) {
			t.Errorf("Of(%v) is %v", x.l, got)
		}
	}
}

// P6.1: Of, Is, Has and Size, instant by instant.
func TestAsks(t *testing.T) {
	anyLists(func(base uint64, l []api.Period) {
		bits := meant(l, base)
		got := Of(l)
		if want := normal(bits, base); !slices.Equal(got, want) {
			t.Errorf("Of(%v) is %v", l, got)
		}
		if Is(l) != isNormal(l) || !Is(got) {
			t.Errorf("Is(%v) is %v, of its normal form %v", l, Is(l), Is(got))
		}
		var size uint64
		for i := range width {
			has := bits>>i&1 == 1
			if Has(l, base+uint64(i)) != has {
				t.Errorf("Has(%v, %d) is %v", l, base+uint64(i), !has)
			}
			if has {
				size++
			}
		}
		if Size(l) != size {
			t.Errorf("Size(%v) is %d", l, Size(l))
		}
	})
}

// P6.1: Is.
func TestIs(t *testing.T) {
	for _, l := range [][]api.Period{nil, {}, of(0, 1), of(1, 2, 3, 4), of(0, 1<<40), of(0, 5, 6, 1<<40)} {
		if !Is(l) {
			t.Errorf("Is(%v) is false", l)
		}
	}
	for _, l := range [][]api.Period{
		of(0, 0), of(2, 1), of(1, 2, 2, 3), of(1, 4, 2, 3), of(1, 4, 3, 6), of(3, 4, 1, 2), of(1, 2, 1, 2), of(1, 2, 5, 5),
		of(0, 1<<40+1), of(1, 2, 3, 1<<40+1), of(1<<40, 1<<40+1), of(0, math.MaxUint64),
	} {
		if Is(l) {
			t.Errorf("Is(%v) is true", l)
		}
	}
}

// P6.1: Has.
func TestHas(t *testing.T) {
	for _, x := range []struct {
		l    []api.Period
		at   uint64
		want bool
	}{
		{nil, 0, false},
		{of(2, 4, 6, 8), 1, false},
		{of(2, 4, 6, 8), 2, true},
		{of(2, 4, 6, 8), 4, false},
		{of(2, 4, 6, 8), 7, true},
		{of(2, 4, 6, 8), 8, false},
		{of(6, 8, 2, 4), 3, true},
		{of(1, 9, 2, 3), 5, true},
		{of(0, 1<<40), 0, true},
		{of(0, 1<<40), 1<<40 - 1, true},
		{of(0, 1<<40), 1 << 40, false},
		{of(0, 1<<40), math.MaxUint64, false},
		{of(0, 1<<40+1), 5, false},
		{of(0, 1<<40+1, 5, 6), 5, true},
		{of(9, 1), 5, false},
	} {
		if got := Has(x.l, x.at); got != x.want {
			t.Errorf("Has(%v, %d) is %v", x.l, x.at, got)
		}
	}
}

// P6.1: Size, up to that of all instants; what is in two periods counts once.
func TestSize(t *testing.T) {
	for _, x := range []struct {
		l    []api.Period
		want uint64
	}{
		{nil, 0},
		{of(2, 4), 2},
		{of(2, 4, 6, 9), 5},
		{of(2, 4, 3, 9, 2, 4), 7},
		{of(0, 1<<40), 1 << 40},
		{of(0, 1<<40, 0, 1<<40, 5, 1<<40), 1 << 40},
		{of(1, 1<<40), 1<<40 - 1},
		{of(9, 1, 0, 1<<40+1, 3, 3), 0},
	} {
		if got := Size(x.l); got != x.want {
			t.Errorf("Size(%v) is %d", x.l, got)
		}
	}
}

// P6.1: Same and Covers.
func TestSameAndCovers(t *testing.T) {
	for _, x := range []struct {
		a, b                  []api.Period
		same, covers, covered bool
	}{
		{nil, nil, true, true, true},
		{of(1, 3), nil, false, true, false},
		{of(1, 3), of(1, 2, 2, 3), true, true, true},
		{of(1, 3), of(2, 3, 1, 2, 9, 4), true, true, true},
		{of(1, 9), of(2, 3, 5, 9), false, true, false},
		{of(1, 5), of(4, 6), false, false, false},
		{of(1, 5), of(6, 7), false, false, false},
		{of(2, 2), of(0, 1<<40+1), true, true, true},
		{of(0, 1<<40), of(1<<40-1, 1<<40), false, true, false},
		{of(0, 1<<40), of(1<<40, 1<<40+1), false, true, false},
	} {
		if Same(x.a, x.b) != x.same || Same(x.b, x.a) != x.same {
			t.Errorf("Same(%v, %v) is not %v", x.a, x.b, x.same)
		}
		if Covers(x.a, x.b) != x.covers || Covers(x.b, x.a) != x.covered {
			t.Errorf("Covers(%v, %v) is not %v, or not %v the other way round", x.a, x.b, x.covers, x.covered)
		}
	}
	anyPairs(func(base uint64, a, b []api.Period) {
		x, y := meant(a, base), meant(b, base)
		if Same(a, b) != (x == y) || Covers(a, b) != (y&^x == 0) {
			t.Errorf("%v and %v: Same %v, Covers %v", a, b, Same(a, b), Covers(a, b))
		}
	})
}

// P6.2: Union, Meet and Minus, with results known.
func TestAlgebraExamples(t *testing.T) {
	for _, x := range []struct{ a, b, union, meet, minus []api.Period }{
		{nil, nil, nil, nil, nil},
		{of(1, 5, 7, 9), of(3, 8), of(1, 9), of(3, 5, 7, 8), of(1, 3, 8, 9)},
		{of(3, 8), of(1, 5, 7, 9), of(1, 9), of(3, 5, 7, 8), of(5, 7)},
		{of(1, 5), nil, of(1, 5), nil, of(1, 5)},
		{nil, of(1, 5), of(1, 5), nil, nil},
		{of(1, 3), of(3, 5), of(1, 5), nil, of(1, 3)},
		{of(3, 5), of(1, 3), of(1, 5), nil, of(3, 5)},
		{of(1, 3), of(4, 5), of(1, 3, 4, 5), nil, of(1, 3)},
		{of(1, 9), of(1, 9), of(1, 9), of(1, 9), nil},
		{of(5, 9, 1, 5), of(4, 4, 8, 9, 2, 3), of(1, 9), of(2, 3, 8, 9), of(1, 2, 3, 8)},
		{of(0, 1<<40), of(5, 6), of(0, 1<<40), of(5, 6), of(0, 5, 6, 1<<40)},
		{of(0, 1<<40), of(0, 1<<40+1), of(0, 1<<40), nil, of(0, 1<<40)},
		{of(5, 1<<40), of(7, 1<<40), of(5, 1<<40), of(7, 1<<40), of(5, 7)},
		{of(7, 1<<40), of(5, 1<<40), of(5, 1<<40), of(7, 1<<40), nil},
		{of(9, 1), of(math.MaxUint64-1, math.MaxUint64), nil, nil, nil},
	} {
		if got := Union(x.a, x.b); !slices.Equal(got, x.union) {
			t.Errorf("Union(%v, %v) is %v", x.a, x.b, got)
		}
		if got := Meet(x.a, x.b); !slices.Equal(got, x.meet) {
			t.Errorf("Meet(%v, %v) is %v", x.a, x.b, got)
		}
		if got := Minus(x.a, x.b); !slices.Equal(got, x.minus) {
			t.Errorf("Minus(%v, %v) is %v", x.a, x.b, got)
		}
	}
}

// P6.2: Not, with results known.
func TestNotExamples(t *testing.T) {
	for _, x := range []struct{ a, want []api.Period }{
		{nil, of(0, 1<<40)},
		{of(0, 3), of(3, 1<<40)},
		{of(1, 3), of(0, 1, 3, 1<<40)},
		{of(0, 1<<40), nil},
		{of(1, 1<<40), of(0, 1)},
		{of(0, 1<<40-1), of(1<<40-1, 1<<40)},
		{of(5, 7, 1, 3, 2, 4), of(0, 1, 4, 5, 7, 1<<40)},
		{of(7, 3, 0, 1<<40+1, 0, math.MaxUint64), of(0, 1<<40)},
	} {
		if got := Not(x.a); !slices.Equal(got, x.want) {
			t.Errorf("Not(%v) is %v", x.a, got)
		}
	}
}

// P6.2 and P6.4: instant by instant. Results that are equal to the normal forms of what the window shows have no instants beyond it.
func TestInstantByInstant(t *testing.T) {
	anyPairs(func(base uint64, a, b []api.Period) {
		x, y := meant(a, base), meant(b, base)
		if got := Union(a, b); !slices.Equal(got, normal(x|y, base)) {
			t.Errorf("Union(%v, %v) is %v", a, b, got)
		}
		if got := Meet(a, b); !slices.Equal(got, normal(x&y, base)) {
			t.Errorf("Meet(%v, %v) is %v", a, b, got)
		}
		if got := Minus(a, b); !slices.Equal(got, normal(x&^y, base)) {
			t.Errorf("Minus(%v, %v) is %v", a, b, got)
		}
	})
	anyLists(func(base uint64, l []api.Period) {
		got := Not(l)
		if !isNormal(got) || meant(got, base) != all(base)&^meant(l, base) {
			t.Errorf("Not(%v) is %v", l, got)
		}
		for _, at := range []uint64{0, 1, base - 1, base + width, 1<<40 - 1, 1 << 40, math.MaxUint64} {
			if Has(got, at) != (at < 1<<40 && !Has(l, at)) {
				t.Errorf("Not(%v) is %v, of %d", l, got, at)
			}
		}
	})
}

// sparse is a set whose ends are anywhere in time, as a list that is no normal form.
func sparse(r *rand.Rand) []api.Period {
	place := func() uint64 {
		return []uint64{0, 1, 1 << 39, api.Forever - 1, api.Forever, api.Forever + 1, uint64(r.Int63n(api.Forever)), uint64(r.Intn(20)), r.Uint64()}[r.Intn(9)]
	}
	var l []api.Period
	for range r.Intn(9) {
		l = append(l, api.Period{From: place(), To: place()})
	}
	return l
}

// P6.5: the laws of an algebra, of lists anywhere in time.
func TestLaws(t *testing.T) {
	r := rand.New(rand.NewSource(65))
	whole := of(0, 1<<40)
	for range 20000 {
		a, b, c := sparse(r), sparse(r), sparse(r)
		for i, law := range [][2][]api.Period{
			{Union(a, b), Union(b, a)},
			{Meet(a, b), Meet(b, a)},
			{Union(a, Union(b, c)), Union(Union(a, b), c)},
			{Meet(a, Meet(b, c)), Meet(Meet(a, b), c)},
			{Meet(a, Union(b, c)), Union(Meet(a, b), Meet(a, c))},
			{Union(a, Meet(b, c)), Meet(Union(a, b), Union(a, c))},
			{Not(Union(a, b)), Meet(Not(a), Not(b))},
			{Not(Meet(a, b)), Union(Not(a), Not(b))},
			{Meet(a, Not(a)), nil},
			{Union(a, Not(a)), whole},
			{Not(Not(a)), Of(a)},
			{Minus(a, b), Meet(a, Not(b))},
			{Union(a, a), Of(a)},
			{Meet(a, whole), Of(a)},
			{Minus(a, nil), Of(a)},
		} {
			if !slices.Equal(law[0], law[1]) || !isNormal(law[0]) {
				t.Errorf("law %d fails of %v, %v and %v: %v, %v", i, a, b, c, law[0], law[1])
			}
		}
		if Covers(a, b) != Same(Union(a, b), a) || Same(a, b) != (Covers(a, b) && Covers(b, a)) {
			t.Errorf("%v and %v: Covers %v, Same %v", a, b, Covers(a, b), Same(a, b))
		}
	}
}

// P6.6: sizes.
func TestSizesAddUp(t *testing.T) {
	r := rand.New(rand.NewSource(64))
	for range 20000 {
		a, b := sparse(r), sparse(r)
		if Size(Union(a, b))+Size(Meet(a, b)) != Size(a)+Size(b) || Size(a)+Size(Not(a)) != 1<<40 {
			t.Errorf("the sizes of %v and %v don't add up", a, b)
		}
	}
}

// calls are all calls that return a list, with any two lists.
func calls() map[string]func(a, b []api.Period) []api.Period {
	return map[string]func(a, b []api.Period) []api.Period{
		"Of":    func(a, b []api.Period) []api.Period { return Of(a) },
		"Union": Union,
		"Meet":  Meet,
		"Minus": Minus,
		"Not":   func(a, b []api.Period) []api.Period { return Not(a) },
		"Parse": func(a, b []api.Period) []api.Period {
			l, _ := Parse(Text(a))
			return l
		},
	}
}

// R3: arguments are not changed, not even behind their ends, and results are new memory.
func TestMemory(t *testing.T) {
	r := rand.New(rand.NewSource(63))
	for name, call := range calls() {
		for range 2000 {
			a, b := sparse(r), sparse(r)
			if r.Intn(2) == 0 {
				a, b = Of(a), Of(b)
			}
			kept := append(slices.Clone(a), of(7, 8, 9, 10)...)
			a = slices.Clone(kept)
			part := a[:len(a)-2]
			bKept := slices.Clone(b)
			got := call(part, b)
			want := slices.Clone(got)
			Is(part)
			Has(part, 5)
			Covers(part, b)
			Same(part, b)
			Size(part)
			Text(part)
			if !slices.Equal(a, kept) || !slices.Equal(b, bKept) {
				t.Fatalf("%s: %v and %v are now %v and %v", name, kept, bKept, a, b)
			}
			for i := range got {
				got[i] = api.Period{From: 77, To: 78}
			}
			if !slices.Equal(a, kept) || !slices.Equal(b, bKept) {
				t.Fatalf("%s shares memory with an argument", name)
			}
			if again := call(part, b); !slices.Equal(again, want) {
				t.Fatalf("%s is %v, but was %v", name, again, want)
			}
		}
	}
}

// R1: long lists, in any order, are done in good time.
func TestLongLists(t *testing.T) {
	const n = 200000
	var a, b []api.Period
	for i := range uint64(n) {
		a = append(a, api.Period{From: 4 * i, To: 4*i + 2})
		b = append(b, api.Period{From: 4*i + 1, To: 4*i + 3})
	}
	slices.Reverse(a)
	rand.New(rand.NewSource(62)).Shuffle(n, func(i, j int) { b[i], b[j] = b[j], b[i] })
	if Size(Union(a, b)) != 3*n || Size(Meet(a, b)) != n || Size(Minus(a, b)) != n || len(Not(a)) != n || Covers(a, b) || Same(a, b) {
		t.Error("long lists")
	}
	text := Text(a)
	if l, err := Parse(text); err != api.OK || len(l) != n {
		t.Errorf("Parse of a long text has %d periods, %d", len(l), err)
	}
	if _, err := Parse(text + "["); err != api.ErrForm {
		t.Errorf("Parse of a long text that is cut off is %d", err)
	}
}

// R7: goroutines that use the package at one time don't disturb each other.
func TestGoroutines(t *testing.T) {
	a, b := of(5, 9, 1, 5, 20, 30), of(3, 8, 25, 40)
	want := of(1, 3, 8, 9, 20, 25)
	done := make(chan []api.Period)
	for range 8 {
		go func() {
			var got []api.Period
			for range 500 {
				got, _ = Parse(Text(Minus(a, b)))
			}
			done <- got
		}()
	}
	for range 8 {
		if got := <-done; !slices.Equal(got, want) {
			t.Errorf("Minus(%v, %v) is %v", a, b, got)
		}
	}
}
