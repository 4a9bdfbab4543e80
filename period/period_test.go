package period

import (
	"cmp"
	"math"
	"slices"
	"testing"

	"almanac/api"
)

// of is the period with these ends.
func of(from, to uint64) api.Period { return api.Period{From: from, To: to} }

// anyPeriods are periods with all ends near those that the document names: valid, empty, reversed, and beyond Forever.
func anyPeriods() []api.Period {
	places := []uint64{0, 1, 2, 3, 4, 1 << 32, api.Forever - 2, api.Forever - 1, api.Forever, api.Forever + 1, 1 << 63, math.MaxUint64 - 1, math.MaxUint64}
	var l []api.Period
	for _, from := range places {
		for _, to := range places {
			l = append(l, of(from, to))
		}
	}
	return l
}

// validPeriods are those of anyPeriods that are valid, told without this package.
func validPeriods() []api.Period {
	return slices.DeleteFunc(anyPeriods(), func(p api.Period) bool { return p.From >= p.To || p.To > 1<<40 })
}

// gridSize is how many instants a grid has.
const gridSize = 7

// grid are all periods whose ends are among gridSize+1 neighbours from base on, those that are not valid too.
func grid(base uint64) []api.Period {
	var l []api.Period
	for from := range uint64(gridSize + 1) {
		for to := range uint64(gridSize + 1) {
			l = append(l, of(base+from, base+to))
		}
	}
	return l
}

// grids are grids at the begin of time, within it, at its end, and across it.
func grids() map[string]uint64 {
	return map[string]uint64{"begin": 0, "within": 1 << 33, "end": api.Forever - gridSize, "across": api.Forever - 3, "wrapping": math.MaxUint64 - gridSize}
}

// instants are the instants of p, among those of the grid at base, by the words of the chapter.
func instants(p api.Period, base uint64) [gridSize]bool {
	var l [gridSize]bool
	for i := range l {
		t := base + uint64(i)
		l[i] = p.From < p.To && p.To <= 1<<40 && t >= p.From && t < p.To
	}
	return l
}

// P5.1: May.
func TestMay(t *testing.T) {
	for _, x := range []struct {
		p    api.Period
		want bool
	}{
		{of(0, 1), true},
		{of(3, 9), true},
		{of(0, 1<<40), true},
		{of(1<<40-1, 1<<40), true},
		{of(0, 0), false},
		{of(4, 4), false},
		{of(5, 4), false},
		{of(1<<40, 1<<40), false},
		{of(0, 1<<40+1), false},
		{of(1<<40, 1<<40+1), false},
		{of(0, math.MaxUint64), false},
		{of(math.MaxUint64, 0), false},
		{of(math.MaxUint64-1, math.MaxUint64), false},
		{of(math.MaxUint64, math.MaxUint64), false},
	} {
		if got := May(x.p); got != x.want {
			t.Errorf("May(%v) is %v", x.p, got)
		}
	}
	for _, p := range anyPeriods() {
		if got := May(p); got != slices.Contains(validPeriods(), p) {
			t.Errorf("May(%v) is %v", p, got)
		}
	}
}

// P5.1: Has.
func TestHas(t *testing.T) {
	for _, x := range []struct {
		p    api.Period
		at   uint64
		want bool
	}{
		{of(3, 5), 2, false},
		{of(3, 5), 3, true},
		{of(3, 5), 4, true},
		{of(3, 5), 5, false},
		{of(0, 1), 0, true},
		{of(0, 1), 1, false},
		{of(0, 1<<40), 1<<40 - 1, true},
		{of(0, 1<<40), 1 << 40, false},
		{of(0, 1<<40), math.MaxUint64, false},
		{of(3, 3), 3, false},
		{of(5, 3), 4, false},
		{of(0, 1<<40+1), 4, false},
		{of(0, 1<<40+1), 1 << 40, false},
		{of(0, math.MaxUint64), 1, false},
		{of(0, 0), 0, false},
	} {
		if got := Has(x.p, x.at); got != x.want {
			t.Errorf("Has(%v, %d) is %v", x.p, x.at, got)
		}
	}
	for name, base := range grids() {
		for _, p := range grid(base) {
			for i, want := range instants(p, base) {
				if got := Has(p, base+uint64(i)); got != want {
					t.Errorf("%s: Has(%v, %d) is %v", name, p, base+uint64(i), got)
				}
			}
		}
	}
}

// P5.1: Compare, of periods that are not valid too.
func TestCompare(t *testing.T) {
	for _, x := range []struct {
		p, q api.Period
		want int
	}{
		{of(1, 5), of(1, 5), 0},
		{of(1, 9), of(2, 3), -1},
		{of(2, 3), of(1, 9), 1},
		{of(1, 4), of(1, 5), -1},
		{of(1, 5), of(1, 4), 1},
		{of(5, 1), of(5, 0), 1},
		{of(0, 0), of(0, 0), 0},
		{of(0, math.MaxUint64), of(1, 0), -1},
		{of(math.MaxUint64, 0), of(0, math.MaxUint64), 1},
		{of(0, math.MaxUint64), of(0, 0), 1},
		{of(0, 1<<63), of(0, 1<<63-1), 1},
	} {
		if got := Compare(x.p, x.q); got != x.want {
			t.Errorf("Compare(%v, %v) is %d", x.p, x.q, got)
		}
	}
	for _, p := range anyPeriods() {
		for _, q := range anyPeriods() {
			want := cmp.Compare(p.From, q.From)
			if p.From == q.From {
				want = cmp.Compare(p.To, q.To)
			}
			if got := Compare(p, q); got != want {
				t.Errorf("Compare(%v, %v) is %d", p, q, got)
			}
		}
	}
}

// P5.2: Meet of ordinary periods, of those that touch, and of those that are not valid.
func TestMeet(t *testing.T) {
	for _, x := range []struct {
		p, q, want api.Period
		some       bool
	}{
		{of(1, 5), of(3, 9), of(3, 5), true},
		{of(0, 9), of(3, 5), of(3, 5), true},
		{of(3, 5), of(3, 5), of(3, 5), true},
		{of(3, 5), of(3, 9), of(3, 5), true},
		{of(0, 1<<40), of(1<<40-1, 1<<40), of(1<<40-1, 1<<40), true},
		{of(1, 3), of(3, 5), of(0, 0), false},
		{of(1, 3), of(4, 5), of(0, 0), false},
		{of(1, 9), of(4, 4), of(0, 0), false},
		{of(1, 9), of(5, 4), of(0, 0), false},
		{of(1, 9), of(4, 1<<40+1), of(0, 0), false}, // what they had in common would be valid, but the second one has no instants
		{of(1, 9), of(0, math.MaxUint64), of(0, 0), false},
		{of(0, math.MaxUint64), of(0, math.MaxUint64), of(0, 0), false},
	} {
		for _, l := range [][2]api.Period{{x.p, x.q}, {x.q, x.p}} {
			if got, some := Meet(l[0], l[1]); got != x.want || some != x.some {
				t.Errorf("Meet(%v, %v) is %v, %v", l[0], l[1], got, some)
			}
		}
	}
}

// P5.2: Minus of ordinary periods, and of those that are not valid.
func TestMinus(t *testing.T) {
	for _, x := range []struct {
		p, q api.Period
		want []api.Period
	}{
		{of(0, 9), of(3, 5), []api.Period{of(0, 3), of(5, 9)}},
		{of(3, 5), of(0, 9), nil},
		{of(3, 5), of(3, 5), nil},
		{of(0, 3), of(3, 5), []api.Period{of(0, 3)}},
		{of(5, 9), of(3, 5), []api.Period{of(5, 9)}},
		{of(0, 2), of(3, 5), []api.Period{of(0, 2)}},
		{of(7, 9), of(3, 5), []api.Period{of(7, 9)}},
		{of(0, 4), of(3, 5), []api.Period{of(0, 3)}},
		{of(4, 9), of(3, 5), []api.Period{of(5, 9)}},
		{of(3, 9), of(3, 5), []api.Period{of(5, 9)}},
		{of(0, 5), of(3, 5), []api.Period{of(0, 3)}},
		{of(0, 1<<40), of(1, 1<<40-1), []api.Period{of(0, 1), of(1<<40-1, 1<<40)}},
		{of(0, 9), of(4, 4), []api.Period{of(0, 9)}},
		{of(0, 9), of(5, 4), []api.Period{of(0, 9)}},
		{of(0, 9), of(3, 1<<40+1), []api.Period{of(0, 9)}},
		{of(0, 9), of(0, math.MaxUint64), []api.Period{of(0, 9)}},
		{of(4, 4), of(0, 9), nil},
		{of(5, 4), of(0, 9), nil},
		{of(5, 4), of(7, 9), nil},
		{of(0, 1<<40+1), of(3, 5), nil},
		{of(0, math.MaxUint64), of(7, 7), nil},
	} {
		if got := Minus(x.p, x.q); !slices.Equal(got, x.want) {
			t.Errorf("Minus(%v, %v) is %v", x.p, x.q, got)
		}
	}
}

// P5.2 and P5.6: Meet and Minus instant by instant: each instant of p is in exactly one of them, and no other one is.
func TestMeetAndMinusPartition(t *testing.T) {
	for name, base := range grids() {
		for _, p := range grid(base) {
			for _, q := range grid(base) {
				common, some := Meet(p, q)
				left := Minus(p, q)
				if some == (common == api.Period{}) {
					t.Errorf("%s: Meet(%v, %v) is %v, %v", name, p, q, common, some)
				}
				inP, inQ, inCommon := instants(p, base), instants(q, base), instants(common, base)
				for i := range gridSize {
					var inLeft int
					for _, piece := range left {
						if instants(piece, base)[i] {
							inLeft++
						}
					}
					if inCommon[i] != (inP[i] && inQ[i]) || (inLeft == 1) != (inP[i] && !inQ[i]) || inLeft > 1 {
						t.Errorf("%s: %v and %v: Meet %v, Minus %v", name, p, q, common, left)
					}
				}
			}
		}
	}
}

// P5.2: the pieces of Minus are valid, ascending, at most two, and not adjacent; what Meet returns is valid. So they have no instants beyond those of p.
func TestMeetAndMinusAreValid(t *testing.T) {
	valid := validPeriods()
	for _, p := range anyPeriods() {
		for _, q := range anyPeriods() {
			if common, some := Meet(p, q); some && (common.From >= common.To || common.From < p.From || common.To > p.To || common.From < q.From || common.To > q.To || !slices.Contains(valid, p) || !slices.Contains(valid, q)) {
				t.Errorf("Meet(%v, %v) is %v", p, q, common)
			}
			left := Minus(p, q)
			if len(left) > 2 || len(left) == 2 && left[0].To >= left[1].From {
				t.Errorf("Minus(%v, %v) is %v", p, q, left)
			}
			for _, piece := range left {
				if piece.From >= piece.To || piece.From < p.From || piece.To > p.To || !slices.Contains(valid, p) {
					t.Errorf("Minus(%v, %v) is %v", p, q, left)
				}
			}
		}
	}
}

// P5.2: Hull of ordinary periods, and of those that are not valid.
func TestHull(t *testing.T) {
	for _, x := range []struct {
		p, q, want api.Period
		err        api.Errno
	}{
		{of(1, 3), of(7, 9), of(1, 9), api.OK},
		{of(1, 5), of(3, 9), of(1, 9), api.OK},
		{of(0, 9), of(3, 5), of(0, 9), api.OK},
		{of(3, 5), of(3, 5), of(3, 5), api.OK},
		{of(0, 1), of(1<<40-1, 1<<40), of(0, 1<<40), api.OK},
		{of(1, 3), of(3, 3), of(0, 0), api.ErrArg},
		{of(1, 3), of(5, 4), of(0, 0), api.ErrArg},
		{of(1, 3), of(2, 1<<40+1), of(0, 0), api.ErrArg},
		{of(1, 3), of(2, math.MaxUint64), of(0, 0), api.ErrArg},
		{of(0, 0), of(0, 0), of(0, 0), api.ErrArg},
	} {
		for _, l := range [][2]api.Period{{x.p, x.q}, {x.q, x.p}} {
			if got, err := Hull(l[0], l[1]); got != x.want || err != x.err {
				t.Errorf("Hull(%v, %v) is %v, %d", l[0], l[1], got, err)
			}
		}
	}
}

// P5.2: no valid period that contains both is smaller than Hull.
func TestHullIsSmallest(t *testing.T) {
	valid := validPeriods()
	contains := func(p, q api.Period) bool { return p.From <= q.From && q.To <= p.To }
	for _, p := range anyPeriods() {
		for _, q := range anyPeriods() {
			got, err := Hull(p, q)
			if !slices.Contains(valid, p) || !slices.Contains(valid, q) {
				if err != api.ErrArg || got != of(0, 0) {
					t.Errorf("Hull(%v, %v) is %v, %d", p, q, got, err)
				}
				continue
			}
			if err != api.OK || !contains(got, p) || !contains(got, q) {
				t.Errorf("Hull(%v, %v) is %v, %d", p, q, got, err)
			}
			for _, other := range valid {
				if contains(other, p) && contains(other, q) && !contains(other, got) {
					t.Errorf("Hull(%v, %v) is %v, but %v is smaller", p, q, got, other)
				}
			}
		}
	}
}

// P5.2 and R3: what Minus returns is new each time.
func TestMinusIsNew(t *testing.T) {
	a, b := Minus(of(0, 9), of(3, 5)), Minus(of(0, 9), of(3, 5))
	a[0], a[1] = of(7, 8), of(8, 9)
	if !slices.Equal(b, []api.Period{of(0, 3), of(5, 9)}) {
		t.Errorf("two results of Minus share memory: %v", b)
	}
}
