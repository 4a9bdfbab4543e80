package value

import (
	"math"
	"math/big"
	"slices"
	"strings"
	"testing"

	"almanac/api"
)

func sign(n int) int {
	switch {
	case n < 0:
		return -1
	case n > 0:
		return 1
	}
	return 0
}

// worth compares two numbers, neither of them a NaN, by exact arithmetic.
func worth(a, b api.Value) int {
	exact := func(v api.Value) *big.Float {
		if v.Kind == api.Int {
			return new(big.Float).SetPrec(64).SetInt64(v.Num)
		}
		return new(big.Float).SetPrec(64).SetFloat64(v.Float)
	}
	return exact(a).Cmp(exact(b))
}

// ranks is a value's place in the order as a list of numbers, told without the comparisons of this package: the group, then what decides within the group.
func ranks(v api.Value) (group, second int) {
	switch v.Kind {
	case api.Bool:
		if v.Bool {
			return 2, 0
		}
		return 1, 0
	case api.Int:
		return 3, 0
	case api.Float:
		if math.IsNaN(v.Float) {
			return 4, 0
		}
		if math.Signbit(v.Float) {
			return 3, 1
		}
		return 3, 2
	case api.Str:
		return 5, 0
	case api.Node:
		return 6, 0
	case api.Edge:
		return 7, 0
	}
	return 0, 0
}

// wantOrder is what Compare should tell.
func wantOrder(a, b api.Value) int {
	groupA, secondA := ranks(a)
	groupB, secondB := ranks(b)
	if groupA != groupB {
		return sign(groupA - groupB)
	}
	switch groupA {
	case 3:
		if n := worth(a, b); n != 0 {
			return n
		}
		return sign(secondA - secondB)
	case 5:
		return strings.Compare(a.Str, b.Str)
	case 6, 7:
		return big.NewInt(a.Num).Cmp(big.NewInt(b.Num))
	}
	return 0
}

// P2.2: the document's examples.
func TestCompareExamples(t *testing.T) {
	for _, x := range []struct {
		a, b api.Value
		want int
	}{
		{Number(1), Point(1), -1}, {Point(1), Number(2), -1}, {Truth(true), Number(-5), -1}, {Point(negZero), Point(0), -1}, {Point(math.NaN()), Point(math.Inf(1)), 1},
		{Number(0), Point(negZero), -1}, {Point(negZero), Number(0), 1}, {Number(math.MaxInt64), Point(math.NaN()), -1}, {Point(1), Number(1), 1},
		{Word("10"), Word("9"), -1}, {Number(10), Number(9), 1}, {node(10), node(9), 1}, {node(1 << 40), edge(1), -1}, {edge(1 << 40), node(1), 1}, {Word(""), node(1), -1},
	} {
		if got := Compare(x.a, x.b); got != x.want {
			t.Errorf("Compare(%v, %v) is %d", x.a, x.b, got)
		}
	}
}

// P2.2: Compare and Same on values that stand in the order.
func TestCompare(t *testing.T) {
	l := ascending()
	for i, a := range l {
		for j, b := range l {
			if got := Compare(a, b); got != sign(i-j) {
				t.Errorf("Compare(%v, %v) is %d", a, b, got)
			}
			if got := Same(a, b); got != (i == j) {
				t.Errorf("Same(%v, %v) is %v", a, b, got)
			}
		}
	}
}

// P2.2 and P2.5: Compare against the order as the document tells it; only identical values are the same.
func TestCompareMany(t *testing.T) {
	l := manyValues(700)
	for _, a := range l {
		for _, b := range l {
			got := Compare(a, b)
			if got != wantOrder(a, b) || Same(a, b) != (got == 0) {
				t.Errorf("Compare(%v, %v) is %d, Same %v", a, b, got, Same(a, b))
			}
			if (got == 0) != equal(a, b) || got != -Compare(b, a) {
				t.Errorf("%v and %v: %d, %d", a, b, got, Compare(b, a))
			}
		}
	}
}

// P2.5: what is sorted by Compare is in the order throughout, not only from one to the next.
func TestOrderIsTotal(t *testing.T) {
	l := manyValues(700)
	slices.SortFunc(l, Compare)
	for i, a := range l {
		for _, b := range l[i:] {
			if Compare(a, b) > 0 {
				t.Errorf("%v is behind %v", a, b)
			}
		}
	}
}
