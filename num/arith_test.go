package num

import (
	"math"
	"math/big"
	"math/rand"
	"slices"
	"testing"

	"almanac/api"
)

// pairs are pairs of integers: all edges with each other, and many others of all lengths.
func pairs() [][2]int64 {
	var l [][2]int64
	for _, a := range edgeInts() {
		for _, b := range edgeInts() {
			l = append(l, [2]int64{a, b})
		}
	}
	r := rand.New(rand.NewSource(3))
	for range 5000 {
		l = append(l, [2]int64{int64(r.Uint64()) >> r.Intn(64), int64(r.Uint64()) >> r.Intn(64)})
	}
	return l
}

// fits is what a checked call returns whose exact result is n.
func fits(n *big.Int) (int64, api.Errno) {
	if !n.IsInt64() {
		return 0, api.ErrOverflow
	}
	return n.Int64(), api.OK
}

// P1.2: the document's examples, and the ends of int64.
func TestArithmetic(t *testing.T) {
	const least, most = math.MinInt64, math.MaxInt64
	for _, x := range []struct {
		name string
		f    func(a, b int64) (int64, api.Errno)
		a, b int64
		n    int64
		err  api.Errno
	}{
		{"Add", Add, 2, 3, 5, api.OK}, {"Add", Add, -2, -3, -5, api.OK}, {"Add", Add, most, 1, 0, api.ErrOverflow}, {"Add", Add, least, -1, 0, api.ErrOverflow},
		{"Add", Add, most, least, -1, api.OK}, {"Add", Add, most - 1, 1, most, api.OK}, {"Add", Add, least, least, 0, api.ErrOverflow}, {"Add", Add, least, 0, least, api.OK},
		{"Sub", Sub, 2, 3, -1, api.OK}, {"Sub", Sub, least, 1, 0, api.ErrOverflow}, {"Sub", Sub, most, -1, 0, api.ErrOverflow}, {"Sub", Sub, 0, least, 0, api.ErrOverflow},
		{"Sub", Sub, -1, least, most, api.OK}, {"Sub", Sub, least, least, 0, api.OK}, {"Sub", Sub, -1, most, least, api.OK}, {"Sub", Sub, -2, most, 0, api.ErrOverflow},
		{"Mul", Mul, 6, -7, -42, api.OK}, {"Mul", Mul, 0, least, 0, api.OK}, {"Mul", Mul, -1, least, 0, api.ErrOverflow}, {"Mul", Mul, least, -1, 0, api.ErrOverflow},
		{"Mul", Mul, 1, least, least, api.OK}, {"Mul", Mul, 1 << 32, 1 << 31, 0, api.ErrOverflow}, {"Mul", Mul, -1 << 32, 1 << 31, least, api.OK}, {"Mul", Mul, 1 << 32, 1 << 32, 0, api.ErrOverflow},
		{"Div", Div, 7, 2, 3, api.OK}, {"Div", Div, -7, 2, -3, api.OK}, {"Div", Div, 7, -2, -3, api.OK}, {"Div", Div, -7, -2, 3, api.OK},
		{"Div", Div, 1, 0, 0, api.ErrArg}, {"Div", Div, 0, 0, 0, api.ErrArg}, {"Div", Div, least, 0, 0, api.ErrArg},
		{"Div", Div, least, -1, 0, api.ErrOverflow}, {"Div", Div, least, 1, least, api.OK}, {"Div", Div, most, least, 0, api.OK}, {"Div", Div, least, most, -1, api.OK},
		{"Mod", Mod, 7, 2, 1, api.OK}, {"Mod", Mod, -7, 2, -1, api.OK}, {"Mod", Mod, 7, -2, 1, api.OK}, {"Mod", Mod, -7, -2, -1, api.OK}, {"Mod", Mod, 6, 3, 0, api.OK},
		{"Mod", Mod, 1, 0, 0, api.ErrArg}, {"Mod", Mod, 0, 0, 0, api.ErrArg}, {"Mod", Mod, least, 0, 0, api.ErrArg}, {"Mod", Mod, least, -1, 0, api.OK}, {"Mod", Mod, 5, -1, 0, api.OK},
		{"Mod", Mod, least, least, 0, api.OK}, {"Mod", Mod, most, least, most, api.OK}, {"Mod", Mod, least, most, -1, api.OK},
	} {
		if n, err := x.f(x.a, x.b); n != x.n || err != x.err {
			t.Errorf("%s(%d, %d) is %d, %d", x.name, x.a, x.b, n, err)
		}
	}
}

// P1.2: Neg.
func TestNeg(t *testing.T) {
	for _, a := range edgeInts() {
		n, err := Neg(a)
		if want, e := fits(new(big.Int).Neg(big.NewInt(a))); n != want || err != e {
			t.Errorf("Neg(%d) is %d, %d", a, n, err)
		}
	}
	if n, err := Neg(math.MinInt64); n != 0 || err != api.ErrOverflow {
		t.Errorf("Neg of the least integer is %d, %d", n, err)
	}
}

// P1.2 and P1.7: Add, Sub and Mul are exact, or tell the overflow.
func TestArithmeticIsExact(t *testing.T) {
	for _, x := range []struct {
		name  string
		f     func(a, b int64) (int64, api.Errno)
		exact func(z, a, b *big.Int) *big.Int
	}{{"Add", Add, (*big.Int).Add}, {"Sub", Sub, (*big.Int).Sub}, {"Mul", Mul, (*big.Int).Mul}} {
		for _, p := range pairs() {
			n, err := x.f(p[0], p[1])
			want, e := fits(x.exact(new(big.Int), big.NewInt(p[0]), big.NewInt(p[1])))
			if n != want || err != e {
				t.Errorf("%s(%d, %d) is %d, %d, not %d, %d", x.name, p[0], p[1], n, err, want, e)
			}
		}
	}
}

// P1.2 and P1.7: b times Div(a, b), plus Mod(a, b), is a; the quotient is truncated, and the remainder has the sign of a.
func TestDivisionIsExact(t *testing.T) {
	for _, p := range pairs() {
		a, b := p[0], p[1]
		div, e := Div(a, b)
		mod, f := Mod(a, b)
		switch {
		case b == 0:
			if div != 0 || mod != 0 || e != api.ErrArg || f != api.ErrArg {
				t.Errorf("%d by 0: %d, %d and %d, %d", a, div, e, mod, f)
			}
			continue
		case a == math.MinInt64 && b == -1:
			if div != 0 || e != api.ErrOverflow || mod != 0 || f != api.OK {
				t.Errorf("%d by %d: %d, %d and %d, %d", a, b, div, e, mod, f)
			}
			continue
		}
		q, r := new(big.Int).QuoRem(big.NewInt(a), big.NewInt(b), new(big.Int))
		if e != api.OK || f != api.OK || div != q.Int64() || mod != r.Int64() {
			t.Errorf("%d by %d: %d, %d and %d, %d", a, b, div, e, mod, f)
		}
		if b*div+mod != a || mod != 0 && (mod < 0) != (a < 0) {
			t.Errorf("%d by %d: %d, rest %d", a, b, div, mod)
		}
		if b == -1 && mod != 0 {
			t.Errorf("Mod(%d, -1) is %d", a, mod)
		}
	}
}

// P1.2: Sum overflows only if the whole sum does, whatever the sums on the way are.
func TestSum(t *testing.T) {
	const least, most = math.MinInt64, math.MaxInt64
	for _, x := range []struct {
		l   []int64
		n   int64
		err api.Errno
	}{
		{nil, 0, api.OK}, {[]int64{}, 0, api.OK}, {[]int64{-4}, -4, api.OK}, {[]int64{1, 2, 3}, 6, api.OK}, {[]int64{1, -2, -3}, -4, api.OK},
		{[]int64{most, 5, -9}, most - 4, api.OK}, {[]int64{least, -5, 9}, least + 4, api.OK},
		{[]int64{most, 1}, 0, api.ErrOverflow}, {[]int64{least, -1}, 0, api.ErrOverflow}, {[]int64{most, 1, -1}, most, api.OK}, {[]int64{least, -1, 1}, least, api.OK},
		{[]int64{most, most, most, least, least, least}, -3, api.OK}, {[]int64{least, least, least, most, most, most}, -3, api.OK},
		{[]int64{most, most, 2}, 0, api.ErrOverflow}, {[]int64{least, least}, 0, api.ErrOverflow}, {[]int64{most, most, 2, least}, 0, api.ErrOverflow}, {[]int64{most, most, 2, least, least}, 0, api.OK},
	} {
		had := slices.Clone(x.l)
		if n, err := Sum(x.l); n != x.n || err != x.err {
			t.Errorf("Sum(%v) is %d, %d", x.l, n, err)
		}
		if !slices.Equal(had, x.l) {
			t.Errorf("Sum changed %v to %v", had, x.l)
		}
	}
}

// P1.2: Sum against exact sums, in any order of the elements.
func TestSumIsExact(t *testing.T) {
	r := rand.New(rand.NewSource(4))
	for range 2000 {
		var l []int64
		exact := new(big.Int)
		for range r.Intn(12) {
			n := int64(r.Uint64()) >> (r.Intn(3) * r.Intn(32))
			l = append(l, n)
			exact.Add(exact, big.NewInt(n))
		}
		want, e := fits(exact)
		for range 2 {
			if n, err := Sum(l); n != want || err != e {
				t.Errorf("Sum(%v) is %d, %d, not %d, %d", l, n, err, want, e)
			}
			r.Shuffle(len(l), func(i, j int) { l[i], l[j] = l[j], l[i] })
		}
	}
}

// P1.2: the sums on the way may go round 64 bits many times.
func TestSumOfMany(t *testing.T) {
	const half = 1 << 16
	l := make([]int64, 2*half)
	for i := range l {
		l[i] = math.MaxInt64
		if i >= half {
			l[i] = math.MinInt64
		}
	}
	if n, err := Sum(l); n != -half || err != api.OK {
		t.Errorf("the sum is %d, %d", n, err)
	}
	if n, err := Sum(l[:half]); n != 0 || err != api.ErrOverflow {
		t.Errorf("the first half's sum is %d, %d", n, err)
	}
	if n, err := Sum(l[half:]); n != 0 || err != api.ErrOverflow {
		t.Errorf("the second half's sum is %d, %d", n, err)
	}
}
