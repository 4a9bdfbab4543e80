package num

import (
	"math"
	"math/big"
	"math/rand"
	"testing"
)

var negZero = math.Copysign(0, -1)

// nans are NaNs of several bits: quiet, signalling, of either sign; the canonical one is the first.
func nans() []float64 {
	var l []float64
	for _, b := range []uint64{0x7ff8000000000001, 0x7ff8000000000000, 0xfff8000000000001, 0xfff8000000000000, 0x7ff8000000000002, 0x7fffffffffffffff, 0xffffffffffffffff, 0x7ff0000000000001, 0xfff0000000000001} {
		l = append(l, math.Float64frombits(b))
	}
	return l
}

// ascending are floats in the order of floats, without NaNs.
func ascending() []float64 {
	return []float64{
		math.Inf(-1), -math.MaxFloat64, -1e300, -0x1.0000000000001p63, -0x1p63, -0x1.fffffffffffffp62, -0x1p53 - 2, -0x1p53, -2.5, -1.5, -1, -0.5,
		-0x1p-1022, -0x0.fffffffffffffp-1022, -math.SmallestNonzeroFloat64, negZero,
		0, math.SmallestNonzeroFloat64, 0x0.fffffffffffffp-1022, 0x1p-1022, 0.1, 0.5, 1, 0x1.0000000000001p0, 1.5, 2.5,
		0x1p53 - 1, 0x1p53, 0x1p53 + 2, 0x1.fffffffffffffp62, 0x1p63, 0x1.0000000000001p63, 0x1p64, 1e300, math.MaxFloat64, math.Inf(1),
	}
}

func edgeInts() []int64 {
	l := []int64{0, 1, 2, 3, 5, 7, 10, 1 << 31, 1<<31 - 1, 1 << 32, 3037000499, 3037000500, 1<<53 - 1, 1 << 53, 1<<53 + 1, 1<<53 + 2, 1 << 62, 1<<62 - 1, math.MaxInt64 - 1, math.MaxInt64, 1<<63 - 1024, 1<<63 - 512, 1<<63 - 513}
	for _, n := range l[1:] {
		l = append(l, -n)
	}
	return append(l, math.MinInt64, math.MinInt64+1)
}

func sameBits(a, b float64) bool { return math.Float64bits(a) == math.Float64bits(b) }

func sign(n int) int {
	switch {
	case n < 0:
		return -1
	case n > 0:
		return 1
	}
	return 0
}

// P1.1: Canon and Canonical.
func TestCanon(t *testing.T) {
	for _, f := range ascending() {
		if !sameBits(Canon(f), f) {
			t.Errorf("Canon(%v) is %v", f, Canon(f))
		}
		if !Canonical(f) {
			t.Errorf("%v is not canonical", f)
		}
	}
	for i, f := range nans() {
		if b := math.Float64bits(Canon(f)); b != 0x7ff8000000000001 {
			t.Errorf("Canon of NaN %x has the bits %x", math.Float64bits(f), b)
		}
		if Canonical(f) != (i == 0) {
			t.Errorf("Canonical of NaN %x is %v", math.Float64bits(f), Canonical(f))
		}
	}
}

// P1.1: Floats.
func TestFloats(t *testing.T) {
	l := ascending()
	for i, a := range l {
		for j, b := range l {
			if got := Floats(a, b); got != sign(i-j) {
				t.Errorf("Floats(%v, %v) is %d", a, b, got)
			}
		}
		for _, n := range nans() {
			if Floats(a, n) != -1 || Floats(n, a) != 1 {
				t.Errorf("%v and NaN %x: %d, %d", a, math.Float64bits(n), Floats(a, n), Floats(n, a))
			}
		}
	}
	for _, a := range nans() {
		for _, b := range nans() {
			if Floats(a, b) != 0 {
				t.Errorf("NaNs %x and %x: %d", math.Float64bits(a), math.Float64bits(b), Floats(a, b))
			}
		}
	}
}

// exactly compares n with f, which is no NaN, by numbers without bounds.
func exactly(n int64, f float64) int {
	return new(big.Float).SetPrec(64).SetInt64(n).Cmp(new(big.Float).SetFloat64(f))
}

// P1.1: Mixed, by the document's examples and where a conversion of n would round.
func TestMixed(t *testing.T) {
	for _, x := range []struct {
		n    int64
		f    float64
		want int
	}{
		{1<<53 + 1, 1 << 53, 1}, {1<<53 + 1, 1<<53 + 2, -1}, {-1<<53 - 1, -1 << 53, -1}, {1 << 53, 1 << 53, 0},
		{0, 0, 0}, {0, negZero, 0}, {0, math.SmallestNonzeroFloat64, -1}, {0, -math.SmallestNonzeroFloat64, 1},
		{-1, negZero, -1}, {1, negZero, 1}, {3, 3.5, -1}, {4, 3.5, 1}, {-3, -3.5, 1}, {-4, -3.5, -1}, {0, 0.5, -1}, {0, -0.5, 1},
		{math.MaxInt64, 1 << 63, -1}, {math.MaxInt64, 1<<63 - 1024, 1}, {1<<63 - 1024, 1<<63 - 1024, 0},
		{math.MinInt64, -1 << 63, 0}, {math.MinInt64 + 1, -1 << 63, 1}, {math.MinInt64, -1<<63 - 2048, 1}, {math.MinInt64, -1<<63 + 1024, -1},
		{math.MaxInt64, math.Inf(1), -1}, {math.MinInt64, math.Inf(-1), 1}, {math.MaxInt64, 1e300, -1}, {math.MinInt64, -1e300, 1},
	} {
		if got := Mixed(x.n, x.f); got != x.want {
			t.Errorf("Mixed(%d, %v) is %d", x.n, x.f, got)
		}
	}
	for _, n := range edgeInts() {
		for _, f := range nans() {
			if Mixed(n, f) != -1 {
				t.Errorf("Mixed(%d, NaN) is %d", n, Mixed(n, f))
			}
		}
	}
}

// P1.1: Mixed against exact comparison.
func TestMixedIsExact(t *testing.T) {
	floats := ascending()
	r := rand.New(rand.NewSource(1))
	ints := edgeInts()
	for range 300 {
		ints = append(ints, int64(r.Uint64())>>r.Intn(64))
	}
	for _, n := range ints {
		near := float64(n)
		for _, f := range append([]float64{near, math.Nextafter(near, 1e300), math.Nextafter(near, -1e300), near + 0.5, near - 0.5}, floats...) {
			if got, want := Mixed(n, f), exactly(n, f); got != want {
				t.Errorf("Mixed(%d, %v) is %d, not %d", n, f, got, want)
			}
		}
	}
}

// P1.5: Floats is a total order on the canonical floats, in which only floats of the same bits are equal.
func TestFloatsIsTotal(t *testing.T) {
	l := append(ascending(), nans()[0])
	r := rand.New(rand.NewSource(2))
	for range 60 {
		l = append(l, Canon(math.Float64frombits(r.Uint64())))
	}
	for _, a := range l {
		for _, b := range l {
			if Floats(a, b) != -Floats(b, a) {
				t.Errorf("%v and %v: %d and %d", a, b, Floats(a, b), Floats(b, a))
			}
			if (Floats(a, b) == 0) != sameBits(a, b) {
				t.Errorf("%v and %v are equal: %v", a, b, Floats(a, b))
			}
			for _, c := range l {
				if Floats(a, b) <= 0 && Floats(b, c) <= 0 && Floats(a, c) > 0 {
					t.Errorf("%v, %v, %v", a, b, c)
				}
			}
		}
	}
}

// P1.5: Mixed is consistent with Floats and with the order of integers.
func TestMixedIsConsistent(t *testing.T) {
	floats := append(ascending(), nans()...)
	for _, n := range edgeInts() {
		for _, f := range floats {
			for _, m := range edgeInts() {
				if n < m && Mixed(n, f) == 1 && Mixed(m, f) != 1 {
					t.Errorf("%d < %d, but they are %d and %d to %v", n, m, Mixed(n, f), Mixed(m, f), f)
				}
				if n > m && Mixed(n, f) == -1 && Mixed(m, f) != -1 {
					t.Errorf("%d > %d, but they are %d and %d to %v", n, m, Mixed(n, f), Mixed(m, f), f)
				}
			}
			for _, g := range floats {
				if Floats(f, g) <= 0 && Mixed(n, f) == -1 && Mixed(n, g) != -1 {
					t.Errorf("%v <= %v, but %d is %d and %d to them", f, g, n, Mixed(n, f), Mixed(n, g))
				}
			}
			if x := float64(n); exactly(n, x) == 0 && f != 0 && Mixed(n, f) != Floats(x, f) {
				t.Errorf("%d and %v: %d, but %d as floats", n, f, Mixed(n, f), Floats(x, f))
			}
		}
	}
}
