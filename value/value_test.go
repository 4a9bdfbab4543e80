package value

import (
	"math"
	"math/rand"
	"strings"
	"testing"

	"almanac/api"
)

var negZero = math.Copysign(0, -1)

var canonicalNaN = math.Float64frombits(0x7ff8000000000001)

func node(n int64) api.Value { return api.Value{Kind: api.Node, Num: n} }

func edge(n int64) api.Value { return api.Value{Kind: api.Edge, Num: n} }

// ascending are valid values in the order, each of them once: the neighbours of all edges.
func ascending() []api.Value {
	return []api.Value{
		{}, Truth(false), Truth(true),
		Point(math.Inf(-1)), Point(-math.MaxFloat64), Point(-0x1.0000000000001p63), Number(math.MinInt64), Point(-0x1p63), Number(math.MinInt64 + 1), Point(-0x1.fffffffffffffp62),
		Number(-1<<53 - 1), Number(-1 << 53), Point(-0x1p53), Number(-1<<53 + 1), Point(-0x1p53 + 1), Number(-2), Point(-2), Point(-1.5), Number(-1), Point(-1), Point(-0.5), Point(-math.SmallestNonzeroFloat64),
		Number(0), Point(negZero), Point(0), Point(math.SmallestNonzeroFloat64), Point(0.1), Point(0.5), Number(1), Point(1), Point(1.5), Number(2), Point(2), Number(9), Number(10),
		Number(1<<53 - 1), Point(0x1p53 - 1), Number(1 << 53), Point(0x1p53), Number(1<<53 + 1), Number(1<<53 + 2), Point(0x1p53 + 2),
		Point(0x1.fffffffffffffp62), Number(math.MaxInt64 - 1), Number(math.MaxInt64), Point(0x1p63), Point(1e300), Point(math.MaxFloat64), Point(math.Inf(1)), Point(canonicalNaN),
		Word(""), Word("\x00"), Word("\x00\x00"), Word("\x01"), Word(" "), Word("\""), Word("10"), Word("9"), Word("A"), Word("\\"), Word("a"), Word("a\x00"), Word("aa"), Word("ab"), Word("b"),
		Word(strings.Repeat("b", 31)), Word(strings.Repeat("b", 32)), Word("~"), Word("\x7f"), Word("\x80"), Word("\u00e9"), Word("\xff"), Word(strings.Repeat("\xff", 32)),
		node(1), node(2), node(9), node(10), node(1<<32 + 1), node(1<<40 - 1), node(1 << 40),
		edge(1), edge(2), edge(9), edge(10), edge(1<<32 + 1), edge(1<<40 - 1), edge(1 << 40),
	}
}

// someValue is a valid value of any Kind. Many of them are near each other, and many are the same number in both Kinds.
func someValue(r *rand.Rand) api.Value {
	switch r.Intn(10) {
	case 0:
		return api.Value{}
	case 1:
		return Truth(r.Intn(2) == 0)
	case 2:
		return Number(int64(r.Uint64()) >> r.Intn(64))
	case 3:
		return Point(float64(int64(r.Uint64()) >> r.Intn(64)))
	case 4:
		return Point(math.Float64frombits(r.Uint64()))
	case 5:
		return Point(float64(r.Intn(41)-20) / 4)
	case 6:
		b := make([]byte, r.Intn(api.MaxStr+1))
		r.Read(b)
		return Word(string(b))
	case 7:
		b := make([]byte, r.Intn(4))
		for i := range b {
			b[i] = "ab\"\\\n"[r.Intn(5)]
		}
		return Word(string(b))
	case 8:
		return node(1 + r.Int63n(1<<r.Intn(41)))
	}
	return edge(1 + r.Int63n(1<<r.Intn(41)))
}

// manyValues are valid values: all the edges, and n others.
func manyValues(n int) []api.Value {
	l := ascending()
	r := rand.New(rand.NewSource(11))
	for range n {
		l = append(l, someValue(r))
	}
	return l
}

// equal tells whether two values have the same fields, floats bit by bit.
func equal(a, b api.Value) bool {
	x, y := math.Float64bits(a.Float), math.Float64bits(b.Float)
	return a.Kind == b.Kind && a.Bool == b.Bool && a.Num == b.Num && a.Str == b.Str && x == y
}

// invalid are values that are not valid, by what is wrong with them.
func invalid() []api.Value {
	l := []api.Value{
		{Kind: -1}, {Kind: 7}, {Kind: 100}, {Kind: math.MaxInt}, {Kind: math.MinInt}, {Kind: 1 << 32}, {Kind: -1 << 32},
		{Kind: -1, Bool: true, Num: 3, Float: 1, Str: "a"}, {Kind: 7, Num: 1},
		{Kind: api.Null, Bool: true}, {Kind: api.Null, Num: 1}, {Kind: api.Null, Float: 1}, {Kind: api.Null, Str: "a"},
		{Kind: api.Bool, Num: 1}, {Kind: api.Bool, Float: 1}, {Kind: api.Bool, Bool: true, Str: "a"},
		{Kind: api.Int, Bool: true}, {Kind: api.Int, Num: 1, Float: 1}, {Kind: api.Int, Num: 1, Str: "1"},
		{Kind: api.Float, Bool: true}, {Kind: api.Float, Num: 1, Float: 1}, {Kind: api.Float, Float: 1, Str: "a"},
		{Kind: api.Str, Bool: true, Str: "a"}, {Kind: api.Str, Num: 1}, {Kind: api.Str, Float: 1, Str: "a"},
		{Kind: api.Str, Str: strings.Repeat("a", 33)}, {Kind: api.Str, Str: strings.Repeat("\u00e9", 17)}, {Kind: api.Str, Str: strings.Repeat("\x00", 5000)},
		{Kind: api.Node}, {Kind: api.Edge}, {Kind: api.Node, Num: -1}, {Kind: api.Edge, Num: -1}, {Kind: api.Node, Num: math.MinInt64}, {Kind: api.Edge, Num: math.MinInt64},
		{Kind: api.Node, Num: 1<<40 + 1}, {Kind: api.Edge, Num: 1<<40 + 1}, {Kind: api.Node, Num: math.MaxInt64}, {Kind: api.Edge, Num: math.MaxInt64},
		{Kind: api.Node, Num: 1, Bool: true}, {Kind: api.Edge, Num: 1, Bool: true}, {Kind: api.Node, Num: 1, Float: 1}, {Kind: api.Edge, Num: 1, Float: 1}, {Kind: api.Node, Num: 1, Str: "a"}, {Kind: api.Edge, Num: 1, Str: "a"},
	}
	for _, bits := range []uint64{0x7ff8000000000000, 0xfff8000000000001, 0x7ff8000000000002, 0x7ff0000000000001, 0xffffffffffffffff} {
		l = append(l, api.Value{Kind: api.Float, Float: math.Float64frombits(bits)})
	}
	for _, f := range []float64{negZero, math.SmallestNonzeroFloat64, canonicalNaN} {
		l = append(l, api.Value{Float: f}, api.Value{Kind: api.Int, Num: 1, Float: f}, api.Value{Kind: api.Bool, Float: f}, api.Value{Kind: api.Str, Str: "a", Float: f}, api.Value{Kind: api.Node, Num: 1, Float: f}, api.Value{Kind: api.Edge, Num: 1, Float: f})
	}
	return l
}

// P2.1: the four makers.
func TestMakers(t *testing.T) {
	for _, n := range []int64{0, 1, -1, 7, math.MaxInt64, math.MinInt64} {
		if got := Number(n); !equal(got, api.Value{Kind: api.Int, Num: n}) {
			t.Errorf("Number(%d) is %v", n, got)
		}
	}
	for _, s := range []string{"", "a", "a b", "\x00\xff", strings.Repeat("a", 32), strings.Repeat("a", 33)} {
		if got := Word(s); !equal(got, api.Value{Kind: api.Str, Str: s}) {
			t.Errorf("Word(%q) is %v", s, got)
		}
	}
	for _, b := range []bool{false, true} {
		if got := Truth(b); !equal(got, api.Value{Kind: api.Bool, Bool: b}) {
			t.Errorf("Truth(%v) is %v", b, got)
		}
	}
	for _, f := range []float64{0, negZero, 1, -2.5, 1e300, math.Inf(1), math.Inf(-1), math.SmallestNonzeroFloat64} {
		if got := Point(f); !equal(got, api.Value{Kind: api.Float, Float: f}) {
			t.Errorf("Point(%v) is %v", f, got)
		}
	}
	for _, bits := range []uint64{0x7ff8000000000001, 0x7ff8000000000000, 0xfff8000000000001, 0x7ff0000000000001, 0xffffffffffffffff} {
		if got := Point(math.Float64frombits(bits)); !equal(got, api.Value{Kind: api.Float, Float: canonicalNaN}) {
			t.Errorf("Point of NaN %x is %v, %x", bits, got, math.Float64bits(got.Float))
		}
	}
}

// P2.1: May, with the limits themselves and what is just beyond them.
func TestMay(t *testing.T) {
	for _, v := range manyValues(2000) {
		if !May(v) {
			t.Errorf("%#v is valid", v)
		}
	}
	for _, v := range invalid() {
		if May(v) {
			t.Errorf("%#v is not valid", v)
		}
	}
}

// P2.1: a field that a Kind does not use makes any valid value of that Kind invalid.
func TestMayOneFieldMore(t *testing.T) {
	for _, v := range manyValues(500) {
		for name, change := range map[string]func(x *api.Value) bool{
			"Bool": func(x *api.Value) bool { x.Bool = true; return x.Kind != api.Bool },
			"Num": func(x *api.Value) bool {
				x.Num = 5
				return x.Kind < api.Int || x.Kind == api.Float || x.Kind == api.Str
			},
			"Float": func(x *api.Value) bool { x.Float = 5; return x.Kind != api.Float },
			"Str":   func(x *api.Value) bool { x.Str = "5"; return x.Kind != api.Str },
		} {
			x := v
			if unused := change(&x); May(x) == unused {
				t.Errorf("%#v, with its %s changed, is valid: %v", v, name, May(x))
			}
		}
	}
}

// R1: what is not valid makes no call panic.
func TestInvalidValues(t *testing.T) {
	all := append(invalid(), ascending()...)
	for _, a := range invalid() {
		for _, b := range all {
			for _, p := range [][2]api.Value{{a, b}, {b, a}} {
				if n := Compare(p[0], p[1]); n < -1 || n > 1 || Same(p[0], p[1]) != (n == 0) {
					t.Errorf("Compare(%#v, %#v) is %d", p[0], p[1], n)
				}
				Eq(p[0], p[1])
				Less(p[0], p[1])
			}
		}
	}
}
