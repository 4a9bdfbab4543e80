package value

import (
	"math"
	"testing"

	"almanac/api"
)

var null, yes, no = api.Value{}, api.Value{Kind: api.Bool, Bool: true}, api.Value{Kind: api.Bool}

func isNaN(v api.Value) bool { return v.Kind == api.Float && math.IsNaN(v.Float) }

func isNumber(v api.Value) bool { return v.Kind == api.Int || v.Kind == api.Float }

// P2.3: the document's examples, and each kind of pair.
func TestTruthsOfPairs(t *testing.T) {
	nan := Point(math.NaN())
	for _, x := range []struct{ a, b, eq, less api.Value }{
		{null, null, null, null}, {null, Number(1), null, null}, {Number(1), null, null, null}, {null, nan, null, null}, {null, Word(""), null, null}, {null, no, null, null}, {no, null, null, null}, {null, node(1), null, null}, {edge(1), null, null, null},
		{Number(1), Number(1), yes, no}, {Number(1), Number(2), no, yes}, {Number(2), Number(1), no, no}, {Number(math.MinInt64), Number(math.MaxInt64), no, yes},
		{Number(1), Point(1), yes, no}, {Point(1), Number(1), yes, no}, {Number(1), Point(1.5), no, yes}, {Point(1.5), Number(1), no, no}, {Point(0.5), Number(1), no, yes},
		{Point(1), Point(1), yes, no}, {Point(1), Point(1.5), no, yes}, {Point(1.5), Point(1), no, no}, {Point(-1), Point(-2), no, no},
		{Point(negZero), Point(0), yes, no}, {Point(0), Point(negZero), yes, no}, {Point(negZero), Point(negZero), yes, no}, {Number(0), Point(negZero), yes, no}, {Point(negZero), Number(0), yes, no}, {Point(0), Number(0), yes, no},
		{Point(negZero), Point(math.SmallestNonzeroFloat64), no, yes}, {Point(-math.SmallestNonzeroFloat64), Point(negZero), no, yes}, {Point(-math.SmallestNonzeroFloat64), Number(0), no, yes},
		{nan, nan, no, no}, {nan, Number(1), no, no}, {Number(1), nan, no, no}, {nan, Point(math.Inf(1)), no, no}, {Point(math.Inf(1)), nan, no, no}, {Point(math.Inf(-1)), nan, no, no}, {nan, Word("nan"), no, null},
		{Point(math.Inf(1)), Point(math.Inf(1)), yes, no}, {Point(math.Inf(-1)), Point(math.Inf(1)), no, yes}, {Number(math.MaxInt64), Point(math.Inf(1)), no, yes}, {Point(math.Inf(-1)), Number(math.MinInt64), no, yes},
		{Number(1<<53 + 1), Point(1 << 53), no, no}, {Point(1 << 53), Number(1<<53 + 1), no, yes}, {Number(1 << 53), Point(1 << 53), yes, no}, {Number(math.MaxInt64), Point(1 << 63), no, yes}, {Number(math.MinInt64), Point(-1 << 63), yes, no},
		{Word("a"), Word("a"), yes, no}, {Word("a"), Word("b"), no, yes}, {Word("b"), Word("a"), no, no}, {Word(""), Word("a"), no, yes}, {Word("10"), Word("9"), no, yes}, {Word("a"), Word("\xff"), no, yes}, {Word("A"), Word("a"), no, yes},
		{no, no, yes, no}, {yes, yes, yes, no}, {no, yes, no, yes}, {yes, no, no, no},
		{node(1), node(1), yes, null}, {node(1), node(2), no, null}, {edge(1), edge(1), yes, null}, {edge(2), edge(1), no, null}, {node(1), edge(1), no, null}, {edge(1), node(1), no, null},
		{Number(1), Word("1"), no, null}, {Word("1"), Number(1), no, null}, {Word("a"), Number(1), no, null}, {Number(1), yes, no, null}, {no, Number(0), no, null}, {Word("true"), yes, no, null}, {Number(1), node(1), no, null}, {node(1), Point(1), no, null}, {Word("1"), Point(1), no, null}, {edge(1), Word("[1]"), no, null},
	} {
		if eq, less := Eq(x.a, x.b), Less(x.a, x.b); !equal(eq, x.eq) || !equal(less, x.less) {
			t.Errorf("%v and %v: Eq %v, Less %v", x.a, x.b, eq, less)
		}
	}
}

// wantTruths is what Eq and Less should tell, by exact arithmetic.
func wantTruths(a, b api.Value) (eq, less api.Value) {
	switch {
	case a.Kind == api.Null || b.Kind == api.Null:
		return null, null
	case isNumber(a) && isNumber(b):
		if isNaN(a) || isNaN(b) {
			return no, no
		}
		return Truth(worth(a, b) == 0), Truth(worth(a, b) < 0)
	case a.Kind != b.Kind:
		return no, null
	case a.Kind == api.Str || a.Kind == api.Bool:
		return Truth(equal(a, b)), Truth(a.Str < b.Str || !a.Bool && b.Bool)
	}
	return Truth(a.Num == b.Num), null
}

// P2.3: Eq and Less on many pairs.
func TestTruthsOfMany(t *testing.T) {
	l := manyValues(700)
	for _, a := range l {
		for _, b := range l {
			eq, less := wantTruths(a, b)
			if e, s := Eq(a, b), Less(a, b); !equal(e, eq) || !equal(s, less) {
				t.Errorf("%v and %v: Eq %v, Less %v", a, b, e, s)
			}
		}
	}
}

// P2.6: how Eq, Less, Compare and Same hang together.
func TestTruthsHangTogether(t *testing.T) {
	l := manyValues(700)
	for _, a := range l {
		for _, b := range l {
			eq, less, more := Eq(a, b), Less(a, b), Less(b, a)
			trues := 0
			for _, v := range []api.Value{eq, less, more} {
				if v == yes {
					trues++
				}
			}
			if isNumber(a) && isNumber(b) && !isNaN(a) && !isNaN(b) && trues != 1 {
				t.Errorf("%v and %v: less %v, equal %v, more %v", a, b, less, eq, more)
			}
			if less == yes && Compare(a, b) != -1 {
				t.Errorf("%v is less than %v, and Compare is %d", a, b, Compare(a, b))
			}
			if Same(a, b) && a.Kind != api.Null && !isNaN(a) && eq != yes {
				t.Errorf("%v and %v are the same, and Eq is %v", a, b, eq)
			}
		}
	}
}
