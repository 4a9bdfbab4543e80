package value

import (
	"math"

	"almanac/api"
	"almanac/num"
)

// Eq tells in three-valued logic whether a and b are equal: P2.3.
func Eq(a, b api.Value) api.Value {
	switch {
	case a.Kind == api.Null || b.Kind == api.Null:
		return api.Value{}
	case number(a) && number(b):
		return Truth(sameNumber(a, b))
	}
	return Truth(Same(a, b)) // which values of two Kinds never are
}

// Less tells in three-valued logic whether a is less than b: P2.3.
func Less(a, b api.Value) api.Value {
	switch {
	case number(a) && number(b):
		ordered := !notANumber(a) && !notANumber(b) && !sameNumber(a, b)
		return Truth(ordered && Compare(a, b) < 0)
	case a.Kind == b.Kind && (a.Kind == api.Str || a.Kind == api.Bool):
		return Truth(Compare(a, b) < 0)
	}
	return api.Value{}
}

// number tells whether v is a number.
func number(v api.Value) bool { return v.Kind == api.Int || v.Kind == api.Float }

// notANumber tells whether v, which is a number by its Kind, is a NaN.
func notANumber(v api.Value) bool { return v.Kind == api.Float && math.IsNaN(v.Float) }

// sameNumber tells whether two numbers are worth the same. Of two Floats == tells this as P2.3 wants it: -0 is 0, and a NaN is nothing's equal.
func sameNumber(a, b api.Value) bool {
	switch {
	case a.Kind == api.Float && b.Kind == api.Float:
		return a.Float == b.Float
	case a.Kind == api.Float:
		return num.Mixed(b.Num, a.Float) == 0
	case b.Kind == api.Float:
		return num.Mixed(a.Num, b.Float) == 0
	}
	return a.Num == b.Num
}
