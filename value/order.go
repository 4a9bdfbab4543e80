package value

import (
	"cmp"
	"strings"

	"almanac/api"
	"almanac/num"
)

// Compare tells whether a comes ahead of b (-1), is b (0), or comes behind it (1) in the order of values: P2.2.
func Compare(a, b api.Value) int {
	if n := cmp.Compare(class(a.Kind), class(b.Kind)); n != 0 || !known(a.Kind) {
		return n
	}
	return comparisons()[a.Kind](a, b)
}

// Same tells whether a and b are at one place of the order: P2.2.
func Same(a, b api.Value) bool { return Compare(a, b) == 0 }

// known tells whether kind is one of the seven kinds.
func known(kind int) bool { return api.Null <= kind && kind <= api.Edge }

// class is the place of kind among the kinds. Their numbers ascend as their values do, but Ints and Floats are mingled.
func class(kind int) int {
	if kind == api.Float {
		return api.Int
	}
	return kind
}

// comparisons makes the table of the comparisons: that at a Kind compares a value of this Kind with one of the same class.
func comparisons() [api.Edge + 1]func(a, b api.Value) int {
	return [...]func(a, b api.Value) int{
		api.Null:  func(a, b api.Value) int { return 0 },
		api.Bool:  bools,
		api.Int:   intAndNumber,
		api.Float: floatAndNumber,
		api.Str:   func(a, b api.Value) int { return strings.Compare(a.Str, b.Str) },
		api.Node:  nums,
		api.Edge:  nums,
	}
}

// bools compares two Bools: false comes first.
func bools(a, b api.Value) int {
	switch {
	case a.Bool == b.Bool:
		return 0
	case b.Bool:
		return -1
	}
	return 1
}

// nums compares two values that have nothing but a Num.
func nums(a, b api.Value) int { return cmp.Compare(a.Num, b.Num) }

// intAndNumber compares an Int with a number.
func intAndNumber(a, b api.Value) int {
	if b.Kind == api.Float {
		return intAndFloat(a, b)
	}
	return nums(a, b)
}

// floatAndNumber compares a Float with a number.
func floatAndNumber(a, b api.Value) int {
	if b.Kind == api.Int {
		return -intAndFloat(b, a)
	}
	return num.Floats(a.Float, b.Float)
}

// intAndFloat compares an Int with a Float, which is never at the same place: of one number, the Int comes first.
func intAndFloat(n, f api.Value) int {
	if num.Mixed(n.Num, f.Float) > 0 {
		return 1
	}
	return -1
}
