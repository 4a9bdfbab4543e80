// Package num compares integers and floats exactly, calculates with integers without silent overflow, and turns numbers into decimal text and back. It is layer 1: see shared/doc/01-num.md.
package num

import (
	"cmp"
	"math"
)

// nanBits are the bits of the one NaN that is canonical. math.NaN promises no particular bits.
const nanBits uint64 = 0x7ff8000000000001

// signBit is the bit of a float that tells that it is negative.
const signBit uint64 = 1 << 63

// Canon is f, or the canonical NaN in the place of any NaN: P1.1.
func Canon(f float64) float64 {
	if math.IsNaN(f) {
		return math.Float64frombits(nanBits)
	}
	return f
}

// Canonical tells whether f is no NaN, or the canonical one: P1.1.
func Canonical(f float64) bool {
	return !math.IsNaN(f) || math.Float64bits(f) == nanBits
}

// Floats compares two floats in the order of floats: P1.1.
func Floats(a, b float64) int {
	return cmp.Compare(rank(a), rank(b))
}

// rank is a float's place in the order of floats. The bits of positive floats ascend with the floats, those of negative ones descend, so that -0 comes right ahead of +0.
func rank(f float64) uint64 {
	bits := math.Float64bits(f)
	switch {
	case math.IsNaN(f):
		return math.MaxUint64
	case bits&signBit != 0:
		return ^bits
	default:
		return bits | signBit
	}
}

// Mixed compares an integer with a float by their exact values: P1.1.
func Mixed(n int64, f float64) int {
	const edge = 1 << 63 // the least float beyond all integers
	switch {
	case math.IsNaN(f) || f >= edge:
		return -1
	case f < -edge:
		return 1
	}
	// A float of n could be rounded; the whole part of f can't be, either as an integer or as a float.
	whole := int64(f)
	if n != whole {
		return cmp.Compare(n, whole)
	}
	return cmp.Compare(float64(whole), f)
}
