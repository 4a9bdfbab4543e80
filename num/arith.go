package num

import (
	"math"
	"math/bits"

	"almanac/api"
)

// signed makes the function that puts a sign before a size, and refuses a size that is too great for it. The negative integers reach one further than the positive ones.
func signed(negative bool) func(size uint64) (int64, api.Errno) {
	most := uint64(math.MaxInt64)
	if negative {
		most++
	}
	return func(size uint64) (int64, api.Errno) {
		if size > most {
			return 0, api.ErrOverflow
		}
		if negative {
			return int64(-size), api.OK
		}
		return int64(size), api.OK
	}
}

// size is n without its sign: that of the least integer is no int64.
func size(n int64) uint64 {
	if n < 0 {
		return -uint64(n)
	}
	return uint64(n)
}

// Add is a + b, or ErrOverflow: P1.2.
func Add(a, b int64) (int64, api.Errno) {
	c := a + b // wraps round where it overflows, and then falls on the wrong side of a
	if (b > 0) != (c > a) {
		return 0, api.ErrOverflow
	}
	return c, api.OK
}

// Sub is a - b, or ErrOverflow: P1.2.
func Sub(a, b int64) (int64, api.Errno) {
	c := a - b // as in Add
	if (b > 0) != (c < a) {
		return 0, api.ErrOverflow
	}
	return c, api.OK
}

// Mul is a * b, or ErrOverflow: P1.2.
func Mul(a, b int64) (int64, api.Errno) {
	high, low := bits.Mul64(size(a), size(b))
	if high != 0 {
		return 0, api.ErrOverflow
	}
	return signed((a < 0) != (b < 0))(low)
}

// Div is a / b toward zero; ErrArg if b is 0, or ErrOverflow: P1.2.
func Div(a, b int64) (int64, api.Errno) {
	if b == 0 {
		return 0, api.ErrArg
	}
	return signed((a < 0) != (b < 0))(size(a) / size(b))
}

// Mod is what Div leaves of a, with the sign of a; ErrArg if b is 0: P1.2.
func Mod(a, b int64) (int64, api.Errno) {
	if b == 0 {
		return 0, api.ErrArg
	}
	return signed(a < 0)(size(a) % size(b))
}

// Neg is -a, or ErrOverflow: P1.2.
func Neg(a int64) (int64, api.Errno) {
	return signed(a > 0)(size(a))
}

// Sum is the sum of l, or ErrOverflow: P1.2.
func Sum(l []int64) (int64, api.Errno) {
	// Two words, the low one first, hold any sum on the way, so that only the last one counts.
	var sum [2]uint64
	for _, n := range l {
		var carry uint64
		sum[0], carry = bits.Add64(sum[0], uint64(n), 0)
		sum[1], _ = bits.Add64(sum[1], uint64(n>>63), carry)
	}
	low := int64(sum[0])
	if sum[1] != uint64(low>>63) {
		return 0, api.ErrOverflow
	}
	return low, api.OK
}
