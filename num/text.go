package num

import (
	"math"
	"strconv"
	"strings"

	"almanac/api"
)

// The texts of the floats that have no digits.
const (
	nanText   = "nan"
	infText   = "inf"
	minusText = "-inf"
)

// keptDigits is how many digits of a long number are handed to strconv: more than any float has, and more than any middle of two floats has (767), yet fewer than the 800 from which on strconv may misplace the point.
const keptDigits = 780

// Text is the shortest text of f that Parse reads back: P1.3.
func Text(f float64) string {
	switch {
	case math.IsNaN(f):
		return nanText
	case math.IsInf(f, 1):
		return infText
	case math.IsInf(f, -1):
		return minusText
	}
	s := strconv.FormatFloat(f, 'g', -1, 64)
	if !strings.ContainsAny(s, ".e") {
		s += ".0"
	}
	return s
}

// Parse is the float nearest to the number that s tells, or ErrForm: P1.4.
func Parse(s string) (float64, api.Errno) {
	switch s {
	case nanText:
		return math.Float64frombits(nanBits), api.OK
	case infText:
		return math.Inf(1), api.OK
	case minusText:
		return math.Inf(-1), api.OK
	}
	d, ok := readDecimal(s)
	if !ok {
		return 0, api.ErrForm
	}
	return d.nearest(), api.OK
}

// Whole is the integer that s tells, or ErrForm, or ErrOverflow: P1.4.
func Whole(s string) (int64, api.Errno) {
	s, negative := strings.CutPrefix(s, "-")
	run, rest := digits(s)
	if run == "" || rest != "" {
		return 0, api.ErrForm
	}
	n, err := strconv.ParseUint(run, 10, 64)
	if err != nil { // of a run of digits, only that it is too long
		return 0, api.ErrOverflow
	}
	return signed(negative)(n)
}

// decimal is a number as Parse reads it: a sign, digits before and behind the point, and a power of ten.
type decimal struct {
	negative        bool
	whole, fraction string
	power           int
}

// readDecimal takes s apart, if it is in the form of P1.4.
func readDecimal(s string) (decimal, bool) {
	var d decimal
	s, d.negative = strings.CutPrefix(s, "-")
	d.whole, s = digits(s)
	if d.whole == "" || s == "" { // digits alone are an integer, not a float
		return decimal{}, false
	}
	if rest, point := strings.CutPrefix(s, "."); point {
		d.fraction, s = digits(rest)
		if d.fraction == "" {
			return decimal{}, false
		}
	}
	if s == "" {
		return d, true
	}
	power, ok := readPower(s)
	d.power = power
	return d, ok
}

// readPower reads an exponent, with its 'e'.
func readPower(s string) (int, bool) {
	s, ok := strings.CutPrefix(s, "e")
	if !ok {
		return 0, false
	}
	unsigned := s
	if strings.HasPrefix(s, "+") || strings.HasPrefix(s, "-") {
		unsigned = s[1:]
	}
	run, rest := digits(unsigned)
	if run == "" || rest != "" || len(run) > 3 {
		return 0, false
	}
	n, _ := strconv.Atoi(s) // so few digits always fit
	return n, true
}

// digits splits s behind the digits that it begins with.
func digits(s string) (run, rest string) {
	n := 0
	for n < len(s) && '0' <= s[n] && s[n] <= '9' {
		n++
	}
	return s[:n], s[n:]
}

// nearest is the float nearest to d. Of the digits beyond those kept it only matters whether one is not 0, which a last 1 tells as well.
func (d decimal) nearest() float64 {
	run := strings.TrimLeft(d.whole+d.fraction, "0")
	power := d.power - len(d.fraction)
	if len(run) > keptDigits {
		cut := run[keptDigits:]
		run = run[:keptDigits]
		power += len(cut)
		if strings.Trim(cut, "0") != "" {
			run += "1"
			power--
		}
	}
	sign := ""
	if d.negative {
		sign = "-"
	}
	// The error tells only that the number rounds to an infinity, which f is then.
	f, _ := strconv.ParseFloat(sign+"0"+run+"e"+strconv.Itoa(power), 64)
	return f
}
