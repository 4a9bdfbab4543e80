package num

import (
	"math"
	"math/big"
	"math/rand"
	"strconv"
	"strings"
	"testing"

	"almanac/api"
)

// manyFloats are floats of all sizes, without NaNs.
func manyFloats() []float64 {
	l := ascending()
	r := rand.New(rand.NewSource(5))
	for range 5000 {
		if f := math.Float64frombits(r.Uint64()); f == f {
			l = append(l, f)
		}
		l = append(l, float64(int64(r.Uint64())>>r.Intn(64)), r.NormFloat64(), float64(r.Intn(100000))/1000)
	}
	return l
}

// P1.3: Text.
func TestText(t *testing.T) {
	for _, x := range []struct {
		f    float64
		want string
	}{
		{0, "0.0"}, {negZero, "-0.0"}, {1, "1.0"}, {-1, "-1.0"}, {0.1, "0.1"}, {-2.5, "-2.5"}, {100000, "100000.0"}, {999999, "999999.0"}, {1000000, "1e+06"}, {123456789, "1.23456789e+08"},
		{1e21, "1e+21"}, {-1e21, "-1e+21"}, {1.5e21, "1.5e+21"}, {0.0001, "0.0001"}, {0.00001, "1e-05"}, {1e100, "1e+100"},
		{math.MaxFloat64, "1.7976931348623157e+308"}, {math.SmallestNonzeroFloat64, "5e-324"}, {1.0 / 3, "0.3333333333333333"}, {0x1p53, "9.007199254740992e+15"},
		{math.Inf(1), "inf"}, {math.Inf(-1), "-inf"},
	} {
		if got := Text(x.f); got != x.want {
			t.Errorf("Text of %x is %q, not %q", math.Float64bits(x.f), got, x.want)
		}
	}
	for _, f := range nans() {
		if Text(f) != "nan" {
			t.Errorf("Text of NaN %x is %q", math.Float64bits(f), Text(f))
		}
	}
}

// P1.3: Text is strconv's shortest text, with ".0" where it would read as an integer.
func TestTextIsShortest(t *testing.T) {
	for _, f := range manyFloats() {
		if math.IsInf(f, 0) {
			continue
		}
		want := strconv.FormatFloat(f, 'g', -1, 64)
		if strings.IndexByte(want, '.') < 0 && strings.IndexByte(want, 'e') < 0 {
			want += ".0"
		}
		if Text(f) != want {
			t.Errorf("%q, not %q", Text(f), want)
		}
	}
}

// P1.4: what Parse accepts, and what it makes of it.
func TestParse(t *testing.T) {
	for _, x := range []struct {
		s    string
		want float64
	}{
		{"nan", nans()[0]}, {"inf", math.Inf(1)}, {"-inf", math.Inf(-1)},
		{"0.0", 0}, {"-0.0", negZero}, {"0e0", 0}, {"-0e5", negZero}, {"-0.000e-999", negZero}, {"1.5", 1.5}, {"-1.5", -1.5}, {"007.25", 7.25}, {"000.0", 0}, {"3.000", 3},
		{"1e5", 100000}, {"1e+5", 100000}, {"1e-5", 0.00001}, {"-1e5", -100000}, {"1e05", 100000}, {"1e005", 100000}, {"1e+005", 100000}, {"1e-005", 0.00001}, {"1e000", 1},
		{"12.5e3", 12500}, {"12.5e-3", 0.0125}, {"12.5e+003", 12500}, {"1e22", 1e22}, {"1e23", 1e23},
		{"1e308", 1e308}, {"1e309", math.Inf(1)}, {"-1e309", math.Inf(-1)}, {"1e999", math.Inf(1)}, {"-1e999", math.Inf(-1)}, {"0e999", 0}, {"1e-999", 0}, {"-1e-999", negZero},
		{"5e-324", math.SmallestNonzeroFloat64}, {"3e-324", math.SmallestNonzeroFloat64}, {"2e-324", 0}, {"-2e-324", negZero},
		{"9007199254740993.0", 9007199254740992}, {"9007199254740995.0", 9007199254740996}, {"9007199254740993.00000000000000000001", 9007199254740994},
		{"1.7976931348623157e308", math.MaxFloat64}, {"1.7976931348623158e308", math.MaxFloat64}, {"1.7976931348623159e308", math.Inf(1)},
	} {
		if got, err := Parse(x.s); !sameBits(got, x.want) || err != api.OK {
			t.Errorf("Parse(%q) is %v (%x), %d", x.s, got, math.Float64bits(got), err)
		}
	}
}

// P1.4: what Parse does not accept.
func TestParseRejects(t *testing.T) {
	for _, s := range []string{
		"", "-", "1", "-1", "0", "123", "1.", "-1.", ".5", "-.5", ".", "e5", "-e5", ".e5", "1.e5", "1.5.5", "1..5", "--1.5", "+1.5", "1.5-", "1.5+",
		"1e", "1e+", "1e-", "1.5e", "1.5e+", "1.5e-", "1e1000", "1e0005", "1e+1000", "1e-1000", "1e-0005", "1e++5", "1e+-5", "1e5.0", "1e5e5", "1E5", "1.5E5", "1e 5",
		" 1.5", "1.5 ", "1 .5", "- 1.5", "1.5\n", "1_000.5", "1.0_0", "1e1_0", "0x1p5", "0x1.8p1", "1.5f", "a1.5", "1.5a", "1a.5", "1,5", "1.5e5a",
		"NaN", "NAN", "Nan", "nan ", "-nan", "+nan", "nann", "na", "Inf", "INF", "+inf", "--inf", "infinity", "Infinity", "-Inf", "in", "infi", "-infinity",
		"\u0661.5", "1.\u0665", "1\u066b5", "\xff", "1.5\xff", "1.5\x00", "\x001.5", "/.5", ":.5", "1./", "1.:", "1e/", "1e:",
	} {
		if got, err := Parse(s); !sameBits(got, 0) || err != api.ErrForm {
			t.Errorf("Parse(%q) is %v, %d", s, got, err)
		}
	}
}

// inForm tells, by a table of steps, whether s is a decimal number as P1.4 describes it.
func inForm(s string) bool {
	state := 0 // 0 start, 1 sign, 2 whole, 3 point, 4 fraction, 5 e, 6 sign of the exponent, 7 to 9 its digits
	for i := 0; i < len(s); i++ {
		c := s[i]
		digit := c >= '0' && c <= '9'
		switch {
		case digit && state <= 2:
			state = 2
		case digit && state <= 4:
			state = 4
		case digit && state <= 6:
			state = 7
		case digit && state < 9:
			state++
		case c == '-' && state == 0:
			state = 1
		case c == '.' && state == 2:
			state = 3
		case c == 'e' && (state == 2 || state == 4):
			state = 5
		case (c == '+' || c == '-') && state == 5:
			state = 6
		default:
			return false
		}
	}
	return state == 4 || state >= 7
}

// P1.4: the form, on every short text of the letters that matter.
func TestParseForm(t *testing.T) {
	texts := []string{""}
	for range 6 {
		var longer []string
		for _, s := range texts {
			for _, c := range "01.e-+" {
				longer = append(longer, s+string(c))
			}
		}
		texts = longer
		for _, s := range append(longer, "1"+longer[0]) {
			if _, err := Parse(s); (err == api.OK) != inForm(s) || err != api.OK && err != api.ErrForm {
				t.Errorf("Parse(%q): %d", s, err)
			}
		}
	}
}

// nearestTo is the float nearest to the number s, by fractions without bounds.
func nearestTo(t *testing.T, s string) float64 {
	r, ok := new(big.Rat).SetString(s)
	if !ok {
		t.Fatalf("%q is no number", s)
	}
	f, _ := r.Float64()
	if f == 0 && s[0] == '-' {
		return negZero
	}
	return f
}

// P1.4: the nearest float, of numbers of many digits and of all exponents.
func TestParseIsNearest(t *testing.T) {
	r := rand.New(rand.NewSource(6))
	run := func(most int) string {
		b := make([]byte, 1+r.Intn(most))
		for i := range b {
			b[i] = byte('0' + r.Intn(10))
		}
		return string(b)
	}
	for range 5000 {
		s := run(25)
		if r.Intn(2) == 0 {
			s = "-" + s
		}
		kind := r.Intn(3)
		if kind != 0 {
			s += "." + run(25)
		}
		if kind != 1 {
			s += "e" + strconv.Itoa(r.Intn(720)-360)
		}
		if got, err := Parse(s); !sameBits(got, nearestTo(t, s)) || err != api.OK {
			t.Errorf("Parse(%q) is %v, %d", s, got, err)
		}
	}
}

// P1.4: the middle of two floats goes to the even one, and what is a little off it to its own side.
func TestParseTies(t *testing.T) {
	for _, f := range manyFloats()[:2000] {
		f = math.Abs(f)
		if f > 1e308 {
			continue
		}
		middle := new(big.Rat).Add(new(big.Rat).SetFloat64(f), new(big.Rat).SetFloat64(math.Nextafter(f, math.Inf(1))))
		middle.Quo(middle, big.NewRat(2, 1))
		even := f
		if math.Float64bits(f)%2 == 1 {
			even = math.Nextafter(f, math.Inf(1))
		}
		s := middle.FloatString(1100)
		for _, x := range []struct {
			s    string
			want float64
		}{{s, even}, {"-" + s, -even}, {s + "1", math.Nextafter(f, math.Inf(1))}, {s + strings.Repeat("0", 1000), even}, {s + strings.Repeat("0", 1000) + "1e0", math.Nextafter(f, math.Inf(1))}} {
			if got, err := Parse(x.s); !sameBits(got, x.want) || err != api.OK {
				t.Errorf("Parse of %d bytes by the middle above %v: %v, %d", len(x.s), f, got, err)
			}
		}
	}
}

// P1.4: numbers of very many digits, before and behind the point.
func TestParseLong(t *testing.T) {
	zeros := func(n int) string { return strings.Repeat("0", n) }
	for _, x := range []struct {
		s    string
		want float64
	}{
		{"9007199254740993" + zeros(884) + "e-884", 9007199254740992},
		{"9007199254740993" + zeros(883) + "1e-884", 9007199254740994},
		{"-9007199254740993" + zeros(883) + "1e-884", -9007199254740994},
		{"9007199254740993" + zeros(900) + ".1e-900", 9007199254740994},
		{"9007199254740993" + zeros(900) + ".0e-900", 9007199254740992},
		{"9007199254740993." + zeros(3000) + "1", 9007199254740994},
		{zeros(3000) + "9007199254740993." + zeros(3000) + "1", 9007199254740994},
		{"0." + zeros(990) + "9007199254740993" + zeros(900) + "1e999", 900719925.4740993},
		{"0." + zeros(1000) + "1e999", 0.01}, {"1" + zeros(1000) + "e-999", 10}, {"1" + zeros(2000) + ".0", math.Inf(1)}, {"0." + zeros(20000) + "1e999", 0}, {"-0." + zeros(20000) + "1e999", negZero},
		{zeros(2000) + ".0", 0}, {"-" + zeros(2000) + "." + zeros(2000) + "e-999", negZero}, {strings.Repeat("9", 20000) + "e-999", math.Inf(1)}, {"1" + zeros(20000) + "e999", math.Inf(1)},
		{"17976931348623158079372897140530341507993413271003782693617377898044496829276475094664901797758720709633028641669288791094655554785194040263065748867150582068190890200070838367627385484581771153176447573027006985557136695962284291481986083493647529271907416844436551070434271155969950809304288" + zeros(600) + "1e-584", math.Inf(1)},
	} {
		if got, err := Parse(x.s); !sameBits(got, x.want) || err != api.OK {
			t.Errorf("Parse of %d bytes, %.20q..%q: %v, %d", len(x.s), x.s, x.s[len(x.s)-5:], got, err)
		}
	}
	for _, s := range []string{zeros(2000), "-" + zeros(2000), zeros(2000) + ".", zeros(2000) + "e", zeros(2000) + ".0e1000", zeros(2000) + ".0x"} {
		if got, err := Parse(s); got != 0 || err != api.ErrForm {
			t.Errorf("Parse of %d bytes: %v, %d", len(s), got, err)
		}
	}
}

// P1.4: long numbers against fractions without bounds.
func TestParseLongIsNearest(t *testing.T) {
	r := rand.New(rand.NewSource(7))
	for range 300 {
		f := math.Abs(math.Float64frombits(r.Uint64()))
		if !(f < 1e300 && f > 1e-300) {
			continue
		}
		middle := new(big.Rat).Add(new(big.Rat).SetFloat64(f), new(big.Rat).SetFloat64(math.Nextafter(f, math.Inf(1))))
		middle.Quo(middle, big.NewRat(2, 1))
		text := middle.FloatString(1100) // all its digits, for it is no less than 2^-1075
		whole, fraction, _ := strings.Cut(text, ".")
		tail := strings.Repeat("0", r.Intn(900)) + strconv.Itoa(r.Intn(3))
		for _, s := range []string{text + tail, whole + fraction[:999] + "." + fraction[999:] + tail + "e-999"} {
			if got, err := Parse(s); !sameBits(got, nearestTo(t, s)) || err != api.OK {
				t.Errorf("a number of %d bytes near %v: %v, %d", len(s), f, got, err)
			}
		}
	}
}

// P1.4: Whole.
func TestWhole(t *testing.T) {
	long := strings.Repeat("0", 2000)
	for _, x := range []struct {
		s   string
		n   int64
		err api.Errno
	}{
		{"0", 0, api.OK}, {"-0", 0, api.OK}, {"7", 7, api.OK}, {"-7", -7, api.OK}, {"0010", 10, api.OK}, {"-0010", -10, api.OK}, {"123456789", 123456789, api.OK},
		{"9223372036854775807", math.MaxInt64, api.OK}, {"-9223372036854775807", -math.MaxInt64, api.OK}, {"-9223372036854775808", math.MinInt64, api.OK},
		{"0009223372036854775807", math.MaxInt64, api.OK}, {"-0009223372036854775808", math.MinInt64, api.OK}, {long + "42", 42, api.OK}, {"-" + long + "42", -42, api.OK}, {long, 0, api.OK},
		{"9223372036854775808", 0, api.ErrOverflow}, {"-9223372036854775809", 0, api.ErrOverflow}, {"18446744073709551615", 0, api.ErrOverflow}, {"18446744073709551616", 0, api.ErrOverflow},
		{"-18446744073709551615", 0, api.ErrOverflow}, {"-18446744073709551616", 0, api.ErrOverflow}, {"18446744073709551617", 0, api.ErrOverflow}, {"100000000000000000000", 0, api.ErrOverflow},
		{"1" + long, 0, api.ErrOverflow}, {"-1" + long, 0, api.ErrOverflow}, {"00018446744073709551617", 0, api.ErrOverflow},
	} {
		if n, err := Whole(x.s); n != x.n || err != x.err {
			t.Errorf("Whole(%q) is %d, %d", x.s, n, err)
		}
	}
	for _, s := range []string{
		"", "-", "--1", "+1", "+", "-+1", "1-", "1+", " 1", "1 ", "- 1", "1.0", "1e5", ".", "1.", "0x10", "1_000", "a", "1a", "a1", "nan", "inf", "\n1", "1\x00", "\xff", "\u0661", "/", ":",
		"99999999999999999999a", "-99999999999999999999.", "9223372036854775808 ", long + "a", "1" + long + "-",
	} {
		if n, err := Whole(s); n != 0 || err != api.ErrForm {
			t.Errorf("Whole(%q) is %d, %d", s, n, err)
		}
	}
	for _, n := range edgeInts() {
		if m, err := Whole(strconv.FormatInt(n, 10)); m != n || err != api.OK {
			t.Errorf("%d came back as %d, %d", n, m, err)
		}
	}
}

// P1.6: Parse of Text(f) is f, bit by bit.
func TestBack(t *testing.T) {
	for _, f := range append(manyFloats(), nans()...) {
		if got, err := Parse(Text(f)); !sameBits(got, Canon(f)) || err != api.OK {
			t.Errorf("%x came back as %x, %d", math.Float64bits(f), math.Float64bits(got), err)
		}
	}
	for i := range 2047 { // the least and the greatest float of each exponent
		for _, b := range []uint64{0, 1, 1<<52 - 1} {
			f := math.Float64frombits(uint64(i)<<52 | b)
			if got, err := Parse(Text(-f)); !sameBits(got, -f) || err != api.OK {
				t.Errorf("%v came back as %v, %d", -f, got, err)
			}
		}
	}
}
