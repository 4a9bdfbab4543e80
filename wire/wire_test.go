package wire

import (
	"bytes"
	"math"
	"math/big"
	"math/rand"
	"slices"
	"strings"
	"testing"

	"almanac/api"
)

var negZero = math.Copysign(0, -1)

var canonicalNaN = math.Float64frombits(0x7ff8000000000001)

// otherNaNs are NaNs that are not canonical: quiet, signalling, of either sign.
func otherNaNs() []float64 {
	var l []float64
	for _, b := range []uint64{0x7ff8000000000000, 0x7ff8000000000002, 0xfff8000000000001, 0xfff8000000000000, 0x7fffffffffffffff, 0xffffffffffffffff, 0x7ff0000000000001, 0xfff0000000000001} {
		l = append(l, math.Float64frombits(b))
	}
	return l
}

// manyNums are numbers in ascending order, each of them once: all neighbours of a change in the count of digits, and others of all lengths.
func manyNums() []uint64 {
	l := []uint64{0, 1, 2, 5, 127, 128, 1000, 1 << 40, math.MaxInt64 - 1, math.MaxInt64, math.MaxInt64 + 1, math.MaxUint64 - 1, math.MaxUint64}
	for i := range 8 {
		l = append(l, 1<<(8*i)-1, 1<<(8*i), 1<<(8*i)+1, 0x7f<<(8*i), 0x80<<(8*i), 0xff<<(8*i))
	}
	r := rand.New(rand.NewSource(1))
	for range 300 {
		l = append(l, r.Uint64()>>r.Intn(64))
	}
	slices.Sort(l)
	return slices.Compact(l)
}

// manyInts are integers in ascending order, each of them once.
func manyInts() []int64 {
	var l []int64
	for _, n := range manyNums() {
		l = append(l, int64(n), -int64(n), ^int64(n))
	}
	slices.Sort(l)
	return slices.Compact(l)
}

// ascending are canonical floats in the order of floats, each of them once.
func ascending() []float64 {
	return []float64{
		math.Inf(-1), -math.MaxFloat64, -1e300, -0x1p63, -0x1p53, -2.5, -2, -1.5, -0x1.0000000000001p0, -1, -0.5, -0.1, -0x1p-1022, -0x0.fffffffffffffp-1022, -math.SmallestNonzeroFloat64, negZero,
		0, math.SmallestNonzeroFloat64, 0x0.fffffffffffffp-1022, 0x1p-1022, 0.1, 0.5, 1, 0x1.0000000000001p0, 1.5, 2, 2.5, 0x1p53, 0x1p63, 1e300, math.MaxFloat64, math.Inf(1), canonicalNaN,
	}
}

// manyFloats are canonical floats: those in ascending, and others of all sizes.
func manyFloats() []float64 {
	l := ascending()
	r := rand.New(rand.NewSource(2))
	for range 500 {
		f := math.Float64frombits(r.Uint64())
		if f != f {
			f = canonicalNaN
		}
		l = append(l, f, float64(r.Intn(2001)-1000)/8)
	}
	return l
}

// manyTexts are strings in ascending order, each of them once: all of up to four of the bytes at which the order or the form could break, and longer ones.
func manyTexts() []string {
	l := []string{""}
	for i := 0; len(l[i]) < 4; i++ {
		for _, c := range []string{"\x00", "\x01", "a", "\xfe", "\xff"} {
			l = append(l, l[i]+c)
		}
	}
	for _, c := range []string{"\x00", "a", "\xff", "\x00\xff", "\u00e9"} {
		l = append(l, strings.Repeat(c, 40), strings.Repeat(c, 40)+"\x00", strings.Repeat(c, 1000))
	}
	slices.Sort(l)
	return slices.Compact(l)
}

// numBytes is the encoding of n, made of the digits that big.Int tells.
func numBytes(n uint64) []byte {
	digits := new(big.Int).SetUint64(n).Bytes()
	return append([]byte{byte(len(digits))}, digits...)
}

// intBytes is the encoding of n, made likewise.
func intBytes(n int64) []byte {
	exact := big.NewInt(n)
	if exact.Sign() >= 0 {
		digits := exact.Bytes()
		return append([]byte{byte(16 + len(digits))}, digits...)
	}
	digits := exact.Neg(exact.Add(exact, big.NewInt(1))).Bytes()
	for i := range digits {
		digits[i] = 255 - digits[i]
	}
	return append([]byte{byte(15 - len(digits))}, digits...)
}

// floatBytes is the encoding of f, made bit by bit.
func floatBytes(f float64) []byte {
	l := make([]byte, 8)
	for i := range 64 {
		bit := math.Float64bits(f)>>(63-i)&1 == 1
		if math.Signbit(f) || i == 0 {
			bit = !bit
		}
		if bit {
			l[i/8] |= 0x80 >> (i % 8)
		}
	}
	return l
}

// textBytes is the encoding of s.
func textBytes(s string) []byte {
	return []byte(strings.ReplaceAll(s, "\x00", "\x00\xff") + "\x00\x00")
}

// float is the encoding of f, which is canonical.
func float(t *testing.T, b []byte, f float64) []byte {
	t.Helper()
	got, err := Float(b, f)
	if err != api.OK {
		t.Errorf("Float(%v) is an error, %d", f, err)
	}
	return got
}

// P3.1: the document's examples.
func TestExamples(t *testing.T) {
	for _, x := range []struct{ got, want []byte }{
		{Num(nil, 0), []byte{0}}, {Num(nil, 258), []byte{2, 1, 2}},
		{Int(nil, 0), []byte{0x10}}, {Int(nil, 5), []byte{0x11, 5}}, {Int(nil, -1), []byte{0x0f}}, {Int(nil, -2), []byte{0x0e, 0xfe}}, {Int(nil, -257), []byte{0x0d, 0xfe, 0xff}},
		{float(t, nil, 1), []byte{0xbf, 0xf0, 0, 0, 0, 0, 0, 0}}, {float(t, nil, negZero), []byte{0x7f, 0xff, 0xff, 0xff, 0xff, 0xff, 0xff, 0xff}},
		{Text(nil, "a\x00b"), []byte{'a', 0, 0xff, 'b', 0, 0}},
	} {
		if !bytes.Equal(x.got, x.want) {
			t.Errorf("% x is not % x", x.got, x.want)
		}
	}
}

// P3.1: the ends of each type.
func TestEnds(t *testing.T) {
	for _, x := range []struct{ got, want []byte }{
		{Num(nil, 1), []byte{1, 1}}, {Num(nil, 255), []byte{1, 0xff}}, {Num(nil, 256), []byte{2, 1, 0}}, {Num(nil, math.MaxUint64), []byte{8, 0xff, 0xff, 0xff, 0xff, 0xff, 0xff, 0xff, 0xff}},
		{Int(nil, 255), []byte{0x11, 0xff}}, {Int(nil, 256), []byte{0x12, 1, 0}}, {Int(nil, -256), []byte{0x0e, 0}}, {Int(nil, math.MaxInt64), []byte{0x18, 0x7f, 0xff, 0xff, 0xff, 0xff, 0xff, 0xff, 0xff}},
		{Int(nil, math.MinInt64), []byte{7, 0x80, 0, 0, 0, 0, 0, 0, 0}}, {Int(nil, math.MinInt64+1), []byte{7, 0x80, 0, 0, 0, 0, 0, 0, 1}},
		{float(t, nil, 0), []byte{0x80, 0, 0, 0, 0, 0, 0, 0}}, {float(t, nil, math.Inf(1)), []byte{0xff, 0xf0, 0, 0, 0, 0, 0, 0}}, {float(t, nil, canonicalNaN), []byte{0xff, 0xf8, 0, 0, 0, 0, 0, 1}},
		{float(t, nil, -1), []byte{0x40, 0x0f, 0xff, 0xff, 0xff, 0xff, 0xff, 0xff}}, {float(t, nil, math.Inf(-1)), []byte{0, 0x0f, 0xff, 0xff, 0xff, 0xff, 0xff, 0xff}},
		{Text(nil, ""), []byte{0, 0}}, {Text(nil, "\x00"), []byte{0, 0xff, 0, 0}}, {Text(nil, "\x00\x00"), []byte{0, 0xff, 0, 0xff, 0, 0}}, {Text(nil, "\xff"), []byte{0xff, 0, 0}}, {Text(nil, "\u00e9"), []byte{0xc3, 0xa9, 0, 0}},
		{Byte(nil, 0), []byte{0}}, {Byte(nil, 255), []byte{255}},
	} {
		if !bytes.Equal(x.got, x.want) {
			t.Errorf("% x is not % x", x.got, x.want)
		}
	}
}

// P3.1: each encoding is what the document says, made in another way.
func TestEncodings(t *testing.T) {
	for _, n := range manyNums() {
		if got := Num(nil, n); !bytes.Equal(got, numBytes(n)) {
			t.Errorf("Num(%d) is % x", n, got)
		}
	}
	for _, n := range manyInts() {
		if got := Int(nil, n); !bytes.Equal(got, intBytes(n)) {
			t.Errorf("Int(%d) is % x", n, got)
		}
	}
	for _, f := range manyFloats() {
		if got := float(t, nil, f); !bytes.Equal(got, floatBytes(f)) {
			t.Errorf("Float(%v) is % x", f, got)
		}
	}
	for _, s := range manyTexts() {
		if got := Text(nil, s); !bytes.Equal(got, textBytes(s)) {
			t.Errorf("Text(%q) is % x", s, got)
		}
	}
	for c := range 256 {
		if got := Byte(nil, byte(c)); !bytes.Equal(got, []byte{byte(c)}) {
			t.Errorf("Byte(%d) is % x", c, got)
		}
	}
}

// P3.1: a float that is not canonical has no encoding.
func TestFloatNotCanonical(t *testing.T) {
	for _, f := range otherNaNs() {
		for _, b := range [][]byte{nil, {}, {1, 2}} {
			if got, err := Float(b, f); len(got) != 0 || err != api.ErrArg {
				t.Errorf("Float(% x, NaN %x) is % x, %d", b, math.Float64bits(f), got, err)
			}
		}
	}
}

// encoders are the calls that encode, each with some arguments, and what they append.
func encoders(t *testing.T) []struct {
	name string
	put  func(b []byte) []byte
	want []byte
} {
	return []struct {
		name string
		put  func(b []byte) []byte
		want []byte
	}{
		{"Num 0", func(b []byte) []byte { return Num(b, 0) }, []byte{0}},
		{"Num 258", func(b []byte) []byte { return Num(b, 258) }, []byte{2, 1, 2}},
		{"Int 0", func(b []byte) []byte { return Int(b, 0) }, []byte{16}},
		{"Int -257", func(b []byte) []byte { return Int(b, -257) }, []byte{13, 254, 255}},
		{"Float 0", func(b []byte) []byte { return float(t, b, 0) }, []byte{0x80, 0, 0, 0, 0, 0, 0, 0}},
		{"Text of nothing", func(b []byte) []byte { return Text(b, "") }, []byte{0, 0}},
		{"Text", func(b []byte) []byte { return Text(b, "a\x00") }, []byte{'a', 0, 255, 0, 0}},
		{"Byte", func(b []byte) []byte { return Byte(b, 7) }, []byte{7}},
	}
}

// P3.1 and R3: the encoding stands behind the contents of b, in new memory, whether b has room for it or not.
func TestNewSlice(t *testing.T) {
	for _, x := range encoders(t) {
		for length := range 20 {
			for room := range 20 {
				all := bytes.Repeat([]byte{0xaa}, length+room)
				b := all[:length]
				had := bytes.Clone(all)
				got := x.put(b)
				if want := append(bytes.Clone(b), x.want...); !bytes.Equal(got, want) {
					t.Errorf("%s behind % x is % x", x.name, b, got)
				}
				for i := range got {
					got[i] ^= 0xff
				}
				if !bytes.Equal(all, had) {
					t.Errorf("%s: b is % x, it was % x", x.name, all, had)
				}
			}
		}
	}
}

// P3.1: two encodings that are put behind one slice don't get in each other's way.
func TestTwoBehindOne(t *testing.T) {
	for _, x := range encoders(t) {
		for _, first := range encoders(t) {
			b := first.put([]byte("b"))
			one, two := x.put(b), Byte(b, 0x55)
			if want := slices.Concat([]byte("b"), first.want, x.want); !bytes.Equal(one, want) {
				t.Errorf("%s behind %s is % x", x.name, first.name, one)
			}
			if want := slices.Concat([]byte("b"), first.want, []byte{0x55}); !bytes.Equal(two, want) {
				t.Errorf("Byte behind %s is % x", first.name, two)
			}
		}
	}
}

// P3.1: nil and an empty slice are the same; the result is no part of either.
func TestNilAndEmpty(t *testing.T) {
	for _, x := range encoders(t) {
		if a, b := x.put(nil), x.put([]byte{}); !bytes.Equal(a, x.want) || !bytes.Equal(b, x.want) {
			t.Errorf("%s is % x and % x", x.name, a, b)
		}
	}
}
