package wire

import (
	"bytes"
	"cmp"
	"math"
	"math/rand"
	"slices"
	"strings"
	"testing"

	"almanac/api"
	"almanac/num"
)

// P3.4: each value comes back, and nothing remains.
func TestBack(t *testing.T) {
	for _, n := range manyNums() {
		r := New(Num(nil, n))
		if got, err := r.Num(n); got != n || err != api.OK || r.End() != api.OK {
			t.Errorf("the number %d came back as %d, %d", n, got, err)
		}
	}
	for _, n := range manyInts() {
		r := New(Int(nil, n))
		if got, err := r.Int(); got != n || err != api.OK || r.End() != api.OK {
			t.Errorf("the integer %d came back as %d, %d", n, got, err)
		}
	}
	for _, f := range manyFloats() {
		r := New(float(t, nil, f))
		if got, err := r.Float(); math.Float64bits(got) != math.Float64bits(f) || err != api.OK || r.End() != api.OK {
			t.Errorf("the float %v came back as %v, %d", f, got, err)
		}
	}
	for _, s := range manyTexts() {
		r := New(Text(nil, s))
		if got, err := r.Text(len(s)); got != s || err != api.OK || r.End() != api.OK {
			t.Errorf("the string %q came back as %q, %d", s, got, err)
		}
	}
	for c := range 256 {
		r := New(Byte(nil, byte(c)))
		if got, err := r.Byte(); got != byte(c) || err != api.OK || r.End() != api.OK {
			t.Errorf("the byte %d came back as %d, %d", c, got, err)
		}
	}
}

// P3.4: values of all types, encoded one after the other.
func TestBackInOrder(t *testing.T) {
	nums, ints, floats, texts := manyNums(), manyInts(), manyFloats(), manyTexts()
	rnd := rand.New(rand.NewSource(6))
	for range 500 {
		var b []byte
		var checks []func(r *Reader) bool
		for range rnd.Intn(12) {
			switch rnd.Intn(5) {
			case 0:
				n := nums[rnd.Intn(len(nums))]
				b = Num(b, n)
				checks = append(checks, func(r *Reader) bool { got, err := r.Num(n); return got == n && err == api.OK })
			case 1:
				n := ints[rnd.Intn(len(ints))]
				b = Int(b, n)
				checks = append(checks, func(r *Reader) bool { got, err := r.Int(); return got == n && err == api.OK })
			case 2:
				f := floats[rnd.Intn(len(floats))]
				b = float(t, b, f)
				checks = append(checks, func(r *Reader) bool {
					got, err := r.Float()
					return math.Float64bits(got) == math.Float64bits(f) && err == api.OK
				})
			case 3:
				s := texts[rnd.Intn(len(texts))]
				b = Text(b, s)
				checks = append(checks, func(r *Reader) bool { got, err := r.Text(len(s)); return got == s && err == api.OK })
			case 4:
				c := byte(rnd.Intn(256))
				b = Byte(b, c)
				checks = append(checks, func(r *Reader) bool { got, err := r.Byte(); return got == c && err == api.OK })
			}
		}
		r := New(b)
		for i, check := range checks {
			if !check(r) {
				t.Errorf("% x: value %d did not come back", b, i)
			}
		}
		if r.Left() != 0 || r.End() != api.OK {
			t.Errorf("% x: %d left, End %d", b, r.Left(), r.End())
		}
	}
}

// P3.4: bytes that are decoded are the encoding of what they give.
func TestOneEncoding(t *testing.T) {
	r := rand.New(rand.NewSource(7))
	for range 20000 {
		b := make([]byte, 1+r.Intn(10))
		r.Read(b)
		b[0] = byte(r.Intn(26))
		reader := New(b)
		if n, err := reader.Num(math.MaxUint64); err == api.OK && !bytes.Equal(Num(nil, n), b[:len(b)-reader.Left()]) {
			t.Errorf("% x is the number %d", b, n)
		}
		reader = New(b)
		if n, err := reader.Int(); err == api.OK && !bytes.Equal(Int(nil, n), b[:len(b)-reader.Left()]) {
			t.Errorf("% x is the integer %d", b, n)
		}
		b[0] = byte(r.Intn(256))
		reader = New(b)
		if f, err := reader.Float(); err == api.OK && !bytes.Equal(float(t, nil, f), b[:8]) {
			t.Errorf("% x is the float %v", b, f)
		}
		for i := range b {
			b[i] = "\x00\xffa"[r.Intn(3)]
		}
		reader = New(b)
		if s, err := reader.Text(99); err == api.OK && !bytes.Equal(Text(nil, s), b[:len(b)-reader.Left()]) {
			t.Errorf("% x is the string %q", b, s)
		}
	}
}

// checkOrder checks that encodings compare as what they encode does, and that none begins with another one.
func checkOrder[T any](t *testing.T, l []T, put func(v T) []byte, compare func(a, b T) int) {
	t.Helper()
	encoded := make([][]byte, len(l))
	for i, v := range l {
		encoded[i] = put(v)
	}
	for i, a := range l {
		for j, b := range l {
			want := compare(a, b)
			if got := bytes.Compare(encoded[i], encoded[j]); got != want {
				t.Errorf("%v and %v: their encodings compare as %d", a, b, got)
			}
			if want != 0 && bytes.HasPrefix(encoded[i], encoded[j]) {
				t.Errorf("the encoding of %v begins with that of %v", a, b)
			}
		}
	}
}

// P3.4 and P3.5: the order of the encodings of each type, none of which is a prefix of another one.
func TestOrder(t *testing.T) {
	checkOrder(t, manyNums(), func(n uint64) []byte { return Num(nil, n) }, cmp.Compare[uint64])
	checkOrder(t, manyInts(), func(n int64) []byte { return Int(nil, n) }, cmp.Compare[int64])
	checkOrder(t, manyFloats(), func(f float64) []byte { return float(t, nil, f) }, num.Floats)
	checkOrder(t, manyTexts(), func(s string) []byte { return Text(nil, s) }, strings.Compare)
}

// P3.5: floats that stand in their order, told without num.
func TestFloatsAscend(t *testing.T) {
	var encoded [][]byte
	for _, f := range ascending() {
		encoded = append(encoded, float(t, nil, f))
	}
	for i := range len(encoded) - 1 {
		if bytes.Compare(encoded[i], encoded[i+1]) >= 0 {
			t.Errorf("% x is not ahead of % x", encoded[i], encoded[i+1])
		}
	}
}

// P3.5: where one encoding is ahead of another one, it is so whatever follows them.
func TestOrderOfConcatenations(t *testing.T) {
	var ints, texts [][]byte
	for _, n := range manyInts() {
		ints = append(ints, Int(nil, n))
	}
	for _, s := range manyTexts() {
		texts = append(texts, Text(nil, s))
	}
	ends := [][]byte{nil, {0}, {0, 0}, {0xff}, {0xff, 0xff, 0xff}}
	for _, l := range [][][]byte{ints, texts} {
		for i := range len(l) - 1 {
			for _, a := range ends {
				for _, b := range ends {
					x, y := slices.Concat(l[i], a), slices.Concat(l[i+1], b)
					if bytes.Compare(x, y) >= 0 {
						t.Errorf("% x is not ahead of % x", x, y)
					}
				}
			}
		}
	}
}
