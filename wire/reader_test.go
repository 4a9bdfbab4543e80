package wire

import (
	"bytes"
	"math"
	"math/rand"
	"slices"
	"strings"
	"testing"

	"almanac/api"
)

// outcome is what a call on a reader told: a value as its encoding, whether it was zero, the error, and how many bytes were left.
type outcome struct {
	back []byte
	none bool
	err  api.Errno
	left int
}

// The types that a reader reads.
var typeNames = []string{"Num", "Int", "Float", "Text", "Byte"}

// take lets r read a value of a type, without any bound, and tells the outcome.
func take(t *testing.T, r *Reader, name string) outcome {
	t.Helper()
	var o outcome
	switch name {
	case "Num":
		n, err := r.Num(math.MaxUint64)
		o = outcome{numBytes(n), n == 0, err, 0}
	case "Int":
		n, err := r.Int()
		o = outcome{intBytes(n), n == 0, err, 0}
	case "Float":
		f, err := r.Float()
		o = outcome{floatBytes(f), math.Float64bits(f) == 0, err, 0}
	case "Text":
		s, err := r.Text(math.MaxInt)
		o = outcome{textBytes(s), s == "", err, 0}
	case "Byte":
		c, err := r.Byte()
		o = outcome{[]byte{c}, c == 0, err, 0}
	}
	o.left = r.Left()
	return o
}

// begins tells how an encoding of a type could stand at the start of b, as the document says it, byte by byte: OK if one is there, of that length; ErrShort if b is the beginning of one.
func begins(name string, b []byte) (api.Errno, int) {
	switch {
	case name == "Text":
		return textBegins(b)
	case len(b) == 0:
		return api.ErrShort, 0
	case name == "Byte":
		return api.OK, 1
	case name == "Float":
		return floatBegins(b)
	}
	count, first, last := int(b[0]), 1, 255 // a first digit is from first to last
	if name == "Int" {
		count = int(b[0]) - 16
		if b[0] < 16 {
			count, first, last = 15-int(b[0]), 0, 254
		}
		if count == 8 && b[0] < 16 {
			first = 128
		} else if count == 8 {
			last = 127
		}
	}
	switch {
	case count > 8:
		return api.ErrForm, 0
	case count > 0 && len(b) > 1 && (int(b[1]) < first || int(b[1]) > last):
		return api.ErrForm, 0
	case len(b) < 1+count:
		return api.ErrShort, 0
	}
	return api.OK, 1 + count
}

// floatBegins is begins for floats: their encodings are all between two, and that of the NaN.
func floatBegins(b []byte) (api.Errno, int) {
	b = b[:min(8, len(b))]
	first := []byte{0, 0x0f, 255, 255, 255, 255, 255, 255}
	last := []byte{0xff, 0xf0, 0, 0, 0, 0, 0, 0}
	nan := []byte{0xff, 0xf8, 0, 0, 0, 0, 0, 1}
	among := bytes.Compare(b, first[:len(b)]) >= 0 && bytes.Compare(b, last[:len(b)]) <= 0
	switch {
	case !among && !bytes.HasPrefix(nan, b):
		return api.ErrForm, 0
	case len(b) < 8:
		return api.ErrShort, 0
	}
	return api.OK, 8
}

// textBegins is begins for strings, two bytes at a time.
func textBegins(b []byte) (api.Errno, int) {
	for i := 0; i < len(b); i++ {
		switch two := string(b[i:min(i+2, len(b))]); {
		case two[0] != 0:
		case two == "\x00\x00":
			return api.OK, i + 2
		case two == "\x00\xff":
			i++
		case len(two) == 2:
			return api.ErrForm, 0
		}
	}
	return api.ErrShort, 0
}

// checkTake compares what a reader of b makes of its start, as a value of each type, with what the document says.
func checkTake(t *testing.T, b []byte) {
	t.Helper()
	for _, name := range typeNames {
		got := take(t, New(b), name)
		err, length := begins(name, b)
		switch {
		case got.err != err:
			t.Errorf("%s of % x: error %d, not %d", name, b, got.err, err)
		case got.left != len(b)-length:
			t.Errorf("%s of % x: %d bytes left", name, b, got.left)
		case err != api.OK && !got.none:
			t.Errorf("%s of % x: error %d beside % x", name, b, err, got.back)
		case err == api.OK && !bytes.Equal(got.back, b[:length]):
			t.Errorf("%s of % x: the value's encoding is % x", name, b, got.back)
		}
	}
}

// P3.3: the document's examples, and the edges of each type.
func TestErrors(t *testing.T) {
	num := func(r *Reader) api.Errno { _, err := r.Num(math.MaxUint64); return err }
	integer := func(r *Reader) api.Errno { _, err := r.Int(); return err }
	float := func(r *Reader) api.Errno { _, err := r.Float(); return err }
	text := func(r *Reader) api.Errno { _, err := r.Text(100); return err }
	one := func(r *Reader) api.Errno { _, err := r.Byte(); return err }
	for _, x := range []struct {
		name string
		take func(r *Reader) api.Errno
		b    string
		err  api.Errno
	}{
		{"Num", num, "\x02\x01", api.ErrShort}, {"Num", num, "\x02\x00\x01", api.ErrForm}, {"Num", num, "\x09", api.ErrForm},
		{"Num", num, "", api.ErrShort}, {"Num", num, "\x01", api.ErrShort}, {"Num", num, "\x08", api.ErrShort}, {"Num", num, "\x01\x00", api.ErrForm}, {"Num", num, "\x02\x00", api.ErrForm},
		{"Num", num, "\x08\x01\x00\x00\x00\x00\x00\x00", api.ErrShort}, {"Num", num, "\x08\x00\x01\x02\x03\x04\x05\x06\x07", api.ErrForm}, {"Num", num, "\xff\x01", api.ErrForm}, {"Num", num, "\x10", api.ErrForm},
		{"Int", integer, "", api.ErrShort}, {"Int", integer, "\x06", api.ErrForm}, {"Int", integer, "\x19", api.ErrForm}, {"Int", integer, "\x00", api.ErrForm}, {"Int", integer, "\xff", api.ErrForm},
		{"Int", integer, "\x07", api.ErrShort}, {"Int", integer, "\x18", api.ErrShort}, {"Int", integer, "\x11", api.ErrShort}, {"Int", integer, "\x0e", api.ErrShort},
		{"Int", integer, "\x11\x00", api.ErrForm}, {"Int", integer, "\x12\x00", api.ErrForm}, {"Int", integer, "\x0e\xff", api.ErrForm}, {"Int", integer, "\x0d\xff", api.ErrForm}, {"Int", integer, "\x0d\xfe", api.ErrShort},
		{"Int", integer, "\x18\x7f", api.ErrShort}, {"Int", integer, "\x18\x80", api.ErrForm}, {"Int", integer, "\x18\x80\x00\x00\x00\x00\x00\x00\x00", api.ErrForm},
		{"Int", integer, "\x07\x80", api.ErrShort}, {"Int", integer, "\x07\x7f", api.ErrForm}, {"Int", integer, "\x07\x7f\xff\xff\xff\xff\xff\xff\xff", api.ErrForm}, {"Int", integer, "\x07\xff", api.ErrForm},
		{"Float", float, "", api.ErrShort}, {"Float", float, "\xbf\xf0\x00\x00\x00\x00\x00", api.ErrShort}, {"Float", float, "\x00", api.ErrShort}, {"Float", float, "\xff", api.ErrShort},
		{"Float", float, "\x00\x0f", api.ErrShort}, {"Float", float, "\x00\x0e", api.ErrForm}, {"Float", float, "\x00\x0f\xff\xff\xff\xff\xff", api.ErrShort}, {"Float", float, "\x00\x0f\xff\xff\xff\xff\xfe", api.ErrForm},
		{"Float", float, "\x00\x0f\xff\xff\xff\xff\xff\xfe", api.ErrForm}, {"Float", float, "\x00\x00\x00\x00\x00\x00\x00\x00", api.ErrForm}, {"Float", float, "\x00\x07\xff\xff\xff\xff\xff\xfe", api.ErrForm},
		{"Float", float, "\xff\xf0", api.ErrShort}, {"Float", float, "\xff\xf0\x00\x00\x00\x00\x01", api.ErrForm}, {"Float", float, "\xff\xf0\x00\x00\x00\x00\x00\x01", api.ErrForm}, {"Float", float, "\xff\xf1", api.ErrForm},
		{"Float", float, "\xff\xf8", api.ErrShort}, {"Float", float, "\xff\xf8\x00\x00\x00\x00\x00", api.ErrShort}, {"Float", float, "\xff\xf8\x00\x00\x00\x00\x01", api.ErrForm}, {"Float", float, "\xff\xf9", api.ErrForm},
		{"Float", float, "\xff\xf8\x00\x00\x00\x00\x00\x00", api.ErrForm}, {"Float", float, "\xff\xf8\x00\x00\x00\x00\x00\x02", api.ErrForm}, {"Float", float, "\xff\xff\xff\xff\xff\xff\xff\xff", api.ErrForm},
		{"Text", text, "", api.ErrShort}, {"Text", text, "a", api.ErrShort}, {"Text", text, "\x00", api.ErrShort}, {"Text", text, "a\x00\xff", api.ErrShort}, {"Text", text, "\x00\xff\x00", api.ErrShort},
		{"Text", text, "\x00\x01", api.ErrForm}, {"Text", text, "a\x00\xfe", api.ErrForm}, {"Text", text, "\x00a\x00\x00", api.ErrForm}, {"Text", text, "\x00\xff\x00\x01", api.ErrForm},
		{"Byte", one, "", api.ErrShort},
	} {
		r := New([]byte(x.b))
		if err := x.take(r); err != x.err || r.Left() != len(x.b) {
			t.Errorf("%s of % x: error %d, %d left", x.name, x.b, err, r.Left())
		}
	}
}

// P3.3: all starts of up to three bytes.
func TestAllStarts(t *testing.T) {
	checkTake(t, nil)
	for a := range 256 {
		checkTake(t, []byte{byte(a)})
		for b := range 256 {
			checkTake(t, []byte{byte(a), byte(b)})
			for _, c := range []byte{0, 1, 0x7f, 0x80, 0xfe, 0xff} {
				checkTake(t, []byte{byte(a), byte(b), c})
			}
		}
	}
}

// manyEncodings are encodings of all types.
func manyEncodings(t *testing.T) [][]byte {
	var l [][]byte
	for i, n := range manyNums() {
		if i%7 == 0 || n == math.MaxUint64 {
			l = append(l, Num(nil, n))
		}
	}
	for i, n := range manyInts() {
		if i%11 == 0 || n == math.MinInt64 || n == math.MaxInt64 {
			l = append(l, Int(nil, n))
		}
	}
	for _, f := range ascending() {
		l = append(l, float(t, nil, f))
	}
	for i, s := range manyTexts() {
		if i%23 == 0 {
			l = append(l, Text(nil, s))
		}
	}
	return l
}

// P3.3: encodings whole, cut off, with bytes behind them, and with one byte that is another one.
func TestNearEncodings(t *testing.T) {
	for _, b := range manyEncodings(t) {
		for i := range b {
			checkTake(t, b[:i])
			for _, flip := range []byte{1, 2, 0x0f, 0x80, 0xfe, 0xff} {
				other := bytes.Clone(b)
				other[i] ^= flip
				checkTake(t, other)
			}
			if i > 20 {
				break
			}
		}
		checkTake(t, b)
		for _, c := range []byte{0, 1, 0xff} {
			checkTake(t, append(bytes.Clone(b), c))
		}
	}
}

// P3.3 and R1: any bytes, many of them such that encodings could begin there; each call on a reader in the midst of its bytes.
func TestAnyBytes(t *testing.T) {
	r := rand.New(rand.NewSource(5))
	for range 20000 {
		b := make([]byte, r.Intn(14))
		for i := range b {
			b[i] = byte(r.Intn(256))
			if r.Intn(2) == 0 {
				b[i] = []byte{0, 1, 2, 8, 0x0e, 0x11, 0x18, 7, 0x7f, 0x80, 0xfe, 0xff}[r.Intn(12)]
			}
		}
		checkTake(t, b)
		reader := New(b)
		for range 6 {
			rest := b[len(b)-reader.Left():]
			name := typeNames[r.Intn(len(typeNames))]
			err, length := begins(name, rest)
			if got := take(t, reader, name); got.err != err || got.left != len(rest)-length {
				t.Errorf("%s of % x at % x: error %d, %d left", name, b, rest, got.err, got.left)
			}
		}
	}
}

// P3.3: Num tells ErrLong for a number above most, but only if there is one.
func TestNumMost(t *testing.T) {
	for _, x := range []struct {
		b    []byte
		most uint64
		n    uint64
		err  api.Errno
	}{
		{[]byte{0}, 0, 0, api.OK}, {[]byte{1, 1}, 0, 0, api.ErrLong}, {[]byte{1, 1}, 1, 1, api.OK}, {[]byte{2, 3, 232}, 1000, 1000, api.OK}, {[]byte{2, 3, 233}, 1000, 0, api.ErrLong},
		{Num(nil, math.MaxUint64), math.MaxUint64, math.MaxUint64, api.OK}, {Num(nil, math.MaxUint64), math.MaxUint64 - 1, 0, api.ErrLong}, {Num(nil, 1<<63), math.MaxInt64, 0, api.ErrLong}, {Num(nil, 1<<63), 1 << 63, 1 << 63, api.OK},
		{[]byte{2, 1}, 0, 0, api.ErrShort}, {[]byte{8}, 0, 0, api.ErrShort}, {[]byte{2, 0, 1}, 0, 0, api.ErrForm}, {[]byte{9, 1}, 0, 0, api.ErrForm}, {nil, 0, 0, api.ErrShort},
	} {
		r := New(append([]byte{7}, x.b...))
		r.Byte()
		left := 0
		if x.err != api.OK {
			left = len(x.b)
		}
		if n, err := r.Num(x.most); n != x.n || err != x.err || r.Left() != left {
			t.Errorf("Num(%d) of % x is %d, %d, %d left", x.most, x.b, n, err, r.Left())
		}
	}
}

// P3.3: Text tells ErrArg ahead of all but ErrNil, and ErrLong behind all else, by the bytes of the string and not by those of its encoding.
func TestTextMost(t *testing.T) {
	for _, x := range []struct {
		b    string
		most int
		s    string
		err  api.Errno
	}{
		{"\x00\x00", 0, "", api.OK}, {"a\x00\x00", 0, "", api.ErrLong}, {"a\x00\x00", 1, "a", api.OK}, {"abc\x00\x00", 2, "", api.ErrLong}, {"abc\x00\x00", 3, "abc", api.OK}, {"abc\x00\x00", math.MaxInt, "abc", api.OK},
		{"\x00\xff\x00\x00", 1, "\x00", api.OK}, {"\x00\xff\x00\x00", 0, "", api.ErrLong}, {"\x00\xff\x00\xff\x00\x00", 2, "\x00\x00", api.OK}, {"\x00\xff\x00\xff\x00\x00", 1, "", api.ErrLong},
		{"\xff\xff\x00\x00", 2, "\xff\xff", api.OK}, {"\xc3\xa9\x00\x00", 1, "", api.ErrLong}, {"\xc3\xa9\x00\x00", 2, "\u00e9", api.OK},
		{"abc", 2, "", api.ErrShort}, {"abc\x00", 2, "", api.ErrShort}, {"abc\x00\xff", 2, "", api.ErrShort}, {"abc\x00\x01\x00\x00", 2, "", api.ErrForm}, {"abc\x00\x01", 0, "", api.ErrForm},
		{"a\x00\x00", -1, "", api.ErrArg}, {"", -1, "", api.ErrArg}, {"\x00\x00", -1, "", api.ErrArg}, {"\x00\x01", -1, "", api.ErrArg}, {"a", math.MinInt, "", api.ErrArg},
		{strings.Repeat("a", 5000) + "\x00\x00", 4999, "", api.ErrLong}, {strings.Repeat("a", 5000) + "\x00\x00", 5000, strings.Repeat("a", 5000), api.OK},
	} {
		r := New([]byte("\x07" + x.b))
		r.Byte()
		left := 0
		if x.err != api.OK {
			left = len(x.b)
		}
		if s, err := r.Text(x.most); s != x.s || err != x.err || r.Left() != left {
			t.Errorf("Text(%d) of %q is %q, %d, %d left", x.most, x.b, s, err, r.Left())
		}
	}
}

// P3.3: the scan of a string ends at the first terminator, and at the first fault.
func TestTextScan(t *testing.T) {
	r := New([]byte("a\x00\x00\x00\xff\x00\x00\x00\x01"))
	if s, err := r.Text(9); s != "a" || err != api.OK || r.Left() != 6 {
		t.Error(s, err, r.Left())
	}
	if s, err := r.Text(9); s != "\x00" || err != api.OK || r.Left() != 2 {
		t.Error(s, err, r.Left())
	}
	if s, err := r.Text(9); s != "" || err != api.ErrForm || r.Left() != 2 {
		t.Error(s, err, r.Left())
	}
}

// P3.2 and P3.3: a reader that is nil, or that New did not make.
func TestNoReader(t *testing.T) {
	for _, r := range []*Reader{nil, {}, new(Reader)} {
		for _, name := range typeNames {
			if got := take(t, r, name); got.err != api.ErrNil || !got.none || got.left != 0 {
				t.Errorf("%s of no reader: %v", name, got)
			}
		}
		if s, err := r.Text(-1); s != "" || err != api.ErrNil {
			t.Errorf("Text(-1) of no reader is %q, %d", s, err)
		}
		if n, err := r.Num(0); n != 0 || err != api.ErrNil {
			t.Errorf("Num(0) of no reader is %d, %d", n, err)
		}
		if r.Left() != 0 || r.End() != api.ErrNil {
			t.Errorf("no reader: %d left, End %d", r.Left(), r.End())
		}
	}
}

// P3.2: Left and End, from no bytes to many.
func TestLeftAndEnd(t *testing.T) {
	for _, b := range [][]byte{nil, {}, make([]byte, 0, 5), []byte("abc")[:0]} {
		if r := New(b); r.Left() != 0 || r.End() != api.OK {
			t.Errorf("of no bytes: %d left, End %d", r.Left(), r.End())
		}
	}
	b := bytes.Repeat([]byte{9}, 300)
	r := New(b[:299])
	for i := 299; i > 0; i-- {
		if r.Left() != i || r.End() != api.ErrLong {
			t.Errorf("%d left of %d, End %d", r.Left(), i, r.End())
		}
		if c, err := r.Byte(); c != 9 || err != api.OK {
			t.Errorf("Byte is %d, %d", c, err)
		}
	}
	if r.Left() != 0 || r.End() != api.OK {
		t.Errorf("behind all bytes: %d left, End %d", r.Left(), r.End())
	}
	if c, err := r.Byte(); c != 0 || err != api.ErrShort {
		t.Errorf("behind all bytes: Byte is %d, %d", c, err)
	}
}

// P3.2 and R3: the bytes of a reader are its own, and two readers of the same bytes are apart.
func TestReaderKeepsNothing(t *testing.T) {
	b := Text(Text(nil, "first"), "second")
	had := bytes.Clone(b)
	r, other := New(b), New(b)
	first, err := r.Text(9)
	for i := range b {
		b[i] = 0xee
	}
	second, e := r.Text(9)
	if first != "first" || second != "second" || err != api.OK || e != api.OK || r.End() != api.OK {
		t.Error(first, second, err, e)
	}
	if other.Left() != len(had) {
		t.Errorf("the other reader has %d left", other.Left())
	}
	if s, err := other.Text(9); s != "first" || err != api.OK {
		t.Error(s, err)
	}
	b = slices.Clone(had)
	r = New(b)
	for range b {
		r.Byte()
	}
	if !bytes.Equal(b, had) {
		t.Errorf("% x has become % x", had, b)
	}
}
