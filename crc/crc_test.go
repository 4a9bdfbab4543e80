package crc

import (
	"bytes"
	"hash/crc32"
	"math/bits"
	"math/rand"
	"slices"
	"testing"

	"almanac/api"
)

// feed is the register when b was fed into it, bit by bit, as the chapter's words say.
func feed(register uint32, b []byte) uint32 {
	for _, c := range b {
		register ^= uint32(c) << 24
		for range 8 {
			out := register >> 31
			register <<= 1
			if out == 1 {
				register ^= 0x04c11db7
			}
		}
	}
	return register
}

// mirrored is the checksum by the library, whose polynomial is the same, but whose bits are in the opposite order.
func mirrored(sum uint32, b []byte) uint32 {
	m := make([]byte, len(b))
	for i, c := range b {
		m[i] = bits.Reverse8(c)
	}
	return bits.Reverse32(crc32.Update(bits.Reverse32(sum), crc32.IEEETable, m))
}

// manySlices are slices of many lengths: constant bytes, all single bytes, and bytes without a pattern.
func manySlices() [][]byte {
	l := [][]byte{nil, {}, []byte("123456789"), []byte("a row of bytes")}
	for c := range 256 {
		l = append(l, []byte{byte(c)})
	}
	r := rand.New(rand.NewSource(1))
	for n := range 70 {
		b := make([]byte, n)
		r.Read(b)
		l = append(l, make([]byte, n), bytes.Repeat([]byte{0xff}, n), b)
	}
	b := make([]byte, 100000)
	r.Read(b)
	return append(l, b)
}

// manySums are registers and checksums: the ends, all single bits, and some without a pattern.
func manySums() []uint32 {
	l := []uint32{0, ^uint32(0), 0x04c11db7, 0xfc891918, 0x7fffffff}
	for i := range 32 {
		l = append(l, 1<<i)
	}
	r := rand.New(rand.NewSource(2))
	for range 30 {
		l = append(l, r.Uint32())
	}
	return l
}

// big is the four bytes of n, the most significant one first.
func big(n uint32) []byte {
	var b []byte
	for i := range 4 {
		b = append(b, byte(n>>(24-8*i)))
	}
	return b
}

// P4.1: Sum of what is known.
func TestSum(t *testing.T) {
	for _, x := range []struct {
		b    []byte
		want uint32
	}{
		{[]byte("123456789"), 0xfc891918},
		{nil, 0},
		{[]byte{}, 0},
		{[]byte{0}, 0xb1f7404b},
		{[]byte{0xff}, 0x000000ff},
		{[]byte{0xff, 0xff, 0xff, 0xff}, 0xffffffff},
		{[]byte{0, 0, 0, 0}, 0x38fb2284},
	} {
		if got := Sum(x.b); got != x.want {
			t.Errorf("Sum of % x is %x, not %x", x.b, got, x.want)
		}
	}
}

// P4.1: Sum is what feeding bit by bit gives, and what the library's mirrored checksum gives.
func TestSumIsFeeding(t *testing.T) {
	for _, b := range manySlices() {
		if got, want := Sum(b), ^feed(^uint32(0), b); got != want {
			t.Errorf("Sum of %d bytes is %x, not %x", len(b), got, want)
		}
		if got, want := Sum(b), mirrored(0, b); got != want {
			t.Errorf("Sum of %d bytes is %x, but mirrored %x", len(b), got, want)
		}
	}
}

// P4.1: More of any sum.
func TestMore(t *testing.T) {
	if got := More(Sum([]byte("12345")), []byte("6789")); got != 0xfc891918 {
		t.Errorf("More of 12345 and 6789 is %x", got)
	}
	for _, sum := range manySums() {
		for _, b := range manySlices() {
			if len(b) > 100 {
				continue
			}
			if got, want := More(sum, b), ^feed(^sum, b); got != want {
				t.Errorf("More(%x, % x) is %x, not %x", sum, b, got, want)
			}
			if got, want := More(sum, b), mirrored(sum, b); got != want {
				t.Errorf("More(%x, % x) is %x, but mirrored %x", sum, b, got, want)
			}
		}
	}
}

// P4.3: More of a sum, wherever the bytes are cut, also into more than two.
func TestMoreOfCuts(t *testing.T) {
	for _, b := range manySlices() {
		if len(b) > 100 {
			continue
		}
		want := Sum(b)
		var byBytes uint32
		for i := range len(b) + 1 {
			if got := More(Sum(b[:i]), b[i:]); got != want {
				t.Errorf("% x, cut at %d: %x, not %x", b, i, got, want)
			}
			byBytes = More(byBytes, b[i:min(i+1, len(b))])
		}
		if byBytes != want {
			t.Errorf("% x, byte by byte: %x, not %x", b, byBytes, want)
		}
	}
}

// P4.3: More of a sum and no bytes is that sum.
func TestMoreOfNothing(t *testing.T) {
	for _, sum := range manySums() {
		if a, b := More(sum, nil), More(sum, []byte{}); a != sum || b != sum {
			t.Errorf("More of %x and nothing is %x, %x", sum, a, b)
		}
	}
}

// P4.1: Mark.
func TestMark(t *testing.T) {
	if got := Mark(nil); !bytes.Equal(got, []byte{0, 0, 0, 0}) {
		t.Errorf("Mark of nothing is % x", got)
	}
	if got := Mark([]byte("123456789")); string(got) != "123456789\xfc\x89\x19\x18" {
		t.Errorf("Mark of 123456789 is %q", got)
	}
	for _, b := range manySlices() {
		if got, want := Mark(b), slices.Concat(b, big(^feed(^uint32(0), b))); !bytes.Equal(got, want) {
			t.Errorf("Mark of %d bytes is % x, not % x", len(b), got, want)
		}
	}
}

// P4.1 and R3: what Mark returns is new, and the bytes behind those that are sealed are untouched.
func TestMarkIsNew(t *testing.T) {
	room := []byte{1, 2, 3, 4, 5, 6, 7, 8, 9}
	before := slices.Clone(room)
	sealed := Mark(room[:3])
	if !bytes.Equal(room, before) {
		t.Errorf("Mark made the bytes % x of % x", room, before)
	}
	room[0] = 99
	if sealed[0] != 1 {
		t.Error("what Mark returned is the memory that it was given")
	}
	again := Mark(before[:3])
	again[1] = 77
	if before[1] != 2 || sealed[1] != 2 {
		t.Error("two results of Mark, or one and its argument, share memory")
	}
}

// P4.2: Strip of fewer than four bytes, whatever they are.
func TestStripShort(t *testing.T) {
	for n := range 4 {
		for _, c := range []byte{0, 1, 0xff} {
			if got, err := Strip(bytes.Repeat([]byte{c}, n)); err != api.ErrShort || len(got) != 0 {
				t.Errorf("Strip of %d bytes %d is % x, %d", n, c, got, err)
			}
		}
	}
	if got, err := Strip(nil); err != api.ErrShort || len(got) != 0 {
		t.Errorf("Strip of nil is % x, %d", got, err)
	}
}

// P4.2: Strip of what is sealed, and of what is not.
func TestStrip(t *testing.T) {
	for _, x := range []struct {
		sealed string
		want   string
		err    api.Errno
	}{
		{"\x00\x00\x00\x00", "", api.OK},
		{"\x00\x00\x00\x01", "", api.ErrSum},
		{"\x01\x00\x00\x00", "", api.ErrSum},
		{"\xff\xff\xff\xff", "", api.ErrSum},
		{"123456789\xfc\x89\x19\x18", "123456789", api.OK},
		{"123456789\x18\x19\x89\xfc", "", api.ErrSum}, // the checksum's bytes in the wrong order
		{"123456789\xfc\x89\x19", "", api.ErrSum},
		{"123456789\xfc\x89\x19\x18\x00", "", api.ErrSum},
		{"123456789\x03\x76\xe6\xe7", "", api.ErrSum}, // not inverted
		{"\x00\xb1\xf7\x40\x4b", "\x00", api.OK},
		{"\x00\x00\x00\x00\x00", "", api.ErrSum},
	} {
		got, err := Strip([]byte(x.sealed))
		if string(got) != x.want || err != x.err {
			t.Errorf("Strip of %q is %q, %d, not %q, %d", x.sealed, got, err, x.want, x.err)
		}
	}
}

// P4.2: of one slice of bytes and all sums near its own, one seals it.
func TestStripOneSum(t *testing.T) {
	for _, b := range [][]byte{nil, {7}, []byte("a row of bytes")} {
		sum := Sum(b)
		for d := range uint32(70000) {
			for _, n := range []uint32{sum + d, sum - d, sum ^ d<<16} {
				got, err := Strip(slices.Concat(b, big(n)))
				if n == sum && (err != api.OK || !bytes.Equal(got, b)) || n != sum && (err != api.ErrSum || len(got) != 0) {
					t.Fatalf("Strip of % x and %x is % x, %d", b, n, got, err)
				}
			}
		}
	}
}

// P4.2 and R3: what Strip returns is new, and its argument is unchanged.
func TestStripIsNew(t *testing.T) {
	sealed := Mark([]byte("a row of bytes"))
	before := slices.Clone(sealed)
	got, _ := Strip(sealed)
	got[0] = 'b'
	_ = append(got, 1, 2, 3, 4)
	if !bytes.Equal(sealed, before) {
		t.Errorf("what Strip returned is the memory that it was given: %q", sealed)
	}
	sealed[1] = 'c'
	if got[1] != ' ' {
		t.Errorf("what Strip returned changed: %q", got)
	}
}

// P4.3: Strip and Mark undo each other.
func TestThereAndBack(t *testing.T) {
	for _, b := range manySlices() {
		sealed := Mark(b)
		got, err := Strip(sealed)
		if err != api.OK || !bytes.Equal(got, b) {
			t.Errorf("%d bytes came back as %d bytes, %d", len(b), len(got), err)
		}
		if !bytes.Equal(Mark(got), sealed) {
			t.Errorf("%d bytes, sealed again, are not what they were", len(b))
		}
	}
}

// invert is b with the bits of burst inverted, the first of which is that at the place at; those beyond b's end are none.
func invert(b []byte, at int, burst uint32) []byte {
	l := slices.Clone(b)
	for i := range 32 {
		if place := at + i; burst>>(31-i)&1 == 1 && place < 8*len(l) {
			l[place/8] ^= 0x80 >> (place % 8)
		}
	}
	return l
}

// P4.4: bits inverted within 32 consecutive ones: single bits, pairs, all of them, and without a pattern; at all places of slices, the checksum's own among them.
func TestBursts(t *testing.T) {
	r := rand.New(rand.NewSource(4))
	bursts := []uint32{^uint32(0), 0x9823b6e0, 0x82608edb, 0xfffffffe, 0xaaaaaaaa} // each with its first bit, which is in the slice
	for i := range 32 {
		bursts = append(bursts, 1<<31|1<<i)
	}
	for _, n := range []int{0, 1, 3, 4, 5, 14, 33} {
		b := make([]byte, n)
		r.Read(b)
		sealed := Mark(b)
		for at := range 8 * len(sealed) {
			more := slices.Clone(bursts)
			for range 100 {
				more = append(more, 1<<31|r.Uint32())
			}
			for _, burst := range more {
				if got, err := Strip(invert(sealed, at, burst)); err != api.ErrSum || len(got) != 0 {
					t.Errorf("% x with %032b inverted at %d: % x, %d", sealed, burst, at, got, err)
				}
			}
		}
	}
}

// P4.4 is about 32 bits: a burst of 33 that the polynomial divides is not detected, so the polynomial is the chapter's.
func TestBurstOf33(t *testing.T) {
	for _, b := range [][]byte{[]byte("1"), []byte("a row of bytes")} {
		sealed := Mark(b)
		for at := range 8*len(sealed) - 32 {
			other := invert(invert(sealed, at, 1<<31), at+1, 0x04c11db7)
			if _, err := Strip(other); err != api.OK {
				t.Errorf("% x with the polynomial at %d: %d", sealed, at, err)
			}
		}
	}
}

// P4.5: the checksums of three slices of one length, xored.
func TestLinear(t *testing.T) {
	r := rand.New(rand.NewSource(5))
	for n := range 200 {
		a, b, c, all := make([]byte, n), make([]byte, n), make([]byte, n), make([]byte, n)
		r.Read(a)
		r.Read(b)
		r.Read(c)
		for i := range all {
			all[i] = a[i] ^ b[i] ^ c[i]
		}
		if got, want := Sum(a)^Sum(b)^Sum(c), Sum(all); got != want {
			t.Errorf("% x, % x, % x: %x, not %x", a, b, c, got, want)
		}
	}
}

// P4.5: More of three sums and the same bytes, xored.
func TestMoreLinear(t *testing.T) {
	sums := manySums()
	r := rand.New(rand.NewSource(6))
	for n := range 40 {
		b := make([]byte, n)
		r.Read(b)
		for range 200 {
			x, y, z := sums[r.Intn(len(sums))], sums[r.Intn(len(sums))], sums[r.Intn(len(sums))]
			if got, want := More(x, b)^More(y, b)^More(z, b), More(x^y^z, b); got != want {
				t.Errorf("%x, %x, %x and % x: %x, not %x", x, y, z, b, got, want)
			}
		}
	}
}

// P4.1 and R3: no call changes its argument.
func TestArgumentsAreRead(t *testing.T) {
	for _, b := range manySlices() {
		before := slices.Clone(b)
		Sum(b)
		More(1, b)
		Mark(b)
		Strip(b)
		if !bytes.Equal(b, before) {
			t.Errorf("%d bytes were changed", len(b))
		}
	}
}

// P4.1 and R7: goroutines that use the package at one time don't disturb each other.
func TestGoroutines(t *testing.T) {
	b := []byte("123456789")
	done := make(chan uint32)
	for range 8 {
		go func() {
			var got uint32
			for range 1000 {
				got = Sum(b)
			}
			done <- got
		}()
	}
	for range 8 {
		if got := <-done; got != 0xfc891918 {
			t.Errorf("Sum of 123456789 is %x", got)
		}
	}
}
