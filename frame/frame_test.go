package frame

import (
	"bytes"
	"hash/crc32"
	"math"
	"math/bits"
	"math/rand"
	"slices"
	"testing"

	"almanac/api"
)

// sealed is b and its checksum, by the library's, whose polynomial is the same, but whose bits are in the opposite order.
func sealed(b []byte) []byte {
	m := make([]byte, len(b))
	for i, c := range b {
		m[i] = bits.Reverse8(c)
	}
	sum := bits.Reverse32(crc32.ChecksumIEEE(m))
	return slices.Concat(b, []byte{byte(sum >> 24), byte(sum >> 16), byte(sum >> 8), byte(sum)})
}

// raw is what would be the encoding of a frame, by the chapter's words, of any kind and any length, be they of a frame or not.
func raw(kind byte, length int, body []byte) []byte {
	return sealed(slices.Concat([]byte{kind, byte(length >> 8), byte(length)}, body))
}

// encoded is the encodings of these frames.
func encoded(frames ...Frame) []byte {
	var b []byte
	for _, f := range frames {
		b = append(b, raw(byte(f.Kind), len(f.Body), f.Body)...)
	}
	return b
}

// kinds is frames of these kinds, each of which has a body of its own, of its offset and some more bytes.
func kinds(l ...int) []Frame {
	var frames []Frame
	for i, k := range l {
		frames = append(frames, Frame{k, append([]byte{byte(i >> 8), byte(i)}, bytes.Repeat([]byte{byte(k)}, i%5)...)})
	}
	return frames
}

// noise is n bytes without a pattern.
func noise(r *rand.Rand, n int) []byte {
	b := make([]byte, n)
	r.Read(b)
	return b
}

// someFrames is frames without a pattern.
func someFrames(r *rand.Rand) []Frame {
	var frames []Frame
	for range r.Intn(7) {
		n := r.Intn(5)
		if r.Intn(4) == 0 {
			n = r.Intn(MaxBody + 1)
		}
		frames = append(frames, Frame{1 + r.Intn(3), noise(r, n)})
	}
	return frames
}

func sameFrame(a, b Frame) bool { return a.Kind == b.Kind && bytes.Equal(a.Body, b.Body) }

func sameGroup(a, b Group) bool {
	return slices.EqualFunc(a.Ops, b.Ops, bytes.Equal) && bytes.Equal(a.Commit, b.Commit)
}

// length is how many bytes the encodings of these frames have.
func length(frames []Frame) int { return len(encoded(frames...)) }

// splits fails unless Split of b gives those frames, and their length.
func splits(t *testing.T, b []byte, want []Frame) {
	t.Helper()
	got, n := Split(b)
	if !slices.EqualFunc(got, want, sameFrame) || n != length(want) {
		t.Errorf("Split of %d bytes gives %d frames of %d bytes, not %d of %d", len(b), len(got), n, len(want), length(want))
	}
}

// groups fails unless Groups of b gives those groups, and their length.
func groups(t *testing.T, b []byte, want []Group) {
	t.Helper()
	size := 0
	for _, g := range want {
		for _, op := range g.Ops {
			size += len(op) + 7
		}
		size += len(g.Commit) + 7
	}
	got, n := Groups(b)
	if !slices.EqualFunc(got, want, sameGroup) || n != size {
		t.Errorf("Groups of %d bytes gives %d groups of %d bytes, not %d of %d", len(b), len(got), n, len(want), size)
	}
}

// modelFrames is the frames of the valid prefix of b, as the chapter tells it, without this package.
func modelFrames(b []byte) []Frame {
	var frames []Frame
	for {
		if len(b) < 7 {
			return frames
		}
		n := 256*int(b[1]) + int(b[2])
		if b[0] < 1 || b[0] > 3 || n > 2048 || n+7 > len(b) || !bytes.Equal(sealed(b[:n+3]), b[:n+7]) {
			return frames
		}
		frames = append(frames, Frame{int(b[0]), b[3 : n+3]})
		b = b[n+7:]
	}
}

// modelGroups is the groups with which frames begin: the nearest frame that is not of kind 1 ends each.
func modelGroups(frames []Frame) []Group {
	var l []Group
	for {
		n := slices.IndexFunc(frames, func(f Frame) bool { return f.Kind != 1 })
		if n < 0 || n > 256 || frames[n].Kind != 2 {
			return l
		}
		g := Group{Commit: frames[n].Body}
		for _, f := range frames[:n] {
			g.Ops = append(g.Ops, f.Body)
		}
		l, frames = append(l, g), frames[n+1:]
	}
}

// The examples of the chapter.
func TestExamples(t *testing.T) {
	if n := Size(Frame{Kind: 2}); n != 7 {
		t.Errorf("Size of kind 2 is %d", n)
	}
	if n := Size(Frame{Kind: 4}); n != 0 {
		t.Errorf("Size of kind 4 is %d", n)
	}
	two := kinds(3, 1)
	splits(t, append(encoded(two...), 1, 0), two)
	l := kinds(1, 2, 1)
	groups(t, encoded(l...), []Group{{[][]byte{l[0].Body}, l[1].Body}})
}

// The constants are those of the chapter.
func TestConstants(t *testing.T) {
	if Op != 1 || Commit != 2 || Check != 3 || MaxBody != 2048 {
		t.Errorf("%d, %d, %d, %d", Op, Commit, Check, MaxBody)
	}
}

// P9.1: Put, and Size, of frames whose encodings are known byte by byte.
func TestPutKnown(t *testing.T) {
	for _, x := range []struct {
		kind int
		body string
		want string
	}{
		{1, "", "\x01\x00\x00\x49\x43\x2e\x78"},
		{2, "", "\x02\x00\x00\x4b\x2a\xdb\xf1"},
		{3, "", "\x03\x00\x00\x4a\xf2\x77\x76"},
		{1, "a", "\x01\x00\x01a\x9e\xeb\xa2\xcf"},
		{2, "123456789", "\x02\x00\x09123456789\xe7\x3e\x31\x2e"},
	} {
		f := Frame{x.kind, []byte(x.body)}
		if got, err := Put(f); string(got) != x.want || err != api.OK {
			t.Errorf("Put of %d %q is % x, %d, not % x", x.kind, x.body, got, err, x.want)
		}
		if n := Size(f); n != len(x.want) {
			t.Errorf("Size of %d %q is %d", x.kind, x.body, n)
		}
	}
}

// P9.1: Put, and Size, of all kinds with bodies of all lengths.
func TestPut(t *testing.T) {
	body := noise(rand.New(rand.NewSource(1)), MaxBody)
	for kind := 1; kind <= 3; kind++ {
		for n := range MaxBody + 1 {
			f := Frame{kind, body[:n]}
			got, err := Put(f)
			if err != api.OK || !bytes.Equal(got, raw(byte(kind), n, f.Body)) {
				t.Fatalf("Put of kind %d with %d bytes is % x, %d", kind, n, got, err)
			}
			if size := Size(f); size != n+7 {
				t.Fatalf("Size of kind %d with %d bytes is %d", kind, n, size)
			}
			splits(t, got, []Frame{f})
		}
	}
}

// P9.1: what Put refuses: a kind that is none, ahead of a body that is too long.
func TestPutRefuses(t *testing.T) {
	lengths := []int{0, 1, MaxBody - 1, MaxBody, MaxBody + 1, MaxBody + 2, 1<<16 - 1, 1 << 16, 1<<16 + 1, 1<<16 + MaxBody}
	for _, kind := range []int{1, 2, 3, 0, 4, 5, -1, -2, 255, 256, 257, 258, 259, 1<<32 + 1, math.MinInt, math.MinInt + 1, math.MaxInt} {
		for _, n := range lengths {
			want := api.OK
			switch {
			case kind < 1 || kind > 3:
				want = api.ErrArg
			case n > 2048:
				want = api.ErrLong
			}
			f := Frame{kind, make([]byte, n)}
			got, err := Put(f)
			if err != want || err != api.OK && len(got) > 0 {
				t.Errorf("Put of kind %d with %d bytes is %d bytes, %d", kind, n, len(got), err)
			}
			if Size(f) != len(got) {
				t.Errorf("Size of kind %d with %d bytes is %d", kind, n, Size(f))
			}
		}
	}
}

// P9.1, R4: a nil body and an empty one are the same.
func TestPutNil(t *testing.T) {
	for kind := range 5 {
		a, err := Put(Frame{kind, nil})
		b, err2 := Put(Frame{kind, []byte{}})
		if !bytes.Equal(a, b) || err != err2 || Size(Frame{kind, nil}) != Size(Frame{kind, []byte{}}) {
			t.Errorf("Put of kind %d without a body is % x, %d, or % x, %d", kind, a, err, b, err2)
		}
	}
}

// R3: what Put is given stays as it is, beyond its end as well, and what it returns is new.
func TestPutIsNew(t *testing.T) {
	body := []byte("some bytes and more")
	f := Frame{1, body[:4]}
	a, _ := Put(f)
	b, _ := Put(f)
	if string(body) != "some bytes and more" {
		t.Errorf("the body became %q", body)
	}
	for i := range a {
		a[i] = '!'
	}
	if string(body) != "some bytes and more" || !bytes.Equal(b, encoded(f)) {
		t.Errorf("the body became %q, the other result % x", body, b)
	}
	body[0] = '?'
	if !bytes.Equal(b, encoded(Frame{1, []byte("some")})) {
		t.Errorf("the result became % x", b)
	}
}

// P9.2: what is nothing, and what has too few bytes for a frame.
func TestSplitShort(t *testing.T) {
	splits(t, nil, nil)
	splits(t, []byte{}, nil)
	groups(t, nil, nil)
	groups(t, []byte{}, nil)
	for n := range 7 {
		for _, c := range []byte{0, 1, 2, 3, 255} {
			splits(t, bytes.Repeat([]byte{c}, n), nil)
		}
	}
}

// P9.2: sealed slices that are not frames, because their kind or their length are none; alone, and behind a frame and ahead of one.
func TestSplitSealed(t *testing.T) {
	one := kinds(2)
	try := func(b []byte, inner []Frame) {
		t.Helper()
		splits(t, b, inner)
		splits(t, slices.Concat(encoded(one...), b, encoded(one...)), slices.Concat(one, inner, one[:len(inner)]))
	}
	for kind := range 256 {
		body := []byte("body")
		var inner []Frame
		if kind >= 1 && kind <= 3 {
			inner = []Frame{{kind, body}}
		}
		try(raw(byte(kind), len(body), body), inner)
	}
	for _, n := range []int{0, 1, 255, 256, 257, 2047, 2048, 2049, 2050, 4096, 1<<16 - 1} {
		body := bytes.Repeat([]byte{7}, n)
		var inner []Frame
		if n <= 2048 {
			inner = []Frame{{1, body}}
		}
		try(raw(1, n, body), inner)
	}
}

// P9.2: a length that is not the body's, though all bytes together are a sealed slice.
func TestSplitLength(t *testing.T) {
	body := []byte("eight by")
	for n := range 300 {
		var want []Frame
		if n == len(body) {
			want = []Frame{{1, body}}
		}
		splits(t, raw(1, n, body), want)
	}
	splits(t, sealed([]byte{1, 8, 0}), nil)
	splits(t, slices.Concat(sealed([]byte{1, 0, 8}), body), nil)
	splits(t, sealed([]byte{1, 1, 0, 'x'}), nil) // the length with the least significant byte first
}

// P9.2: checksums that are not a frame's.
func TestSplitSum(t *testing.T) {
	f := Frame{2, []byte("a row of bytes")}
	good := encoded(f)
	at := len(good) - 4
	for i := range 4 {
		for d := range 255 {
			b := slices.Clone(good)
			b[at+i] += byte(1 + d)
			splits(t, b, nil)
		}
	}
	b := slices.Clone(good)
	slices.Reverse(b[at:])
	splits(t, b, nil)
	splits(t, append(slices.Clone(good[:at]), 0, 0, 0, 0), nil)
	onlyBody := sealed(f.Body) // the checksum of the body alone
	splits(t, slices.Concat(good[:3], onlyBody), nil)
}

// R3, R7: what Split and Groups are given stays as it is, and no two bodies that they return share memory, with each other or with that.
func TestSplitIsNew(t *testing.T) {
	l := kinds(1, 1, 2, 2, 1, 2)
	b := encoded(l...)
	before := slices.Clone(b)
	first, _ := Split(b)
	again, _ := Split(b)
	g, _ := Groups(b)
	var bodies [][]byte
	for _, f := range first {
		bodies = append(bodies, f.Body)
	}
	for _, x := range g {
		bodies = append(bodies, x.Ops...)
		bodies = append(bodies, x.Commit)
	}
	for _, body := range bodies {
		for i := range body {
			body[i] ^= 0xff
		}
		_ = append(body, "more"...)
		for i := range body {
			body[i] ^= 0xff
		}
	}
	g[0].Ops = append(g[0].Ops, nil, nil)
	if !bytes.Equal(b, before) {
		t.Errorf("the argument became % x", b)
	}
	if !slices.EqualFunc(first, l, sameFrame) || !slices.EqualFunc(again, l, sameFrame) {
		t.Errorf("the frames became %v and %v", first, again)
	}
	clear(b)
	if want := modelGroups(l); !slices.EqualFunc(again, l, sameFrame) || !slices.EqualFunc(g[1:], want[1:], sameGroup) {
		t.Errorf("what was returned became %v and %v", again, g)
	}
}

// P9.2: Groups of all sequences of few frames.
func TestGroups(t *testing.T) {
	for n := range 8 {
		count := 1
		for range n {
			count *= 3
		}
		for i := range count {
			var l []int
			for range n {
				l = append(l, 1+i%3)
				i /= 3
			}
			frames := kinds(l...)
			groups(t, encoded(frames...), modelGroups(frames))
		}
	}
}

// P9.2: what the groups of some sequences are, one by one.
func TestGroupsKnown(t *testing.T) {
	for _, x := range []struct {
		kinds []int
		ops   []int // how many of them each group has
	}{
		{[]int{2}, []int{0}},
		{[]int{2, 2, 2}, []int{0, 0, 0}},
		{[]int{1}, nil},
		{[]int{3}, nil},
		{[]int{3, 2}, nil},
		{[]int{1, 3, 2}, nil},
		{[]int{1, 1, 1, 2}, []int{3}},
		{[]int{1, 2, 1, 1, 2, 1}, []int{1, 2}},
		{[]int{2, 3, 2}, []int{0}},
		{[]int{1, 2, 1, 3, 1, 2}, []int{1}},
		{[]int{1, 1, 2, 3}, []int{2}},
	} {
		frames := kinds(x.kinds...)
		var want []Group
		rest := frames
		for _, n := range x.ops {
			g := Group{Commit: rest[n].Body}
			for _, f := range rest[:n] {
				g.Ops = append(g.Ops, f.Body)
			}
			want, rest = append(want, g), rest[n+1:]
		}
		groups(t, encoded(frames...), want)
	}
}

// P9.2: a group has at most 256 frames of kind 1; behind one with more there are no groups.
func TestGroupsMany(t *testing.T) {
	for _, n := range []int{254, 255, 256, 257, 258, 511, 512, 513, 1000} {
		ops := slices.Repeat([]int{1}, n)
		for _, ahead := range [][]int{nil, {2}, {1, 2}, append(slices.Repeat([]int{1}, 256), 2)} {
			for _, behind := range [][]int{nil, {1}, {2}, {3}, {2, 2}, {2, 1, 2}, {3, 2}} {
				frames := kinds(slices.Concat(ahead, ops, behind)...)
				b := encoded(frames...)
				splits(t, b, frames)
				groups(t, b, modelGroups(frames))
			}
		}
		frames := kinds(append(ops, 2)...)
		if g, size := Groups(encoded(frames...)); (len(g) == 1) != (n <= 256) || (size > 0) != (n <= 256) || len(g) == 1 && len(g[0].Ops) != n {
			t.Errorf("a commit behind %d frames: %d groups, %d bytes", n, len(g), size)
		}
	}
}

// P9.2: frames that are whole, but not in the valid prefix, are in no group.
func TestGroupsTorn(t *testing.T) {
	l := kinds(1, 2, 1, 1, 2, 2)
	at := length(l[:3]) // of the fourth frame
	b := encoded(l...)
	b[at+3] ^= 1
	splits(t, b, l[:3])
	groups(t, b, modelGroups(l[:2]))
	b[at+3] ^= 1
	b[0] ^= 1
	groups(t, b, nil)
	groups(t, slices.Concat([]byte{0}, encoded(l...)), nil)
	groups(t, slices.Concat(encoded(l...), []byte{0}, encoded(l...)), modelGroups(l))
}

// P9.2: Split and Groups of changed encodings are what the chapter's words make of them.
func TestModel(t *testing.T) {
	r := rand.New(rand.NewSource(2))
	for range 5000 {
		b := encoded(someFrames(r)...)
		for range r.Intn(3) {
			switch at := r.Intn(len(b) + 1); r.Intn(5) {
			case 0:
				b = b[:at]
			case 1:
				b = slices.Concat(b[:at], noise(r, 1+r.Intn(4)), b[at:])
			case 2:
				b = slices.Concat(b[:at], encoded(someFrames(r)...))
			case 3:
				b = append(b, raw(byte(r.Intn(6)), r.Intn(4), noise(r, r.Intn(4)))...)
			case 4:
				if at < len(b) {
					b[at] ^= 1 << r.Intn(8)
				}
			}
		}
		want := modelFrames(b)
		splits(t, b, want)
		groups(t, b, modelGroups(want))
	}
}

// R1, P9.2: bytes without a pattern.
func TestNoise(t *testing.T) {
	r := rand.New(rand.NewSource(3))
	for range 20000 {
		b := noise(r, r.Intn(40))
		for i := range min(3, len(b)) {
			b[i] = byte(r.Intn(5) * r.Intn(2))
		}
		if len(b) >= 4 && r.Intn(2) == 0 {
			b = sealed(b[:len(b)-4])
		}
		want := modelFrames(b)
		splits(t, b, want)
		groups(t, b, modelGroups(want))
	}
}

// P9.3: frames, and bytes behind them with which no frame begins.
func TestTails(t *testing.T) {
	r := rand.New(rand.NewSource(4))
	whole := encoded(kinds(1, 2, 3)...)
	tails := [][]byte{nil, {0}, {1}, {1, 0}, {1, 0, 0}, {4}, make([]byte, 100), bytes.Repeat([]byte{255}, 5000), whole[1:], append([]byte{0}, whole...), raw(1, 2049, make([]byte, 2049)), raw(0, 0, nil), raw(4, 0, nil)}
	for range 100 {
		frames := someFrames(r)
		for _, tail := range tails {
			splits(t, append(encoded(frames...), tail...), frames)
		}
	}
}

// P9.3 and P9.4: of each prefix of encodings, those that are complete in it.
func TestPrefixes(t *testing.T) {
	r := rand.New(rand.NewSource(5))
	for _, frames := range [][]Frame{
		kinds(1, 1, 2, 2, 1, 2, 1, 1, 1, 2),
		kinds(3, 1, 2, 3),
		{{1, noise(r, MaxBody)}, {1, nil}, {2, noise(r, MaxBody-1)}, {3, noise(r, 256)}},
		kinds(append(slices.Repeat([]int{1}, 256), 2, 1)...),
	} {
		b := encoded(frames...)
		whole, end := 0, 0 // the frames that are complete, and their length
		for n := range len(b) + 1 {
			if whole < len(frames) && n == end+7+len(frames[whole].Body) {
				whole, end = whole+1, n
			}
			splits(t, b[:n], frames[:whole])
			groups(t, b[:n], modelGroups(frames[:whole]))
		}
		if whole != len(frames) {
			t.Errorf("%d frames of %d", whole, len(frames))
		}
	}
}

// P9.3: one bit inverted, but not in a length: the valid prefix ends ahead of its frame.
func TestBits(t *testing.T) {
	r := rand.New(rand.NewSource(6))
	for _, frames := range [][]Frame{
		kinds(1, 1, 2, 3, 1, 2),
		{{1, noise(r, 300)}, {2, nil}, {3, noise(r, 700)}, {1, noise(r, 1)}},
	} {
		b := encoded(frames...)
		start := 0
		for k, f := range frames {
			size := 7 + len(f.Body)
			for i := range 8 * size {
				at := start + i/8
				b[at] ^= 1 << (i % 8)
				want := modelFrames(b)
				if i/8 != 1 && i/8 != 2 && len(want) != k {
					t.Fatalf("the model has %d frames, not %d", len(want), k)
				}
				splits(t, b, want)
				groups(t, b, modelGroups(want))
				b[at] ^= 1 << (i % 8)
			}
			start += size
		}
	}
}

// P9.1 to P9.4: as much as a disk holds, there and back.
func TestDiskful(t *testing.T) {
	r := rand.New(rand.NewSource(7))
	var b []byte
	var frames []Frame
	for {
		f := Frame{1 + r.Intn(20)/19, noise(r, r.Intn(40))}
		if len(b)+Size(f) > api.MaxBytes {
			break
		}
		e, err := Put(f)
		if err != api.OK {
			t.Fatal(err)
		}
		b, frames = append(b, e...), append(frames, f)
	}
	splits(t, b, frames)
	groups(t, b, modelGroups(frames))
}
