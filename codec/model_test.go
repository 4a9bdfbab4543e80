package codec

import (
	"math"
	"math/big"
	"math/rand"
	"slices"
	"strings"

	"almanac/api"
	"almanac/value"
)

// This file is the chapter once more, without the package and those below it: which things are valid, what their encodings are, and what bytes encode.

const allOfAWord = "abcdefghijklmnopqrstuvwxyz0123456789_"

func modelWord(s string) bool {
	if len(s) < 1 || len(s) > 16 || strings.IndexByte(allOfAWord, s[0]) >= 26 {
		return false
	}
	return strings.Trim(s, allOfAWord) == ""
}

// filled is the names of the fields of v that are not zero. The NaN has bits of its own, and so has -0.
func filledValue(v api.Value) []string {
	var l []string
	if v.Bool {
		l = append(l, "bool")
	}
	if v.Num != 0 {
		l = append(l, "num")
	}
	if math.Float64bits(v.Float) != 0 {
		l = append(l, "float")
	}
	if v.Str != "" {
		l = append(l, "str")
	}
	return l
}

func filledOp(o api.Op) []string {
	var l []string
	if o.Label != "" {
		l = append(l, "label")
	}
	if o.From != 0 {
		l = append(l, "from")
	}
	if o.To != 0 {
		l = append(l, "to")
	}
	if o.Key != "" {
		l = append(l, "key")
	}
	if o.Value.Kind != 0 || len(filledValue(o.Value)) > 0 {
		l = append(l, "value")
	}
	return l
}

// within tells whether l has no names but those.
func within(l []string, names string) bool {
	return !slices.ContainsFunc(l, func(s string) bool { return !slices.Contains(strings.Fields(names), s) })
}

func modelMayValue(v api.Value) bool {
	if v.Kind < 0 || v.Kind > 6 {
		return false
	}
	uses := []string{"", "bool", "num", "float", "str", "num", "num"}
	if !within(filledValue(v), uses[v.Kind]) {
		return false
	}
	nan := math.IsNaN(v.Float) && math.Float64bits(v.Float) != 0x7ff8000000000001
	id := v.Kind < 5 || v.Num > 0 && v.Num <= 1<<40
	return !nan && id && len(v.Str) <= 32
}

func modelMayOp(o api.Op) bool {
	if o.Kind < 1 || o.Kind > 5 {
		return false
	}
	uses := []string{1: "label", 2: "label from to", 3: "", 4: "", 5: "key value"}
	id := func(n uint64) bool { return n > 0 && n <= 1<<40 }
	if !within(filledOp(o), uses[o.Kind]) || !id(o.Id) || o.Period.From >= o.Period.To || o.Period.To > 1<<40 {
		return false
	}
	if o.Label != "" && !modelWord(o.Label) {
		return false
	}
	switch o.Kind {
	case 1:
		return !o.Edge
	case 2:
		return o.Edge && id(o.From) && id(o.To)
	case 5:
		return modelWord(o.Key) && modelMayValue(o.Value) && o.Value.Kind < 5
	}
	return true
}

func modelMayBatch(x api.Batch) bool {
	for _, o := range x.Ops {
		if !modelMayOp(o) {
			return false
		}
	}
	return x.Number > 0 && x.Number <= 1<<30 && x.Stamp < 1<<40 && len(x.Ops) > 0 && len(x.Ops) <= 256
}

func bytesOfNum(n uint64) []byte {
	d := new(big.Int).SetUint64(n).Bytes()
	return append([]byte{byte(len(d))}, d...)
}

func bytesOfInt(n int64) []byte {
	if n >= 0 {
		b := bytesOfNum(uint64(n))
		b[0] += 16
		return b
	}
	b := bytesOfNum(uint64(-(n + 1)))
	b[0] = 15 - b[0]
	for i := range b[1:] {
		b[1+i] ^= 255
	}
	return b
}

func bytesOfFloat(f float64) []byte {
	n := math.Float64bits(f)
	if n>>63 == 0 {
		n ^= 1 << 63
	} else {
		n ^= math.MaxUint64
	}
	var b []byte
	for i := range 8 {
		b = append(b, byte(n>>(56-8*i)))
	}
	return b
}

func bytesOfText(s string) []byte {
	return []byte(strings.ReplaceAll(s, "\x00", "\x00\xff") + "\x00\x00")
}

func bytesOfBool(b bool) []byte {
	if b {
		return []byte{1}
	}
	return []byte{0}
}

// modelValue is what the encoding of v would be, were it valid.
func modelValue(v api.Value) []byte {
	b := []byte{byte(v.Kind)}
	switch v.Kind {
	case 1:
		return append(b, bytesOfBool(v.Bool)...)
	case 2:
		return append(b, bytesOfInt(v.Num)...)
	case 3:
		return append(b, bytesOfFloat(v.Float)...)
	case 4:
		return append(b, bytesOfText(v.Str)...)
	case 5, 6:
		return append(b, bytesOfNum(uint64(v.Num))...)
	}
	return b
}

// modelOp is what the encoding of o would be, were it valid.
func modelOp(o api.Op) []byte {
	l := [][]byte{{byte(o.Kind)}, bytesOfBool(o.Edge), bytesOfNum(o.Id)}
	switch o.Kind {
	case 1:
		l = append(l, bytesOfText(o.Label))
	case 2:
		l = append(l, bytesOfText(o.Label), bytesOfNum(o.From), bytesOfNum(o.To))
	case 5:
		l = append(l, bytesOfText(o.Key), modelValue(o.Value))
	}
	return slices.Concat(append(l, bytesOfNum(o.Period.From), bytesOfNum(o.Period.To))...)
}

// modelBatch is what the encoding of x would be, were it valid.
func modelBatch(x api.Batch) []byte {
	b := slices.Concat(bytesOfNum(x.Number), bytesOfNum(x.Stamp), bytesOfNum(uint64(len(x.Ops))))
	for _, o := range x.Ops {
		b = append(b, modelOp(o)...)
	}
	return b
}

// scan reads loosely what might be an encoding: whoever asks encodes what was read, and sees whether these are the same bytes.
type scan struct{ b []byte }

func (s *scan) bytes(n int) []byte {
	b := make([]byte, n)
	s.b = s.b[copy(b, s.b):]
	return b
}

func (s *scan) byte() byte { return s.bytes(1)[0] }

func (s *scan) digits(n int, flip byte) uint64 {
	var x uint64
	for _, c := range s.bytes(min(max(n, 0), 8)) {
		x = x<<8 | uint64(c^flip)
	}
	return x
}

func (s *scan) num() uint64 { return s.digits(int(s.byte()), 0) }

func (s *scan) int() int64 {
	if head := int(s.byte()); head > 15 {
		return int64(s.digits(head-16, 0))
	} else {
		return -1 - int64(s.digits(15-head, 255))
	}
}

func (s *scan) text() string {
	var b []byte
	for len(s.b) > 1 && (s.b[0] != 0 || s.b[1] != 0) {
		if b = append(b, s.byte()); b[len(b)-1] == 0 {
			s.byte()
		}
	}
	s.bytes(2)
	return string(b)
}

func (s *scan) value() api.Value {
	v := api.Value{Kind: int(s.byte())}
	switch v.Kind {
	case 1:
		v.Bool = s.byte() == 1
	case 2:
		v.Num = s.int()
	case 3:
		if n := s.digits(8, 0); n>>63 == 1 {
			v.Float = math.Float64frombits(n ^ 1<<63)
		} else {
			v.Float = math.Float64frombits(^n)
		}
	case 4:
		v.Str = s.text()
	case 5, 6:
		v.Num = int64(s.num())
	}
	return v
}

func (s *scan) op() api.Op {
	o := api.Op{Kind: int(s.byte()), Edge: s.byte() == 1, Id: s.num()}
	switch o.Kind {
	case 1:
		o.Label = s.text()
	case 2:
		o.Label, o.From, o.To = s.text(), s.num(), s.num()
	case 5:
		o.Key, o.Value = s.text(), s.value()
	}
	o.Period = api.Period{From: s.num(), To: s.num()}
	return o
}

func (s *scan) batch() api.Batch {
	x := api.Batch{Number: s.num(), Stamp: s.num()}
	for range min(s.num(), 300) {
		x.Ops = append(x.Ops, s.op())
	}
	return x
}

// A thing without a pattern is valid, and its numbers are near the ends of what they may be more often than not.

func someNum(r *rand.Rand, least, most uint64) uint64 {
	switch r.Intn(5) {
	case 0:
		return least
	case 1:
		return most
	case 2:
		return min(most, least+uint64(r.Intn(600)))
	}
	return max(least, r.Uint64()%(most+1)>>r.Intn(40))
}

func someWord(r *rand.Rand) string {
	b := []byte{allOfAWord[r.Intn(26)]}
	for range r.Intn(16) {
		b = append(b, allOfAWord[r.Intn(len(allOfAWord))])
	}
	return string(b)
}

func someLabel(r *rand.Rand) string {
	if r.Intn(3) == 0 {
		return ""
	}
	return someWord(r)
}

func someValue(r *rand.Rand, kinds int) api.Value {
	switch kind := r.Intn(kinds); kind {
	case 1:
		return value.Truth(r.Intn(2) == 0)
	case 2:
		return value.Number(int64(r.Uint64()) >> r.Intn(64))
	case 3:
		l := []float64{0, math.Copysign(0, -1), 1, -1, math.Inf(1), math.Inf(-1), math.NaN(), r.NormFloat64(), math.Float64frombits(r.Uint64())}
		return value.Point(l[r.Intn(len(l))])
	case 4:
		b := make([]byte, r.Intn(33))
		r.Read(b)
		for i := range b {
			if r.Intn(4) == 0 {
				b[i] = byte(r.Intn(2)) * 255
			}
		}
		return value.Word(string(b))
	case 5, 6:
		return api.Value{Kind: kind, Num: int64(someNum(r, 1, 1<<40))}
	}
	return api.Value{}
}

func someOp(r *rand.Rand) api.Op {
	id := func() uint64 { return someNum(r, 1, 1<<40) }
	o := api.Op{Kind: 1 + r.Intn(5), Edge: r.Intn(2) == 0, Id: id()}
	switch o.Kind {
	case 1:
		o.Edge, o.Label = false, someLabel(r)
	case 2:
		o.Edge, o.Label, o.From, o.To = true, someLabel(r), id(), id()
	case 5:
		o.Key, o.Value = someWord(r), someValue(r, 5)
	}
	o.Period.From = someNum(r, 0, 1<<40-1)
	o.Period.To = someNum(r, o.Period.From+1, 1<<40)
	return o
}

func someBatch(r *rand.Rand) api.Batch {
	x := api.Batch{Number: someNum(r, 1, 1<<30), Stamp: someNum(r, 0, 1<<40-1)}
	for range 1 + r.Intn(4) {
		x.Ops = append(x.Ops, someOp(r))
	}
	return x
}
