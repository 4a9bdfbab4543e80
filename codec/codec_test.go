package codec

import (
	"bytes"
	"encoding/hex"
	"maps"
	"math"
	"math/rand"
	"slices"
	"strings"
	"testing"

	"almanac/api"
	"almanac/value"
)

// unhex is the bytes that s writes in base 16, with spaces anywhere.
func unhex(s string) []byte {
	b, err := hex.DecodeString(strings.ReplaceAll(s, " ", ""))
	if err != nil {
		panic(err)
	}
	return b
}

func node(n int64) api.Value { return api.Value{Kind: api.Node, Num: n} }

func edge(n int64) api.Value { return api.Value{Kind: api.Edge, Num: n} }

func per(from, to uint64) api.Period { return api.Period{From: from, To: to} }

// identical tells whether a and b agree in all fields, bit by bit.
func identical(a, b api.Op) bool {
	v, w := a.Value, b.Value
	same := v.Kind == w.Kind && v.Bool == w.Bool && v.Num == w.Num && v.Str == w.Str && math.Float64bits(v.Float) == math.Float64bits(w.Float)
	a.Value, b.Value = api.Value{}, api.Value{}
	return same && a == b
}

func identicalValues(a, b api.Value) bool { return identical(api.Op{Value: a}, api.Op{Value: b}) }

func identicalBatches(a, b api.Batch) bool {
	return a.Number == b.Number && a.Stamp == b.Stamp && slices.EqualFunc(a.Ops, b.Ops, identical)
}

// checkValue fails unless PutValue gives what the model does.
func checkValue(t *testing.T, v api.Value) {
	t.Helper()
	b, err := PutValue(v)
	if !modelMayValue(v) {
		if err != api.ErrArg || len(b) > 0 {
			t.Errorf("PutValue of %v, which is not valid, is % x, %d", v, b, err)
		}
		return
	}
	if err != api.OK || !bytes.Equal(b, modelValue(v)) {
		t.Errorf("PutValue of %v is % x, %d, not % x", v, b, err, modelValue(v))
	}
	if w, err := TakeValue(b); err != api.OK || !identicalValues(v, w) {
		t.Errorf("TakeValue of % x is %v, %d, not %v", b, w, err, v)
	}
}

// checkOp fails unless MayOp and PutOp give what the model does.
func checkOp(t *testing.T, o api.Op) {
	t.Helper()
	may := modelMayOp(o)
	if MayOp(o) != may {
		t.Errorf("MayOp of %+v is %v", o, !may)
	}
	b, err := PutOp(o)
	if !may {
		if err != api.ErrArg || len(b) > 0 {
			t.Errorf("PutOp of %+v, which is not valid, is % x, %d", o, b, err)
		}
		return
	}
	if err != api.OK || !bytes.Equal(b, modelOp(o)) {
		t.Errorf("PutOp of %+v is % x, %d, not % x", o, b, err, modelOp(o))
	}
	if p, err := TakeOp(b); err != api.OK || !identical(o, p) {
		t.Errorf("TakeOp of % x is %+v, %d, not %+v", b, p, err, o)
	}
}

// checkBatch fails unless MayBatch and PutBatch give what the model does.
func checkBatch(t *testing.T, x api.Batch) {
	t.Helper()
	may := modelMayBatch(x)
	if MayBatch(x) != may {
		t.Errorf("MayBatch of %+v is %v", x, !may)
	}
	b, err := PutBatch(x)
	if !may {
		if err != api.ErrArg || len(b) > 0 {
			t.Errorf("PutBatch of %+v, which is not valid, is % x, %d", x, b, err)
		}
		return
	}
	if err != api.OK || !bytes.Equal(b, modelBatch(x)) {
		t.Errorf("PutBatch of %+v is % x, %d, not % x", x, b, err, modelBatch(x))
	}
	if y, err := TakeBatch(b); err != api.OK || !identicalBatches(x, y) {
		t.Errorf("TakeBatch of % x is %+v, %d, not %+v", b, y, err, x)
	}
}

// checkBytes fails unless the three that decode give what the model does.
func checkBytes(t *testing.T, b []byte) {
	t.Helper()
	wantV := (&scan{b}).value()
	v, err := TakeValue(b)
	if !modelMayValue(wantV) || !bytes.Equal(modelValue(wantV), b) {
		if err != api.ErrForm || !identicalValues(v, api.Value{}) {
			t.Errorf("TakeValue of % x, which is none, is %v, %d", b, v, err)
		}
	} else if err != api.OK || !identicalValues(v, wantV) {
		t.Errorf("TakeValue of % x is %v, %d, not %v", b, v, err, wantV)
	}
	wantO := (&scan{b}).op()
	o, err := TakeOp(b)
	if !modelMayOp(wantO) || !bytes.Equal(modelOp(wantO), b) {
		if err != api.ErrForm || !identical(o, api.Op{}) {
			t.Errorf("TakeOp of % x, which is none, is %+v, %d", b, o, err)
		}
	} else if err != api.OK || !identical(o, wantO) {
		t.Errorf("TakeOp of % x is %+v, %d, not %+v", b, o, err, wantO)
	}
	wantX := (&scan{b}).batch()
	x, err := TakeBatch(b)
	if !modelMayBatch(wantX) || !bytes.Equal(modelBatch(wantX), b) {
		if err != api.ErrForm || !identicalBatches(x, api.Batch{}) {
			t.Errorf("TakeBatch of % x, which is none, is %+v, %d", b, x, err)
		}
	} else if err != api.OK || !identicalBatches(x, wantX) {
		t.Errorf("TakeBatch of % x is %+v, %d, not %+v", b, x, err, wantX)
	}
}

// The examples of the chapter, and further values whose encodings are known byte by byte.
func TestValuesKnown(t *testing.T) {
	for _, x := range []struct {
		v    api.Value
		want string
	}{
		{api.Value{}, "00"},
		{value.Truth(true), "01 01"},
		{value.Truth(false), "01 00"},
		{value.Number(5), "02 11 05"},
		{value.Number(0), "02 10"},
		{value.Number(-1), "02 0f"},
		{value.Number(-257), "02 0d fe ff"},
		{value.Number(math.MinInt64), "02 07 80 00 00 00 00 00 00 00"},
		{value.Number(math.MaxInt64), "02 18 7f ff ff ff ff ff ff ff"},
		{value.Point(1), "03 bf f0 00 00 00 00 00 00"},
		{value.Point(math.Copysign(0, -1)), "03 7f ff ff ff ff ff ff ff"},
		{value.Point(math.NaN()), "03 ff f8 00 00 00 00 00 01"},
		{value.Point(math.Inf(-1)), "03 00 0f ff ff ff ff ff ff"},
		{value.Word("a"), "04 61 00 00"},
		{value.Word(""), "04 00 00"},
		{value.Word("a\x00b"), "04 61 00 ff 62 00 00"},
		{node(7), "05 01 07"},
		{edge(1 << 40), "06 06 01 00 00 00 00 00"},
	} {
		b, err := PutValue(x.v)
		if err != api.OK || !bytes.Equal(b, unhex(x.want)) {
			t.Errorf("PutValue of %v is % x, %d, not %s", x.v, b, err, x.want)
		}
		v, err := TakeValue(unhex(x.want))
		if err != api.OK || !identicalValues(v, x.v) {
			t.Errorf("TakeValue of %s is %v, %d, not %v", x.want, v, err, x.v)
		}
		checkValue(t, x.v)
	}
}

// knownOps is operations, and their encodings, byte by byte.
func knownOps() map[string]api.Op {
	return map[string]api.Op{
		"04 00 01 03 01 01 02 01 00":                                  {Kind: api.OpDrop, Id: 3, Period: per(1, 256)},
		"04 01 01 03 01 01 02 01 00":                                  {Kind: api.OpDrop, Edge: true, Id: 3, Period: per(1, 256)},
		"03 00 01 01 00 06 01 00 00 00 00 00":                         {Kind: api.OpKeep, Id: 1, Period: per(0, api.Forever)},
		"03 01 02 01 00 00 01 01":                                     {Kind: api.OpKeep, Edge: true, Id: 256, Period: per(0, 1)},
		"01 00 01 02 6e 00 00 00 01 09":                               {Kind: api.OpNode, Id: 2, Label: "n", Period: per(0, 9)},
		"01 00 01 02 00 00 00 01 09":                                  {Kind: api.OpNode, Id: 2, Period: per(0, 9)},
		"02 01 01 05 6b 5f 31 00 00 01 01 01 02 00 01 09":             {Kind: api.OpEdge, Edge: true, Id: 5, Label: "k_1", From: 1, To: 2, Period: per(0, 9)},
		"02 01 01 05 00 00 01 02 01 02 00 01 09":                      {Kind: api.OpEdge, Edge: true, Id: 5, From: 2, To: 2, Period: per(0, 9)},
		"05 00 01 01 6b 00 00 00 01 02 01 03":                         {Kind: api.OpSet, Id: 1, Key: "k", Period: per(2, 3)},
		"05 01 01 01 6b 00 00 02 11 05 01 02 01 03":                   {Kind: api.OpSet, Edge: true, Id: 1, Key: "k", Value: value.Number(5), Period: per(2, 3)},
		"05 00 01 01 6b 00 00 04 78 00 00 01 02 01 03":                {Kind: api.OpSet, Id: 1, Key: "k", Value: value.Word("x"), Period: per(2, 3)},
		"05 00 01 01 6b 00 00 01 00 01 02 01 03":                      {Kind: api.OpSet, Id: 1, Key: "k", Value: value.Truth(false), Period: per(2, 3)},
		"05 00 01 01 6b 00 00 03 c0 00 00 00 00 00 00 00 01 02 01 03": {Kind: api.OpSet, Id: 1, Key: "k", Value: value.Point(2), Period: per(2, 3)},
	}
}

// The example of the chapter, and further operations whose encodings are known byte by byte.
func TestOpsKnown(t *testing.T) {
	for want, o := range knownOps() {
		b, err := PutOp(o)
		if err != api.OK || !bytes.Equal(b, unhex(want)) {
			t.Errorf("PutOp of %+v is % x, %d, not %s", o, b, err, want)
		}
		p, err := TakeOp(unhex(want))
		if err != api.OK || !identical(o, p) {
			t.Errorf("TakeOp of %s is %+v, %d, not %+v", want, p, err, o)
		}
		checkOp(t, o)
	}
}

// Batches whose encodings are known byte by byte.
func TestBatchesKnown(t *testing.T) {
	drop := api.Op{Kind: api.OpDrop, Id: 3, Period: per(1, 256)}
	node := api.Op{Kind: api.OpNode, Id: 2, Label: "n", Period: per(0, 9)}
	for _, x := range []struct {
		x    api.Batch
		want string
	}{
		{api.Batch{Number: 1, Ops: []api.Op{drop}}, "01 01  00  01 01  04 00 01 03 01 01 02 01 00"},
		{api.Batch{Number: 256, Stamp: 9, Ops: []api.Op{node, drop}}, "02 01 00  01 09  01 02  01 00 01 02 6e 00 00 00 01 09  04 00 01 03 01 01 02 01 00"},
		{api.Batch{Number: 1 << 30, Stamp: 1<<40 - 1, Ops: []api.Op{node}}, "04 40 00 00 00  05 ff ff ff ff ff  01 01  01 00 01 02 6e 00 00 00 01 09"},
		{api.Batch{Number: 2, Stamp: 1, Ops: slices.Repeat([]api.Op{drop}, 256)}, "01 02  01 01  02 01 00 " + strings.Repeat("04 00 01 03 01 01 02 01 00", 256)},
	} {
		b, err := PutBatch(x.x)
		if err != api.OK || !bytes.Equal(b, unhex(x.want)) {
			t.Errorf("PutBatch of %+v is % x, %d, not %s", x.x, b, err, x.want)
		}
		y, err := TakeBatch(unhex(x.want))
		if err != api.OK || !identicalBatches(x.x, y) {
			t.Errorf("TakeBatch of %s is %+v, %d, not %+v", x.want, y, err, x.x)
		}
	}
}

// P10.1: words of all lengths, with every byte at every place.
func TestWord(t *testing.T) {
	for n := range 40 {
		s := []byte(strings.Repeat("z_9a", 10)[:n])
		for i := range s {
			old := s[i]
			for c := range 256 {
				s[i] = byte(c)
				if got, want := Word(string(s)), modelWord(string(s)); got != want {
					t.Errorf("Word of %q is %v", s, got)
				}
			}
			s[i] = old
		}
	}
	for _, s := range []string{"a", "z", "a0", "z9", "a_", "abcdefghijklmnop", "q_______________"} {
		if !Word(s) {
			t.Errorf("Word of %q is false", s)
		}
	}
	for _, s := range []string{"", "_", "0", "9a", "_a", "A", "aB", "a b", "a-b", "a ", " a", "a\x00", "abcdefghijklmnopq", "\u00e4", "a\u00e4", "a\u0660", "a\xff", "`", "{", "a/", "a:", "a^", "a`", "a{"} {
		if Word(s) {
			t.Errorf("Word of %q is true", s)
		}
	}
}

// someOps is operations of each kind.
func someOps() []api.Op {
	known := knownOps()
	var l []api.Op
	for _, text := range slices.Sorted(maps.Keys(known)) {
		l = append(l, known[text])
	}
	return l
}

// wrongOps is operations that differ in one field from o, at the ends of what the field may be and beyond.
func wrongOps(o api.Op) []api.Op {
	l := []api.Op{o}
	add := func(change func(o *api.Op)) {
		p := o
		change(&p)
		l = append(l, p)
	}
	for _, n := range []int{-1, 0, 1, 2, 3, 4, 5, 6, 7, 255, 256, 257, 261, math.MinInt, math.MaxInt} {
		add(func(o *api.Op) { o.Kind = n })
		add(func(o *api.Op) { o.Value.Kind = n })
	}
	add(func(o *api.Op) { o.Edge = !o.Edge })
	for _, n := range []uint64{0, 1, 2, 9, 1<<40 - 1, 1 << 40, 1<<40 + 1, 1 << 63, math.MaxUint64} {
		add(func(o *api.Op) { o.Id = n })
		add(func(o *api.Op) { o.From = n })
		add(func(o *api.Op) { o.To = n })
		add(func(o *api.Op) { o.From, o.To = n, n })
		add(func(o *api.Op) { o.Period.From = n })
		add(func(o *api.Op) { o.Period.To = n })
		add(func(o *api.Op) { o.Value.Num = int64(n) })
	}
	for _, s := range []string{"", "a", "A", "_", "abcdefghijklmnop", "abcdefghijklmnopq", strings.Repeat("a", 32), strings.Repeat("a", 33), "a\x00"} {
		add(func(o *api.Op) { o.Label = s })
		add(func(o *api.Op) { o.Key = s })
		add(func(o *api.Op) { o.Value.Str = s })
		add(func(o *api.Op) { o.Value = value.Word(s) })
	}
	for _, f := range []float64{0, math.Copysign(0, -1), 1, math.Inf(1), math.NaN(), math.Float64frombits(0x7ff8000000000000), math.Float64frombits(0x7ff8000000000001), math.Float64frombits(0xfff8000000000000)} {
		add(func(o *api.Op) { o.Value.Float = f })
		add(func(o *api.Op) { o.Value = api.Value{Kind: api.Float, Float: f} })
	}
	add(func(o *api.Op) { o.Value.Bool = !o.Value.Bool })
	for _, v := range []api.Value{node(1), edge(1), node(0), value.Truth(true), value.Number(-7)} {
		add(func(o *api.Op) { o.Value = v })
	}
	return l
}

// P10.1, P10.2, P10.3: operations that are valid but for one field, or two, or are valid with it.
func TestOpFields(t *testing.T) {
	for _, o := range someOps() {
		for _, p := range wrongOps(o) {
			checkOp(t, p)
			for _, q := range wrongOps(p) {
				checkOp(t, q)
			}
		}
	}
	checkOp(t, api.Op{})
}

// P10.2, P10.3: values that are valid but for one field.
func TestValueFields(t *testing.T) {
	for _, o := range someOps() {
		for _, p := range wrongOps(o) {
			for _, q := range wrongOps(p) {
				checkValue(t, q.Value)
			}
		}
	}
}

// P10.1, P10.2, P10.3: batches whose number, stamp, or operations are at the ends of what they may be, and beyond.
func TestBatchFields(t *testing.T) {
	one := api.Op{Kind: api.OpKeep, Id: 1, Period: per(2, 3)}
	for _, number := range []uint64{0, 1, 2, 1<<30 - 1, 1 << 30, 1<<30 + 1, 1 << 40, 1 << 63, math.MaxUint64} {
		for _, stamp := range []uint64{0, 1, 1<<40 - 1, 1 << 40, 1<<40 + 1, 1 << 63, math.MaxUint64} {
			for _, n := range []int{0, 1, 2, 255, 256, 257, 512} {
				checkBatch(t, api.Batch{Number: number, Stamp: stamp, Ops: slices.Repeat([]api.Op{one}, n)})
			}
		}
	}
	for _, n := range []int{1, 2, 256} {
		for _, at := range []int{0, n / 2, n - 1} {
			ops := slices.Repeat([]api.Op{one}, n)
			for _, o := range wrongOps(one) {
				ops[at] = o
				checkBatch(t, api.Batch{Number: 1, Ops: ops})
			}
		}
	}
}

// R4: no operations are the same, be they nil or empty.
func TestNoOps(t *testing.T) {
	none, empty := api.Batch{Number: 1}, api.Batch{Number: 1, Ops: []api.Op{}}
	checkBatch(t, none)
	checkBatch(t, empty)
	if !SameBatch(none, empty) || !SameBatch(empty, none) {
		t.Error("nil and empty operations are not the same")
	}
}

// P10.1: SameOp of operations, valid or not, that differ in one field or in none.
func TestSameOp(t *testing.T) {
	for _, o := range someOps() {
		l := wrongOps(o)
		for i, p := range l {
			if !SameOp(p, p) {
				t.Errorf("%+v is not the same as itself", p)
			}
			for _, q := range l[:i] {
				if SameOp(p, q) != SameOp(q, p) {
					t.Errorf("SameOp of %+v and %+v hangs on their order", p, q)
				}
				if modelMayValue(p.Value) && modelMayValue(q.Value) && SameOp(p, q) != identical(p, q) {
					t.Errorf("SameOp of %+v and %+v is %v", p, q, SameOp(p, q))
				}
			}
		}
	}
}

// P10.1: SameOp tells values of the same number, but of other kinds, or with other bits, from each other.
func TestSameOpValues(t *testing.T) {
	l := []api.Value{
		{}, value.Truth(false), value.Truth(true), value.Number(0), value.Number(1), value.Point(0), value.Point(math.Copysign(0, -1)),
		value.Point(1), value.Point(math.NaN()), value.Word(""), value.Word("1"), node(1), edge(1), node(2), edge(2),
	}
	for i, v := range l {
		for k, w := range l {
			a := api.Op{Kind: api.OpSet, Id: 1, Key: "k", Value: v, Period: per(0, 1)}
			b := a
			b.Value = w
			if SameOp(a, b) != (i == k) {
				t.Errorf("SameOp with %v and %v is %v", v, w, i != k)
			}
			x, y := api.Batch{Ops: []api.Op{a, b}}, api.Batch{Ops: []api.Op{a, a}}
			if SameBatch(x, y) != (i == k) {
				t.Errorf("SameBatch with %v and %v is %v", v, w, i != k)
			}
		}
	}
}

// P10.1: SameBatch of batches, valid or not, that differ in one field or in none.
func TestSameBatch(t *testing.T) {
	o, p := api.Op{Kind: 1, Id: 1}, api.Op{Kind: 1, Id: 2}
	l := []api.Batch{
		{}, {Number: 1}, {Stamp: 1}, {Number: 1, Stamp: 1}, {Number: math.MaxUint64}, {Stamp: math.MaxUint64},
		{Ops: []api.Op{o}}, {Ops: []api.Op{p}}, {Ops: []api.Op{o, p}}, {Ops: []api.Op{p, o}}, {Ops: []api.Op{o, o}}, {Ops: []api.Op{{}}}, {Ops: make([]api.Op, 300)},
		{Number: 1, Ops: []api.Op{o}},
	}
	for i, x := range l {
		for k, y := range l {
			y.Ops = slices.Clone(y.Ops)
			if SameBatch(x, y) != (i == k) {
				t.Errorf("SameBatch of %+v and %+v is %v", x, y, i != k)
			}
		}
	}
}

// P10.2, P10.3, P10.4: things without a pattern, there and back.
func TestMany(t *testing.T) {
	r := rand.New(rand.NewSource(10))
	for range 20000 {
		v, o := someValue(r, 7), someOp(r)
		if !modelMayValue(v) || !modelMayOp(o) {
			t.Fatalf("%v or %+v is not valid", v, o)
		}
		checkValue(t, v)
		checkOp(t, o)
	}
	for range 3000 {
		checkBatch(t, someBatch(r))
	}
}

// P10.3: the examples of the chapter, and other bytes that encode nothing.
func TestTakeRefuses(t *testing.T) {
	for _, s := range []string{
		"", "01 02", "00 00", "01", "01 01 00", "01 ff", "02", "02 11 00", "02 12 00 05", "02 19 01", "02 0e ff", "02 18 80 00 00 00 00 00 00 00",
		"03 bf f0 00 00 00 00 00", "03 ff f8 00 00 00 00 00 00", "03 00 07 ff ff ff ff ff ff", "04", "04 61", "04 61 00", "04 61 00 01", "04 61 00 00 00",
		"04" + strings.Repeat("61", 33) + "00 00", "05", "05 00", "05 01 00", "05 02 00 01", "05 06 01 00 00 00 00 01", "06 00", "06 08 ff ff ff ff ff ff ff ff",
		"05 08 80 00 00 00 00 00 00 01", "07", "07 00", "08 01", "ff",
	} {
		if v, err := TakeValue(unhex(s)); err != api.ErrForm || !identicalValues(v, api.Value{}) {
			t.Errorf("TakeValue of %s is %v, %d", s, v, err)
		}
		checkBytes(t, unhex(s))
	}
	for _, s := range []string{
		"", "04", "04 00", "04 02 01 03 01 01 02 01 00", "04 00 00 01 01 02 01 00", "04 00 01 03 01 01 01 01", "04 00 01 03 01 02 01 01", "04 00 01 03 01 01 02 01 00 00",
		"04 00 01 03 01 01 06 01 00 00 00 00 01", "04 00 06 01 00 00 00 00 01 01 01 01 02", "00 00 01 03 01 01 02 01 00", "06 00 01 03 01 01 02 01 00",
		"01 01 01 02 6e 00 00 00 01 09", "01 00 01 02 4e 00 00 00 01 09", "01 00 01 02 5f 00 00 00 01 09", "01 00 01 02 6e 00 ff 00 00 00 01 09",
		"01 00 01 02" + strings.Repeat("6e", 17) + "00 00 00 01 09", "02 00 01 05 00 00 01 02 01 02 00 01 09", "02 01 01 05 00 00 00 01 02 00 01 09", "02 01 01 05 00 00 01 02 00 00 01 09",
		"05 00 01 01 00 00 00 01 02 01 03", "05 00 01 01 6b 00 00 05 01 01 01 02 01 03", "05 00 01 01 6b 00 00 06 01 01 01 02 01 03", "05 00 01 01 6b 00 00 07 01 02 01 03",
		"05 00 01 01 6b 00 00 01 02 01 02 01 03", "05 00 01 01 6b 00 00 01 02 01 03",
	} {
		if o, err := TakeOp(unhex(s)); err != api.ErrForm || !identical(o, api.Op{}) {
			t.Errorf("TakeOp of %s is %+v, %d", s, o, err)
		}
		checkBytes(t, unhex(s))
	}
	drop := "04 00 01 03 01 01 02 01 00"
	for _, s := range []string{
		"", "01 01", "01 01 00", "01 01 00 00", "01 01 00 01 01", "00 00 01 01" + drop, "04 40 00 00 01 00 01 01" + drop, "01 01 06 01 00 00 00 00 00 01 01" + drop,
		"01 01 00 01 02" + drop, "01 01 00 01 01" + drop + drop, "01 01 00 01 01" + drop + "00", "01 01 00 02 01 01" + strings.Repeat(drop, 257),
		"01 01 00 08 ff ff ff ff ff ff ff ff" + drop, "01 01 00 02 00 01" + drop,
	} {
		if x, err := TakeBatch(unhex(s)); err != api.ErrForm || !identicalBatches(x, api.Batch{}) {
			t.Errorf("TakeBatch of %s is %+v, %d", s, x, err)
		}
		checkBytes(t, unhex(s))
	}
}

// P10.3: all byte slices of at most three bytes.
func TestTakeShort(t *testing.T) {
	checkBytes(t, nil)
	for a := range 256 {
		checkBytes(t, []byte{byte(a)})
		for b := range 256 {
			checkBytes(t, []byte{byte(a), byte(b)})
			if a > 8 {
				continue
			}
			for c := range 256 {
				checkBytes(t, []byte{byte(a), byte(b), byte(c)})
			}
		}
	}
}

// P10.3, P10.4: encodings of things without a pattern, cut off at each place, and with each byte another one, left out, or there twice.
func TestTakeChanged(t *testing.T) {
	r := rand.New(rand.NewSource(11))
	for range 60 {
		for _, b := range [][]byte{modelValue(someValue(r, 7)), modelOp(someOp(r)), modelBatch(someBatch(r))} {
			checkBytes(t, b)
			for i := range b {
				checkBytes(t, b[:i])
				checkBytes(t, slices.Concat(b[:i], b[i+1:]))
				checkBytes(t, slices.Insert(slices.Clone(b), i, b[i]))
				c := slices.Clone(b)
				for _, d := range []byte{1, 2, 254, 255, byte(r.Intn(256))} {
					c[i] = b[i] + d
					checkBytes(t, c)
				}
			}
		}
	}
}

// P10.3: encodings of things that are not valid, by the model.
func TestTakeInvalid(t *testing.T) {
	for _, o := range someOps() {
		for _, p := range wrongOps(o) {
			checkBytes(t, modelOp(p))
			checkBytes(t, modelValue(p.Value))
			checkBytes(t, modelBatch(api.Batch{Number: 1, Ops: []api.Op{o, p}}))
		}
	}
	o := someOps()[:1]
	for _, n := range []uint64{0, 1, 1 << 30, 1<<30 + 1, 1<<40 - 1, 1 << 40, math.MaxUint64} {
		checkBytes(t, modelBatch(api.Batch{Number: n, Ops: o}))
		checkBytes(t, modelBatch(api.Batch{Number: 1, Stamp: n, Ops: o}))
	}
	for _, n := range []int{0, 1, 255, 256, 257, 299} {
		checkBytes(t, modelBatch(api.Batch{Number: 1, Ops: slices.Repeat(o, n)}))
	}
}

// P10.4: different things have different encodings, of which none is the beginning of another.
func TestNoPrefix(t *testing.T) {
	r := rand.New(rand.NewSource(12))
	var values, ops, batches [][]byte
	for range 2000 {
		v, o, x := someValue(r, 7), someOp(r), someBatch(r)
		a, _ := PutValue(v)
		b, _ := PutOp(o)
		c, _ := PutBatch(x)
		values, ops, batches = append(values, a), append(ops, b), append(batches, c)
	}
	for _, l := range [][][]byte{values, ops, batches} {
		slices.SortFunc(l, bytes.Compare) // what begins with another one comes behind it, at once or behind further ones that do
		for i, b := range l[1:] {
			if bytes.HasPrefix(b, l[i]) && !bytes.Equal(b, l[i]) {
				t.Errorf("% x begins with % x", b, l[i])
			}
		}
	}
}

// P10.5: encodings of values of one kind compare as the values do.
func TestOrder(t *testing.T) {
	r := rand.New(rand.NewSource(13))
	count := 0
	for range 40000 {
		v, w := someValue(r, 7), someValue(r, 7)
		if v.Kind != w.Kind {
			continue
		}
		count++
		a, _ := PutValue(v)
		b, _ := PutValue(w)
		if bytes.Compare(a, b) != value.Compare(v, w) {
			t.Errorf("% x and % x don't compare as %v and %v do", a, b, v, w)
		}
	}
	if count < 3000 {
		t.Errorf("only %d pairs", count)
	}
}

// R3: what is given stays as it is, and what is returned is new.
func TestNew(t *testing.T) {
	r := rand.New(rand.NewSource(14))
	for range 200 {
		x := someBatch(r)
		before := api.Batch{Number: x.Number, Stamp: x.Stamp, Ops: slices.Clone(x.Ops)}
		b, _ := PutBatch(x)
		c, _ := PutBatch(x)
		for i := range b {
			b[i] ^= 255
		}
		_ = append(b[:1], "other bytes"...)
		if !identicalBatches(x, before) || !bytes.Equal(c, modelBatch(before)) {
			t.Fatalf("the batch became %+v, its other encoding % x", x, c)
		}
		d := slices.Clone(c)
		y, _ := TakeBatch(d[:len(d):len(d)])
		z, _ := TakeBatch(d)
		clear(y.Ops)
		if !bytes.Equal(c, d) {
			t.Fatalf("the bytes became % x", d)
		}
		clear(d)
		if !identicalBatches(z, before) {
			t.Fatalf("what was decoded became %+v", z)
		}
	}
}
