package codec

import (
	"almanac/api"
	"almanac/wire"
)

// source reads the parts of an encoding, one behind the other. Once a part is not in its form the source has failed, and what else it reads is worth nothing.
type source struct {
	reader *wire.Reader
	failed bool
}

// take reads b as a whole: what read makes of it, if that is valid, and nothing remains.
func take[T any](b []byte, read func(*source) T, may func(T) bool) (T, api.Errno) {
	s := &source{reader: wire.New(b)}
	x := read(s)
	s.note(s.reader.End())
	if s.failed || !may(x) {
		var none T
		return none, api.ErrForm
	}
	return x, api.OK
}

// note remembers whether a step has failed.
func (s *source) note(err api.Errno) {
	if err != api.OK {
		s.failed = true
	}
}

func (s *source) byte() byte {
	c, err := s.reader.Byte()
	s.note(err)
	return c
}

func (s *source) num(most uint64) uint64 {
	n, err := s.reader.Num(most)
	s.note(err)
	return n
}

func (s *source) int() int64 {
	n, err := s.reader.Int()
	s.note(err)
	return n
}

func (s *source) float() float64 {
	f, err := s.reader.Float()
	s.note(err)
	return f
}

func (s *source) text(most int) string {
	t, err := s.reader.Text(most)
	s.note(err)
	return t
}

// kind reads a kind from least to most. Another one is answered as least, so that what is answered is always a kind.
func (s *source) kind(least, most int) int {
	n := int(s.byte())
	if n < least || n > most {
		s.failed = true
		return least
	}
	return n
}

// flag reads a byte that stands for a bool.
func (s *source) flag() bool { return s.kind(0, 1) == 1 }

func (s *source) period() api.Period {
	return api.Period{From: s.num(api.Forever), To: s.num(api.Forever)}
}

// value reads what may be a value; whether it is valid, value.May tells.
func (s *source) value() api.Value {
	v := api.Value{Kind: s.kind(api.Null, api.Edge)}
	id := func() { v.Num = int64(s.num(api.MaxId)) }
	fields := [...]func(){
		api.Null:  func() {},
		api.Bool:  func() { v.Bool = s.flag() },
		api.Int:   func() { v.Num = s.int() },
		api.Float: func() { v.Float = s.float() },
		api.Str:   func() { v.Str = s.text(api.MaxStr) },
		api.Node:  id,
		api.Edge:  id,
	}
	fields[v.Kind]()
	return v
}

// op reads what may be an operation; whether it is valid, MayOp tells.
func (s *source) op() api.Op {
	o := api.Op{Kind: s.kind(api.OpNode, api.OpSet), Edge: s.flag(), Id: s.num(api.MaxId)}
	none := func() {}
	label := func() { o.Label = s.text(api.MaxName) }
	fields := [...]func(){
		api.OpNode: label,
		api.OpEdge: func() {
			label()
			o.From = s.num(api.MaxId)
			o.To = s.num(api.MaxId)
		},
		api.OpKeep: none,
		api.OpDrop: none,
		api.OpSet: func() {
			o.Key = s.text(api.MaxName)
			o.Value = s.value()
		},
	}
	fields[o.Kind]()
	o.Period = s.period()
	return o
}

// batch reads what may be a batch; whether it is valid, MayBatch tells.
func (s *source) batch() api.Batch {
	x := api.Batch{Number: s.num(api.MaxBatch), Stamp: s.num(api.Forever)}
	for n := s.num(api.MaxOps); n > 0 && !s.failed; n-- {
		x.Ops = append(x.Ops, s.op())
	}
	return x
}
