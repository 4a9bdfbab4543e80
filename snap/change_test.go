package snap

import (
	"slices"
	"testing"

	"almanac/api"
	"almanac/batch"
	"almanac/codec"
)

// cannot are lists of operations that a batch may have, but that can't be applied to the good sequence, and why.
func cannot() []struct {
	ops []api.Op
	err api.Errno
} {
	var keys []api.Op
	for i := range 17 {
		keys = append(keys, set(false, 2, string(rune('a'+i)), of(5, 6), number(1)))
	}
	return []struct {
		ops []api.Op
		err api.Errno
	}{
		{list(node(4, of(0, 1))), api.ErrArg},
		{list(node(6, of(0, 1))), api.ErrArg},
		{list(node(5, of(0, 1)), edge(2, 5, 5, of(0, 1))), api.ErrArg},
		{list(keep(false, 5, of(0, 1))), api.ErrUnknown},
		{list(node(5, of(0, 1)), edge(3, 5, 6, of(0, 1))), api.ErrUnknown},
		{list(set(false, 2, "k", of(1, 3), number(1))), api.ErrUnknown},
		{keys, api.ErrLong},
		{list(keep(true, 1, of(1, 5))), api.ErrDangling},
		{list(node(5, of(0, 1)), edge(3, 5, 5, of(0, 2))), api.ErrDangling},
		{list(drop(false, 3, of(2, 3)), keep(true, 2, of(2, 3))), api.ErrDangling},
	}
}

// invalid are lists of operations that no batch has.
func invalid() [][]api.Op {
	return [][]api.Op{
		nil, {}, slices.Repeat(list(keep(false, 2, of(5, 6))), 257), make([]api.Op, 257),
		list(api.Op{}), list(node(5, of(0, 1)), api.Op{}), list(node(0, of(0, 1))), list(node(5, of(1, 1))), list(node(5, of(0, 1<<40+1))),
		list(keep(false, 4, of(2, 1))), list(api.Op{Kind: 6, Id: 1, Period: of(0, 1)}), list(set(false, 1, "", of(0, 1), number(1))),
		list(set(false, 2, "k", of(5, 6), api.Value{Kind: api.Node, Num: 1})), list(keep(true, 1, of(1, 5)), api.Op{}),
		list(keep(false, 9, of(0, 1)), api.Op{}), list(set(false, 2, "k", of(0, 9), number(1)), node(5, of(1, 1))),
	}
}

// P16.2: an Add with an error changes nothing. What is wrong with the batch is told ahead of what can't be applied.
func TestAddNot(t *testing.T) {
	s, m := good(t)
	fails := func(number, stamp uint64, ops []api.Op, want api.Errno) {
		t.Helper()
		if err := s.Add(batchOf(number, stamp, ops...)); err != want {
			t.Errorf("Add(%d, %d, %v) is %d, not %d", number, stamp, ops, err, want)
		}
		checkLast(t, s, m)
	}
	for _, x := range cannot() {
		fails(19, 90, x.ops, x.err)
		fails(19, 1<<40-1, x.ops, x.err)
		fails(19, 89, x.ops, api.ErrArg)
		fails(18, 90, x.ops, api.ErrArg)
	}
	for _, ops := range invalid() {
		fails(19, 90, ops, api.ErrArg)
	}
	fine := list(node(5, of(0, 1)))
	for _, stamp := range []uint64{0, 80, 89, 1 << 40, 1<<40 + 1, 1<<64 - 1} {
		fails(19, stamp, fine, api.ErrArg)
	}
	for _, number := range []uint64{0, 1, 17, 18, 20, 27, api.MaxBatch, api.MaxBatch + 1, 1<<63 + 19, 1<<64 - 1} {
		fails(number, 90, fine, api.ErrArg)
	}
	check(t, s, m)
	if err := s.Add(batchOf(19, 90, fine...)); err != api.OK {
		t.Errorf("Add is %d", err)
	}
	check(t, s, m.add(t, 90, fine))
}

// P16.2: the first batch of a sequence, and the edges of what may be added.
func TestAddEdges(t *testing.T) {
	s, m := New(), empty()
	for _, number := range []uint64{0, 2, 8, 1<<64 - 1} {
		if err := s.Add(batchOf(number, 0, node(1, of(0, 1)))); err != api.ErrArg {
			t.Errorf("Add of batch %d is %d", number, err)
		}
		check(t, s, m)
	}
	var many []api.Op
	for id := range uint64(256) {
		many = append(many, node(id+1, of(0, 1<<40)))
	}
	for i, x := range []struct {
		stamp uint64
		ops   []api.Op
	}{{0, many}, {0, list(node(257, of(1<<40-1, 1<<40)))}, {1<<40 - 1, list(edge(1, 257, 256, of(1<<40-1, 1<<40)))}, {1<<40 - 1, slices.Repeat(list(drop(true, 1, of(0, 1<<40))), 256)}} {
		if err := s.Add(batchOf(uint64(i)+1, x.stamp, x.ops...)); err != api.OK {
			t.Fatalf("Add is %d", err)
		}
		m = m.add(t, x.stamp, x.ops)
		checkLast(t, s, m)
	}
	check(t, s, m)
}

// P16.2: there is no batch behind the last possible one.
func TestAddFull(t *testing.T) {
	s := New()
	s.kept.batches = []api.Batch{batchOf(api.MaxBatch, 5, node(1, of(0, 1)))}
	for _, number := range []uint64{0, 1, 2, api.MaxBatch, api.MaxBatch + 1} {
		if err := s.Add(batchOf(number, 5, node(1, of(0, 1)))); err != api.ErrArg || s.Last() != api.MaxBatch {
			t.Errorf("Add of batch %d is %d", number, err)
		}
	}
	s.kept.batches[0].Number--
	if err := s.Add(batchOf(api.MaxBatch, 5, node(1, of(0, 1)))); err != api.OK || s.Last() != api.MaxBatch {
		t.Errorf("Add of the last possible batch is %d", err)
	}
}

// P16.5 and P16.7: of sequences of all lengths up to several snapshots.
func TestSteps(t *testing.T) {
	s, m := New(), empty()
	for n := uint64(1); n <= 34; n++ {
		ops := list(node(n, of(n, 99)))
		if err := s.Add(batchOf(n, 0, ops...)); err != api.OK {
			t.Fatalf("Add is %d", err)
		}
		m = m.add(t, 0, ops)
		checkLast(t, s, m)
		for k := range n + 1 {
			want := int(k % 8)
			if k == n {
				want = 0
			}
			if got := s.Steps(k); got != want || got >= Every {
				t.Errorf("Steps(%d) of %d is %d, not %d", k, n, got, want)
			}
		}
	}
}

// P16.5: At replays only the batches behind the snapshot, so that the others may be lost.
func TestReplay(t *testing.T) {
	for n, want := range map[uint64][]uint64{3: {1, 2, 3}, 8: nil, 9: {9}, 15: {9, 10, 11, 12, 13, 14, 15}, 16: nil, 17: {17}, 18: nil} {
		s, m := good(t)
		for i, x := range s.kept.batches {
			if !slices.Contains(want, x.Number) {
				s.kept.batches[i].Ops = nil
			}
		}
		if got, err := s.At(n); err != api.OK || !batch.Same(got, m.states[n]) {
			t.Errorf("At(%d) is %v, %d, not %v", n, got, err, m.states[n])
		}
		if got := s.Steps(n); got != len(want) {
			t.Errorf("Steps(%d) is %d, not %d", n, got, len(want))
		}
	}
}

// P16.1: a copy of each length is as the sequence was, and what is added to one of them is not in the other one. They are added to in turns, since lists that share memory would have room for some more only.
func TestCopy(t *testing.T) {
	_, m := good(t)
	for had := range len(m.batches) + 1 {
		s, other := New(), m.upTo(had)
		addAll(t, s, m.batches[:had])
		u := s.Copy()
		check(t, u, other)
		for i := range 9 {
			upTo := min(had+i+1, len(m.batches))
			addAll(t, u, m.batches[min(had+i, upTo):upTo])
			ops := list(node(uint64(len(other.now().Nodes))+1, of(0, 3)))
			other = other.add(t, 95, ops)
			addAll(t, s, other.batches[had+i:])
			check(t, s, other)
			check(t, u, m.upTo(upTo))
		}
		check(t, s.Copy().Copy(), other)
	}
}

// addAll adds all of the batches.
func addAll(t *testing.T, s *Snaps, l []api.Batch) {
	t.Helper()
	for _, x := range l {
		if err := s.Add(x); err != api.OK {
			t.Fatalf("Add of batch %d is %d", x.Number, err)
		}
	}
}

// What is returned is new memory, and arguments are neither changed nor kept.
func TestMemory(t *testing.T) {
	s, m := New(), empty()
	for i, ops := range lists() {
		ops = append(make([]api.Op, 0, len(ops)+3), ops...)
		x := batchOf(uint64(i)+1, uint64(i), ops...)
		if err := s.Add(x); err != api.OK || !codec.SameBatch(x, batchOf(uint64(i)+1, uint64(i), lists()[i]...)) || ops[:cap(ops)][len(ops)].Kind != 0 {
			t.Fatalf("Add is %d, and made %v of its operations", err, ops)
		}
		m = m.add(t, uint64(i), ops)
		clear(ops[:cap(ops)])
	}
	u := s.Copy()
	for _, x := range []*Snaps{s, u} {
		spoilAll(x)
		check(t, s, m)
		check(t, u, m)
	}
}

// spoilAll fills the memory of all that s returns.
func spoilAll(s *Snaps) {
	for n := range s.Last() + 1 {
		x, _ := s.At(n)
		spoil(x)
		b, _ := s.Batch(n)
		ops := b.Ops[:cap(b.Ops)]
		for i := range ops {
			ops[i] = api.Op{Id: 99}
		}
		ids, _ := s.Changed(0, n)
		ids = ids[:cap(ids)]
		for i := range ids {
			ids[i] = Id{Id: 99}
		}
	}
}

// A struct that is assigned is the same sequence.
func TestAssigned(t *testing.T) {
	s, m := good(t)
	u := *s
	ops := list(node(5, of(0, 1)))
	if err := u.Add(batchOf(19, 90, ops...)); err != api.OK {
		t.Errorf("Add is %d", err)
	}
	m = m.add(t, 90, ops)
	check(t, s, m)
	check(t, &u, m)
	if err := s.Add(batchOf(20, 90, node(6, of(0, 1)))); err != api.OK || u.Last() != 20 {
		t.Errorf("Add is %d, and the other one has %d batches", err, u.Last())
	}
}
