package store

import (
	"slices"
	"testing"

	"almanac/api"
	"almanac/batch"
)

// cannot are lists of operations that a batch may have, but that can't be applied to the good store, and why.
func cannot() []struct {
	ops []api.Op
	err api.Errno
} {
	var keys []api.Op
	for i := range 17 {
		keys = append(keys, set(false, 2, string(rune('a'+i)), of(5, 6), number(1)))
	}
	return []struct {
		ops []api.Op
		err api.Errno
	}{
		{list(node(3, of(0, 1))), api.ErrArg},
		{list(node(5, of(0, 1))), api.ErrArg},
		{list(node(4, of(0, 1)), edge(2, 4, 4, of(0, 1))), api.ErrArg},
		{list(keep(false, 4, of(0, 1))), api.ErrUnknown},
		{list(node(4, of(0, 1)), edge(3, 4, 5, of(0, 1))), api.ErrUnknown},
		{list(set(false, 2, "k", of(1, 3), number(1))), api.ErrUnknown},
		{keys, api.ErrLong},
		{list(keep(true, 1, of(3, 5))), api.ErrDangling},
		{list(node(4, of(0, 1)), edge(3, 4, 4, of(0, 2))), api.ErrDangling},
		{list(drop(false, 3, of(2, 3)), keep(true, 2, of(2, 3))), api.ErrDangling},
	}
}

// invalid are lists of operations that no batch has, and what Try returns for them.
func invalid() []struct {
	ops []api.Op
	err api.Errno
} {
	return []struct {
		ops []api.Op
		err api.Errno
	}{
		{nil, api.OK}, {[]api.Op{}, api.OK}, {slices.Repeat(list(keep(false, 2, of(5, 6))), 257), api.ErrLong}, {make([]api.Op, 257), api.ErrLong},
		{list(api.Op{}), api.ErrArg}, {list(node(4, of(0, 1)), api.Op{}), api.ErrArg}, {list(node(0, of(0, 1))), api.ErrArg}, {list(node(4, of(1, 1))), api.ErrArg}, {list(node(4, of(0, 1<<40+1))), api.ErrArg},
		{list(keep(false, 4, of(2, 1))), api.ErrArg}, {list(api.Op{Kind: 6, Id: 1, Period: of(0, 1)}), api.ErrArg}, {list(set(false, 1, "", of(0, 1), number(1))), api.ErrArg},
		{list(set(false, 2, "k", of(5, 6), api.Value{Kind: api.Node, Num: 1})), api.ErrArg}, {list(keep(true, 1, of(3, 5)), api.Op{}), api.ErrArg},
		{list(keep(false, 9, of(0, 1)), api.Op{}), api.ErrUnknown}, {list(set(false, 2, "k", of(0, 9), number(1)), node(4, of(1, 1))), api.ErrUnknown},
	}
}

// P15.2: Try returns what Add would make of the state, and changes nothing.
func TestTry(t *testing.T) {
	s, m := good(t)
	for _, x := range cannot() {
		if got, err := s.Try(x.ops); err != x.err || !isNone(got) {
			t.Errorf("Try(%v) is %v, %d, not %d", x.ops, got, err, x.err)
		}
	}
	for _, x := range invalid() {
		want := batch.State{}
		if x.err == api.OK {
			want = m.now()
		}
		if got, err := s.Try(x.ops); err != x.err || !batch.Same(got, want) {
			t.Errorf("Try(%v) is %v, %d, not %d", x.ops, got, err, x.err)
		}
	}
	for _, ops := range [][]api.Op{list(node(4, of(0, 1))), list(keep(true, 2, of(5, 6)), set(true, 2, "k", of(5, 6), number(1))), slices.Repeat(list(keep(false, 2, of(0, 6))), 256)} {
		want := m.add(t, 80, ops).now()
		if got, err := s.Try(ops); err != api.OK || !batch.Same(got, want) {
			t.Errorf("Try(%v) is %v, %d, not %v", ops, got, err, want)
		}
	}
	check(t, s, m)
}

// P15.2 and P15.6: an Add with an error changes nothing.
func TestAddNot(t *testing.T) {
	s, m := good(t)
	fails := func(stamp uint64, ops []api.Op, want api.Errno) {
		t.Helper()
		if n, err := s.Add(stamp, ops); n != 0 || err != want {
			t.Errorf("Add(%d, %v) is %d, %d, not %d", stamp, ops, n, err, want)
		}
		checkLast(t, s, m)
	}
	for _, x := range cannot() {
		fails(80, x.ops, x.err)
		fails(1<<40-1, x.ops, x.err)
		fails(79, x.ops, api.ErrArg)
	}
	for _, x := range invalid() {
		fails(80, x.ops, api.ErrArg)
	}
	fine := list(node(4, of(0, 1)))
	for _, stamp := range []uint64{0, 79, 1 << 40, 1<<40 + 1, 1<<64 - 1} {
		fails(stamp, fine, api.ErrArg)
	}
	check(t, s, m)
	if n, err := s.Add(80, fine); n != 9 || err != api.OK {
		t.Errorf("Add is %d, %d", n, err)
	}
	check(t, s, m.add(t, 80, fine))
}

// P15.2: the edges of what may be added.
func TestAddEdges(t *testing.T) {
	s, m := New(), empty()
	var many []api.Op
	for id := range uint64(256) {
		many = append(many, node(id+1, of(0, 1<<40)))
	}
	for i, x := range []struct {
		stamp uint64
		ops   []api.Op
	}{{0, many}, {0, list(node(257, of(1<<40-1, 1<<40)))}, {1<<40 - 1, list(edge(1, 257, 256, of(1<<40-1, 1<<40)))}, {1<<40 - 1, slices.Repeat(list(drop(true, 1, of(0, 1<<40))), 256)}} {
		if n, err := s.Add(x.stamp, x.ops); n != uint64(i)+1 || err != api.OK {
			t.Fatalf("Add is %d, %d", n, err)
		}
		m = m.add(t, x.stamp, x.ops)
		checkLast(t, s, m)
	}
	check(t, s, m)
}

// full is a store whose last batch has this Number; those ahead of it are not there.
func full(last uint64) *Store {
	return &Store{kept: &contents{batches: []api.Batch{{Number: last, Stamp: 5, Ops: list(node(1, of(0, 1)))}}}}
}

// P15.2: ErrFull ahead of ErrArg, and after the last possible batch only.
func TestErrFull(t *testing.T) {
	s := full(api.MaxBatch)
	for _, ops := range [][]api.Op{nil, list(node(1, of(0, 1))), list(keep(false, 1, of(0, 1)))} {
		for _, stamp := range []uint64{0, 5, 1 << 40} {
			if n, err := s.Add(stamp, ops); n != 0 || err != api.ErrFull {
				t.Errorf("Add is %d, %d", n, err)
			}
			if err := s.Load([]api.Batch{{Number: api.MaxBatch + 1, Stamp: stamp, Ops: ops}}); err != api.ErrFull {
				t.Errorf("Load is %d", err)
			}
		}
	}
	if err := s.Load([]api.Batch{{Number: api.MaxBatch, Stamp: 5, Ops: list(node(1, of(0, 1)))}}); err != api.ErrArg || s.Last() != api.MaxBatch || len(s.kept.batches) != 1 {
		t.Errorf("Load is %d", err)
	}
	s = full(api.MaxBatch - 1)
	if n, err := s.Add(5, list(node(1, of(0, 1)))); n != api.MaxBatch || err != api.OK || s.Last() != api.MaxBatch {
		t.Errorf("Add is %d, %d", n, err)
	}
}

// P15.2 and P15.6: a store with the batches of another one, all at once or by parts, is as that one.
func TestLoad(t *testing.T) {
	_, m := good(t)
	for i := range len(m.batches) + 1 {
		for j := i; j <= len(m.batches); j++ {
			s := New()
			for _, part := range [][]api.Batch{m.batches[:i], nil, m.batches[i:j], m.batches[j:]} {
				if err := s.Load(part); err != api.OK {
					t.Fatalf("Load(%v) is %d", part, err)
				}
			}
			check(t, s, m)
		}
	}
}

// P15.6: likewise for what came about by a walk.
func TestLoadWalk(t *testing.T) {
	var s *Store
	var m model
	walk(t, 156, 120, func(x *Store, y model) { s, m = x, y })
	var all []api.Batch
	for n := range s.Last() {
		x, err := s.Batch(n + 1)
		if err != api.OK {
			t.Fatalf("Batch(%d) is %d", n+1, err)
		}
		all = append(all, x)
	}
	u := New()
	if err := u.Load(all); err != api.OK {
		t.Fatalf("Load is %d", err)
	}
	check(t, u, m)
	if !batch.Same(u.Now(), s.Now()) {
		t.Errorf("Now is %v, and was %v", u.Now(), s.Now())
	}
}

// P15.2: the first batch that fails, wherever it stands, leaves the store as it was.
func TestLoadNot(t *testing.T) {
	_, m := good(t)
	for had := range len(m.batches) {
		for at := had; at <= len(m.batches); at++ {
			for _, x := range wrong(m, at) {
				s, rest := New(), append(slices.Clone(m.batches[had:at]), x.batch, api.Batch{Number: 77})
				if err := s.Load(m.batches[:had]); err != api.OK {
					t.Fatalf("Load is %d", err)
				}
				if err := s.Load(rest); err != x.err {
					t.Errorf("Load(%v) is %d, not %d", rest, err, x.err)
				}
				check(t, s, m.upTo(had))
				if err := s.Load(m.batches[had:]); err != api.OK {
					t.Errorf("Load is %d after one that failed", err)
				}
				check(t, s, m)
			}
		}
	}
}

// wrong are batches that can't be the one behind the first n, and why.
func wrong(m model, n int) []struct {
	batch api.Batch
	err   api.Errno
} {
	number, stamp, next := uint64(n)+1, 10*uint64(n), uint64(len(m.states[n].Nodes))+1
	fine := list(node(next, of(0, 1)))
	batchOf := func(number, stamp uint64, ops ...api.Op) api.Batch {
		return api.Batch{Number: number, Stamp: stamp, Ops: ops}
	}
	type row = struct {
		batch api.Batch
		err   api.Errno
	}
	rows := []row{
		{batchOf(number, stamp), api.ErrArg}, {batchOf(number, stamp, api.Op{}), api.ErrArg}, {batchOf(number, 1<<40, fine...), api.ErrArg},
		{batchOf(number, stamp, node(next+1, of(0, 1))), api.ErrArg}, {batchOf(number, stamp, keep(true, 9, of(0, 1))), api.ErrUnknown},
		{batchOf(number, stamp, append(fine, edge(uint64(len(m.states[n].Edges))+1, next, next, of(1, 2)))...), api.ErrDangling},
	}
	for _, other := range []uint64{0, number - 1, number + 1, 1 << 30, 1<<30 + 1, 1<<64 - 1} {
		rows = append(rows, row{batchOf(other, stamp, fine...), api.ErrArg}, row{batchOf(other, stamp, keep(true, 9, of(0, 1))), api.ErrArg})
	}
	if n > 0 {
		rows = append(rows, row{batchOf(number, stamp-1, fine...), api.ErrArg})
	}
	return rows
}
