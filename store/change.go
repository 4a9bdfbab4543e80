package store

import (
	"slices"
	"strings"

	"almanac/api"
	"almanac/batch"
	"almanac/codec"
)

// Try is what the operations would make of the state now: P15.2.
func (s *Store) Try(ops []api.Op) (batch.State, api.Errno) {
	if !s.made() {
		return batch.State{}, api.ErrNil
	}
	return batch.Apply(s.kept.now, ops)
}

// Add adds a batch of these operations, and returns its Number: P15.2.
func (s *Store) Add(stamp uint64, ops []api.Op) (uint64, api.Errno) {
	if !s.made() {
		return 0, api.ErrNil
	}
	if err := s.kept.add(stamp, ops); err != api.OK {
		return 0, err
	}
	return s.Last(), api.OK
}

// Load adds the batches, all or none: P15.2. They are added to a copy first, whose lists have no room behind them that would be the store's.
func (s *Store) Load(l []api.Batch) api.Errno {
	if !s.made() {
		return api.ErrNil
	}
	next := contents{batches: slices.Clip(s.kept.batches), now: s.kept.now}
	for _, x := range l {
		if x.Number != next.last().Number+1 {
			return api.ErrArg
		}
		if err := next.add(x.Stamp, x.Ops); err != api.OK {
			return err
		}
	}
	*s.kept = next
	return api.OK
}

// add adds a batch of these operations: P15.2.
func (c *contents) add(stamp uint64, ops []api.Op) api.Errno {
	last := c.last()
	if last.Number == api.MaxBatch {
		return api.ErrFull
	}
	x := api.Batch{Number: last.Number + 1, Stamp: stamp, Ops: ops}
	if !codec.MayBatch(x) || stamp < last.Stamp {
		return api.ErrArg
	}
	now, err := batch.Apply(c.now, ops)
	if err != api.OK {
		return err
	}
	c.batches, c.now = append(c.batches, copied(x)), now
	return api.OK
}

// copied is x in new memory.
func copied(x api.Batch) api.Batch {
	x.Ops = slices.Clone(x.Ops)
	for i, o := range x.Ops {
		o.Label, o.Key, o.Value.Str = strings.Clone(o.Label), strings.Clone(o.Key), strings.Clone(o.Value.Str)
		x.Ops[i] = o
	}
	return x
}
