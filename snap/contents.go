package snap

import (
	"iter"
	"slices"
	"strings"

	"almanac/api"
	"almanac/batch"
	"almanac/entity"
)

// contents are all that a sequence keeps: its batches, and states by their numbers. A state of these is at each multiple of Every, and at the last batch; none of them is changed once it is there.
type contents struct {
	batches   []api.Batch
	snapshots map[uint64]batch.State
}

// last is the last batch, or a zero one if there is none.
func (c *contents) last() api.Batch {
	if len(c.batches) == 0 {
		return api.Batch{}
	}
	return c.batches[len(c.batches)-1]
}

// add adds x, which is the next batch, if it can be applied. The snapshot ahead of it is not at the last batch any more.
func (c *contents) add(x api.Batch) api.Errno {
	before := c.last().Number
	now, err := batch.Apply(c.snapshots[before], x.Ops)
	if err != api.OK {
		return err
	}
	if before%Every != 0 {
		delete(c.snapshots, before)
	}
	c.batches, c.snapshots[x.Number] = append(c.batches, copied(x)), now
	return api.OK
}

// nearest is the greatest number of a snapshot that is not above n. There is one at 0.
func (c *contents) nearest(n uint64) uint64 {
	for n > 0 {
		if _, is := c.snapshots[n]; is {
			break
		}
		n--
	}
	return n
}

// state is the state at n, which is not beyond the last batch. It may be that of a snapshot, and is only to be read.
func (c *contents) state(n uint64) batch.State {
	from := c.nearest(n)
	s := c.snapshots[from]
	for x := range c.between(from, n) {
		s, _ = batch.Apply(s, x.Ops)
	}
	return s
}

// between goes through the batches that lead from the state at one number to that at another one, in order.
func (c *contents) between(from, to uint64) iter.Seq[api.Batch] {
	return func(yield func(api.Batch) bool) {
		for _, x := range c.batches[from:to] {
			if !yield(x) {
				return
			}
		}
	}
}

// differing are the entities that differ between two lists, or are in only one of them. An entity stands at the position that its Id tells.
func differing(short, long []entity.Entity) []Id {
	if len(short) > len(long) {
		short, long = long, short
	}
	var ids []Id
	for i, e := range long {
		if i >= len(short) || !entity.Same(short[i], e) {
			ids = append(ids, Id{Edge: e.Edge, Id: e.Id})
		}
	}
	return ids
}

// copied is x in new memory.
func copied(x api.Batch) api.Batch {
	x.Ops = slices.Clone(x.Ops)
	for i, o := range x.Ops {
		o.Label, o.Key, o.Value.Str = strings.Clone(o.Label), strings.Clone(o.Key), strings.Clone(o.Value.Str)
		x.Ops[i] = o
	}
	return x
}
