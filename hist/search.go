package hist

import (
	"bytes"

	"almanac/api"
	"almanac/disk"
	"almanac/frame"
)

// found is what a search finds on a disk: a log, and what is to be mended.
type found struct {
	log     *contents
	checked uint64   // the Number of the last batch of the checkpoint, or 0 if there is none
	waste   []string // the files without which the log does, in the order in which they are to be removed
	groups  int      // how many bytes of the last segment are groups
	size    int      // how many it has
}

// search reads the files of d, and tells whether d is well-formed. In the order of their names a checkpoint comes ahead of the segments that continue it, and these come in the order of their digits.
func search(d *disk.Disk) (*found, bool) {
	f := &found{log: &contents{disk: d}}
	names := d.Names()
files:
	for ; len(names) > 0; names = names[1:] {
		name := names[0]
		digits, isSegment := segmentDigits(name)
		switch {
		case name == newFile, isSegment && digits <= f.checked:
			f.waste = append(f.waste, name)
		case name == checkFile && f.takeCheck():
		case isSegment && f.takeSegment(digits):
		default:
			break files
		}
	}
	return f, len(names) == 0
}

// takeCheck adds the batches of the checkpoint, and tells whether it may have these contents.
func (f *found) takeCheck() bool {
	b, _ := f.log.disk.Read(checkFile)
	size, ok := f.takeGroups(b)
	f.checked = f.log.last().Number
	return ok && f.checked > 0 && bytes.Equal(b[size:], checkEnd(f.checked))
}

// takeSegment adds the batches of the segment with these digits, and tells whether it may have these contents, and be there. Behind a segment without a batch there can't be another one: it would have the same digits.
func (f *found) takeSegment(digits uint64) bool {
	if f.torn() || digits != f.log.last().Number+1 {
		return false
	}
	b, _ := f.log.disk.Read(segmentFile(digits))
	f.log.segments = append(f.log.segments, digits)
	size, ok := f.takeGroups(b)
	f.groups, f.size = size, len(b)
	return ok && f.log.inLast() <= api.MaxSeg
}

// takeGroups adds the batches that the groups of b encode, and tells how many bytes these have, and whether they continue the batches before them.
func (f *found) takeGroups(b []byte) (int, bool) {
	groups, size := frame.Groups(b)
	for _, g := range groups {
		x, ok := batchOf(g)
		before := f.log.last()
		if !ok || x.Number != before.Number+1 || x.Stamp < before.Stamp {
			return 0, false
		}
		f.log.batches = append(f.log.batches, x)
	}
	return size, true
}

// torn tells whether the last segment has bytes behind its groups.
func (f *found) torn() bool { return f.groups < f.size }

// mending is the steps that leave nothing but the log on the disk, and make it durable.
func (f *found) mending() []func() api.Errno {
	d := f.log.disk
	var steps []func() api.Errno
	for _, name := range f.waste {
		steps = append(steps, func() api.Errno { return d.Remove(name) })
	}
	if len(f.log.segments) == 0 {
		return steps
	}
	last := f.log.lastFile()
	if f.torn() {
		steps = append(steps, func() api.Errno { return d.Truncate(last, f.groups) })
	}
	return append(steps, func() api.Errno { return d.Sync(last) })
}
