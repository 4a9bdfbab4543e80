package itree

import (
	"iter"

	"almanac/api"
)

// node is a subtree that isn't empty; nil is the empty one. The entries of left come ahead of its own, those of right behind it, and the levels of the two differ by at most one.
type node struct {
	entry       Entry
	left, right *node
	levels      int
	end         uint64 // the greatest To of all its entries: none of them has an instant from there on
}

// overlapping are, in order, the entries of n that have an instant in common with p. Both p and the entries are valid.
func (n *node) overlapping(p api.Period) iter.Seq[Entry] {
	return func(yield func(Entry) bool) { n.each(p, yield) }
}

// each passes on the entries that overlap p, and tells whether all of them were wanted. It skips a subtree that ends ahead of p, and what comes behind an entry that begins behind p.
func (n *node) each(p api.Period, yield func(Entry) bool) bool {
	if n == nil || n.end <= p.From {
		return true
	}
	if !n.left.each(p, yield) {
		return false
	}
	if n.entry.Period.From >= p.To {
		return true
	}
	if n.entry.Period.To > p.From && !yield(n.entry) {
		return false
	}
	return n.right.each(p, yield)
}

// has tells whether e is an entry of n.
func (n *node) has(e Entry) bool {
	for n != nil {
		switch compare(e, n.entry) {
		case -1:
			n = n.left
		case 1:
			n = n.right
		default:
			return true
		}
	}
	return false
}

// with is n after e, which it doesn't have, was added.
func (n *node) with(e Entry) *node {
	switch {
	case n == nil:
		return &node{entry: e, levels: 1, end: e.Period.To}
	case compare(e, n.entry) < 0:
		n.left = n.left.with(e)
	default:
		n.right = n.right.with(e)
	}
	return n.balanced()
}

// without is n after e, which it has, was removed.
func (n *node) without(e Entry) *node {
	switch c := compare(e, n.entry); {
	case c < 0:
		n.left = n.left.without(e)
	case c > 0:
		n.right = n.right.without(e)
	case n.left == nil:
		return n.right
	case n.right == nil:
		return n.left
	default:
		n.entry = n.right.first()
		n.right = n.right.without(n.entry)
	}
	return n.balanced()
}

// first is the first entry of n, which isn't empty.
func (n *node) first() Entry {
	for n.left != nil {
		n = n.left
	}
	return n.entry
}

// depth is how many levels n has.
func (n *node) depth() int {
	if n == nil {
		return 0
	}
	return n.levels
}

// lean is by how many levels the left of n is deeper than its right.
func (n *node) lean() int { return n.left.depth() - n.right.depth() }

// balanced is n after one of its subtrees changed by a level at most.
func (n *node) balanced() *node {
	switch lean := n.lean(); {
	case lean > 1:
		if n.left.lean() < 0 {
			n.left = n.left.turnedLeft()
		}
		return n.turnedRight()
	case lean < -1:
		if n.right.lean() > 0 {
			n.right = n.right.turnedRight()
		}
		return n.turnedLeft()
	}
	n.refresh()
	return n
}

// turnedLeft is n after its right node took its place.
func (n *node) turnedLeft() *node {
	top := n.right
	n.right, top.left = top.left, n
	n.refresh()
	top.refresh()
	return top
}

// turnedRight is n after its left node took its place.
func (n *node) turnedRight() *node {
	top := n.left
	n.left, top.right = top.right, n
	n.refresh()
	top.refresh()
	return top
}

// refresh sets what n knows of all its entries from its own and from what its subtrees know.
func (n *node) refresh() {
	n.levels, n.end = 1, n.entry.Period.To
	for _, side := range [...]*node{n.left, n.right} {
		if side != nil {
			n.levels, n.end = max(n.levels, side.levels+1), max(n.end, side.end)
		}
	}
}

// copy is n in new memory.
func (n *node) copy() *node {
	if n == nil {
		return nil
	}
	return &node{entry: n.entry, left: n.left.copy(), right: n.right.copy(), levels: n.levels, end: n.end}
}
