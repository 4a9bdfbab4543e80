package itree

import (
	"math/bits"
	"math/rand"
	"slices"
	"testing"

	"almanac/api"
)

// sound checks that the depth of the tree is one that P7.4 allows, and that each node knows its subtrees.
func sound(t *testing.T, x *Tree) {
	t.Helper()
	d, n := x.Depth(), x.Len()
	if n == 0 && d != 0 || n > 0 && (n > 1<<d-1 || 2*d > 3*bits.Len(uint(n))+2) {
		t.Fatalf("%d entries are in depth %d", n, d)
	}
	if levels, _ := known(t, x.kept.root); levels != d {
		t.Fatalf("the depth is %d, not %d", d, levels)
	}
}

// known are how many levels n has, and the greatest To in it, each node asked for by itself.
func known(t *testing.T, n *node) (int, uint64) {
	t.Helper()
	if n == nil {
		return 0, 0
	}
	left, end := known(t, n.left)
	right, other := known(t, n.right)
	levels, end := 1+max(left, right), max(end, other, n.entry.Period.To)
	if n.levels != levels || n.end != end || left > right+1 || right > left+1 {
		t.Fatalf("%v has %d levels below it on the left, %d on the right, up to %d, but tells %d levels, up to %d", n.entry, left, right, end, n.levels, n.end)
	}
	return levels, end
}

// P7.4: the depth while many entries are inserted and deleted, in orders that lean to one side, to the middle, and to none.
func TestDepth(t *testing.T) {
	const many = 3000
	up, down, inward := make([]uint64, many), make([]uint64, many), make([]uint64, many)
	for i := range uint64(many) {
		up[i], down[i], inward[i] = i, many-1-i, i/2
		if i%2 == 1 {
			inward[i] = many - 1 - i/2
		}
	}
	outward, shuffled := slices.Clone(inward), slices.Clone(up)
	slices.Reverse(outward)
	rand.New(rand.NewSource(74)).Shuffle(many, func(i, j int) { shuffled[i], shuffled[j] = shuffled[j], shuffled[i] })
	orders := [][]uint64{up, down, inward, outward, shuffled}
	for _, ins := range orders {
		for _, outs := range orders {
			x := New()
			for i, k := range ins {
				x.Insert(of(k, k+5), k%3)
				checkDepth(t, x, i+1)
			}
			for i, k := range outs {
				x.Delete(of(k, k+5), k%3)
				checkDepth(t, x, many-1-i)
				if i%100 == 0 {
					sound(t, x)
				}
			}
		}
	}
}

// checkDepth checks that x has n entries, in a depth that P7.4 allows.
func checkDepth(t *testing.T, x *Tree, n int) {
	t.Helper()
	if d := x.Depth(); x.Len() != n || n == 0 && d != 0 || n > 0 && (n > 1<<d-1 || 2*d > 3*bits.Len(uint(n))+2) {
		t.Fatalf("%d of %d entries are in depth %d", x.Len(), n, d)
	}
}

// leastIn is how many entries the sparsest tree of that depth has.
func leastIn(depth int) int {
	if depth <= 0 {
		return 0
	}
	return 1 + leastIn(depth-1) + leastIn(depth-2)
}

// sparse inserts the least entries that make that depth, and tells how many they are. They come level by level, so that nothing is turned.
func sparse(x *Tree, depth int) int {
	type part struct{ first, depth int }
	for parts := []part{{0, depth}}; len(parts) > 0; parts = parts[1:] {
		p := parts[0]
		if p.depth <= 0 {
			continue
		}
		middle := p.first + leastIn(p.depth-1)
		x.Insert(of(uint64(middle), uint64(middle)+1), 0)
		parts = append(parts, part{p.first, p.depth - 1}, part{middle + 1, p.depth - 2})
	}
	return leastIn(depth)
}

// P7.4: the sparsest trees, and entries deleted from their shallow and deep sides, where one deletion shortens level after level.
func TestSparse(t *testing.T) {
	for depth := range 14 {
		x := New()
		n := sparse(x, depth)
		checkDepth(t, x, n)
		for name, delete := range map[string]func(i int) int{
			"up":      func(i int) int { return i },
			"down":    func(i int) int { return n - 1 - i },
			"between": func(i int) int { return (i + n/2) % n },
		} {
			y := x.Copy()
			for i := range n {
				k := uint64(delete(i))
				if err := y.Delete(of(k, k+1), 0); err != api.OK {
					t.Fatalf("%s: Delete %d is %d", name, k, err)
				}
				sound(t, y)
			}
		}
	}
}

// P7.3: what overlaps comes one by one, and no more of it than the loop wants.
func TestOverlappingStops(t *testing.T) {
	l := window(0, 1, 2)
	x := grown(t, l)
	for want := range len(l) {
		var got []Entry
		for e := range x.kept.root.overlapping(of(0, width)) {
			if len(got) == want {
				break
			}
			got = append(got, e)
		}
		if !slices.Equal(got, l[:want]) {
			t.Fatalf("%v came, not %v", got, l[:want])
		}
	}
}

// P7.3: subtrees that can't have a match are not traversed: one that has entries that it doesn't tell of isn't found out.
func TestOverlappingSkips(t *testing.T) {
	l := window(0, 1)
	x := grown(t, l)
	root := x.kept.root
	for _, side := range []*node{root.left, root.right} {
		side.entry.Period = of(0, 1<<40)
		side.end = root.entry.Period.From
	}
	want := []Entry{root.entry}
	if got := x.Overlap(root.entry.Period); !slices.Equal(got, want) {
		t.Errorf("%v came, not %v", got, want)
	}
}
