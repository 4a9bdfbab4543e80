package itree

import (
	"cmp"
	"math"
	"math/rand"
	"slices"
	"testing"

	"almanac/api"
)

// of is the period with these ends.
func of(from, to uint64) api.Period { return api.Period{From: from, To: to} }

// entry is the entry with these ends and this number.
func entry(from, to, id uint64) Entry { return Entry{Period: of(from, to), Id: id} }

// invalid are periods that are not valid.
func invalid() []api.Period {
	return []api.Period{
		of(0, 0), of(4, 4), of(5, 4), of(1<<40, 1<<40), of(0, 1<<40+1), of(1<<40, 1<<40+1), of(1<<40-1, 1<<40+1),
		of(0, math.MaxUint64), of(math.MaxUint64, 0), of(math.MaxUint64-1, math.MaxUint64), of(math.MaxUint64, math.MaxUint64),
	}
}

// width is how many instants a window has.
const width = 7

// bases are where windows begin: at the begin of time, within it, and at its end.
func bases() []uint64 { return []uint64{0, 1 << 33, api.Forever - width} }

// window are the entries in the window at base, with each of these numbers, in the order of the chapter.
func window(base uint64, ids ...uint64) []Entry {
	var l []Entry
	for from := range uint64(width) {
		for to := from + 1; to <= width; to++ {
			for _, id := range ids {
				l = append(l, entry(base+from, base+to, id))
			}
		}
	}
	return l
}

// inOrder are the entries in the order of the chapter, told without this package.
func inOrder(l []Entry) []Entry {
	l = slices.Clone(l)
	slices.SortFunc(l, func(a, b Entry) int {
		return cmp.Or(cmp.Compare(a.Period.From, b.Period.From), cmp.Compare(a.Period.To, b.Period.To), cmp.Compare(a.Id, b.Id))
	})
	return l
}

// among are the entries of l with an instant from from on that is ahead of to, told by the words of the chapter.
func among(l []Entry, from, to uint64) []Entry {
	return inOrder(slices.DeleteFunc(slices.Clone(l), func(e Entry) bool { return max(e.Period.From, from) >= min(e.Period.To, to) }))
}

// grown is a tree with these entries, inserted in their order.
func grown(t *testing.T, l []Entry) *Tree {
	t.Helper()
	x := New()
	for _, e := range l {
		if err := x.Insert(e.Period, e.Id); err != api.OK {
			t.Fatalf("Insert(%v) is %d", e, err)
		}
	}
	return x
}

// holds checks that the tree has exactly the entries of l, and that it is sound.
func holds(t *testing.T, x *Tree, l []Entry) {
	t.Helper()
	if got, want := x.All(), inOrder(l); !slices.Equal(got, want) || x.Len() != len(l) {
		t.Fatalf("All is %v, not %v; Len is %d", got, want, x.Len())
	}
	sound(t, x)
}

// P7.1 to P7.3: the examples of the chapter.
func TestExamples(t *testing.T) {
	x := New()
	for i, got := range []api.Errno{x.Insert(of(1, 5), 7), x.Insert(of(3, 9), 2), x.Insert(of(1, 5), 7)} {
		if want := []api.Errno{api.OK, api.OK, api.ErrThere}[i]; got != want {
			t.Errorf("Insert %d is %d", i, got)
		}
	}
	if got := x.Stab(4); !slices.Equal(got, []Entry{entry(1, 5, 7), entry(3, 9, 2)}) {
		t.Errorf("Stab(4) is %v", got)
	}
	if got := x.Stab(5); !slices.Equal(got, []Entry{entry(3, 9, 2)}) {
		t.Errorf("Stab(5) is %v", got)
	}
	for i, got := range []api.Errno{x.Delete(of(3, 9), 7), x.Delete(of(3, 9), 2)} {
		if want := []api.Errno{api.ErrNone, api.OK}[i]; got != want {
			t.Errorf("Delete %d is %d", i, got)
		}
	}
	if got := x.Overlap(of(0, 1)); len(got) != 0 {
		t.Errorf("Overlap(0 1) is %v", got)
	}
	if got := x.Overlap(of(4, 6)); !slices.Equal(got, []Entry{entry(1, 5, 7)}) {
		t.Errorf("Overlap(4 6) is %v", got)
	}
}

// P7.1 and P7.4: a tree without entries, fresh or emptied.
func TestEmpty(t *testing.T) {
	emptied := grown(t, window(0, 1, 2))
	for _, e := range window(0, 1, 2) {
		emptied.Delete(e.Period, e.Id)
	}
	for name, x := range map[string]*Tree{"fresh": New(), "emptied": emptied, "copied": New().Copy()} {
		if x.Len() != 0 || len(x.All()) != 0 || x.Depth() != 0 || len(x.Stab(1)) != 0 || len(x.Overlap(of(0, 1<<40))) != 0 {
			t.Errorf("%s: %d entries, %v, in depth %d", name, x.Len(), x.All(), x.Depth())
		}
		if err := x.Delete(of(1, 2), 1); err != api.ErrNone {
			t.Errorf("%s: Delete is %d", name, err)
		}
		if err := x.Insert(of(1, 2), 1); err != api.OK {
			t.Errorf("%s: Insert is %d", name, err)
		}
		holds(t, x, []Entry{entry(1, 2, 1)})
	}
}

// P7.1 and P7.2: a nil tree, and one that New did not make. ErrNil is checked first.
func TestNotMade(t *testing.T) {
	var none *Tree
	for name, x := range map[string]*Tree{"nil": none, "not made": {}, "copy of nil": none.Copy(), "copy of one not made": new(Tree).Copy()} {
		for _, p := range append(invalid(), of(1, 2)) {
			if err := x.Insert(p, 1); err != api.ErrNil {
				t.Errorf("%s: Insert(%v) is %d", name, p, err)
			}
			if err := x.Delete(p, 1); err != api.ErrNil {
				t.Errorf("%s: Delete(%v) is %d", name, p, err)
			}
			if got := x.Overlap(p); len(got) != 0 {
				t.Errorf("%s: Overlap(%v) is %v", name, p, got)
			}
		}
		if x.Len() != 0 || len(x.All()) != 0 || len(x.Stab(1)) != 0 || x.Depth() != 0 {
			t.Errorf("%s: %d entries, %v, in depth %d", name, x.Len(), x.All(), x.Depth())
		}
	}
	if none.Copy() != nil {
		t.Error("a copy of nil is not nil")
	}
}

// P7.1: a copy and its original don't know of each other.
func TestCopy(t *testing.T) {
	r := rand.New(rand.NewSource(7))
	for range 200 {
		l := window(0, 1, 2)
		r.Shuffle(len(l), func(i, j int) { l[i], l[j] = l[j], l[i] })
		some := r.Intn(len(l))
		x := grown(t, l[:some])
		y := x.Copy()
		depth := y.Depth()
		if x == y || depth != x.Depth() {
			t.Errorf("the copy is %v, in depth %d, of one in depth %d", x == y, depth, x.Depth())
		}
		for _, e := range l[some:] {
			x.Insert(e.Period, e.Id)
		}
		holds(t, y, l[:some])
		for _, e := range l {
			x.Delete(e.Period, e.Id)
		}
		holds(t, x, nil)
		holds(t, y, l[:some])
		z := y.Copy()
		for _, e := range l[:some] {
			y.Delete(e.Period, e.Id)
		}
		holds(t, y, nil)
		holds(t, z, l[:some])
		if z.Depth() != depth {
			t.Errorf("the copy's depth became %d, not %d", z.Depth(), depth)
		}
	}
}

// P7.2: what Insert refuses, in its order, and that nothing has changed then.
func TestInsertRefuses(t *testing.T) {
	l := []Entry{entry(3, 5, 7), entry(0, 1<<40, 0), entry(0, 1, 0), entry(1<<40-1, 1<<40, math.MaxUint64)}
	x := grown(t, l)
	for _, p := range invalid() {
		for _, id := range []uint64{0, 7, math.MaxUint64} {
			if err := x.Insert(p, id); err != api.ErrArg {
				t.Errorf("Insert(%v, %d) is %d", p, id, err)
			}
		}
	}
	for _, e := range l {
		if err := x.Insert(e.Period, e.Id); err != api.ErrThere {
			t.Errorf("Insert(%v) is %d", e, err)
		}
	}
	holds(t, x, l)
}

// P7.2: entries that share their period, their number or an end are not the same.
func TestInsertAlike(t *testing.T) {
	l := []Entry{entry(3, 5, 7), entry(3, 5, 8), entry(3, 5, 0), entry(3, 6, 7), entry(2, 5, 7), entry(5, 7, 3), entry(3, 5, math.MaxUint64)}
	x := grown(t, l)
	holds(t, x, l)
	for i, e := range l {
		if err := x.Delete(e.Period, e.Id); err != api.OK {
			t.Errorf("Delete(%v) is %d", e, err)
		}
		holds(t, x, l[i+1:])
	}
}

// P7.2: what Delete refuses, and that nothing has changed then.
func TestDeleteRefuses(t *testing.T) {
	l := []Entry{entry(3, 5, 7), entry(0, 1<<40, 0), entry(3, 9, 2)}
	x := grown(t, l)
	for _, e := range []Entry{entry(3, 5, 6), entry(3, 5, 8), entry(3, 6, 7), entry(2, 5, 7), entry(4, 5, 7), entry(3, 9, 7), entry(5, 7, 3), entry(7, 3, 5), entry(0, 1<<40, 1)} {
		if err := x.Delete(e.Period, e.Id); err != api.ErrNone {
			t.Errorf("Delete(%v) is %d", e, err)
		}
	}
	for _, p := range invalid() {
		for _, id := range []uint64{0, 2, 7} {
			if err := x.Delete(p, id); err != api.ErrNone {
				t.Errorf("Delete(%v, %d) is %d", p, id, err)
			}
		}
	}
	holds(t, x, l)
	if err := x.Delete(of(3, 5), 7); err != api.OK {
		t.Errorf("Delete is %d", err)
	}
	if err := x.Delete(of(3, 5), 7); err != api.ErrNone {
		t.Errorf("Delete of what is gone is %d", err)
	}
	holds(t, x, l[1:])
}

// P7.3: Stab, at any numbers, against each entry asked by itself.
func TestStab(t *testing.T) {
	r := rand.New(rand.NewSource(73))
	for _, base := range bases() {
		for range 100 {
			l := window(base, 1, 2, 9)
			r.Shuffle(len(l), func(i, j int) { l[i], l[j] = l[j], l[i] })
			l = l[:r.Intn(len(l)/(1+r.Intn(9)))]
			x := grown(t, l)
			for at := base - 2; at != base+width+2; at++ {
				want := inOrder(slices.DeleteFunc(slices.Clone(l), func(e Entry) bool { return at < e.Period.From || at >= e.Period.To }))
				if got := x.Stab(at); !slices.Equal(got, want) {
					t.Fatalf("Stab(%d) of %v is %v", at, l, got)
				}
			}
		}
	}
}

// P7.3: Stab at the ends of time and beyond.
func TestStabEnds(t *testing.T) {
	l := []Entry{entry(0, 1, 5), entry(0, 1<<40, 3), entry(1<<40-1, 1<<40, 4)}
	x := grown(t, l)
	for at, want := range map[uint64][]Entry{
		0:              {l[0], l[1]},
		1:              {l[1]},
		1<<40 - 2:      {l[1]},
		1<<40 - 1:      {l[1], l[2]},
		1 << 40:        nil,
		1<<40 + 1:      nil,
		1 << 63:        nil,
		math.MaxUint64: nil,
	} {
		if got := x.Stab(at); !slices.Equal(got, want) {
			t.Errorf("Stab(%d) is %v", at, got)
		}
	}
}

// P7.3: Overlap, of all periods of a window, against each entry asked by itself.
func TestOverlap(t *testing.T) {
	r := rand.New(rand.NewSource(37))
	for _, base := range bases() {
		for range 100 {
			l := window(base, 1, 2, 9)
			r.Shuffle(len(l), func(i, j int) { l[i], l[j] = l[j], l[i] })
			l = l[:r.Intn(len(l)/(1+r.Intn(9)))]
			x := grown(t, l)
			for _, e := range window(base, 0) {
				if got := x.Overlap(e.Period); !slices.Equal(got, among(l, e.Period.From, e.Period.To)) {
					t.Fatalf("Overlap(%v) of %v is %v", e.Period, l, got)
				}
			}
			for _, p := range append(invalid(), of(base+5, base+3), of(base+3, base+3)) {
				if got := x.Overlap(p); len(got) != 0 {
					t.Fatalf("Overlap(%v) is %v", p, got)
				}
			}
		}
	}
}

// P7.3: periods that only meet have no instant in common.
func TestOverlapMeets(t *testing.T) {
	l := []Entry{entry(3, 5, 1), entry(5, 7, 1), entry(7, 9, 1)}
	x := grown(t, l)
	for _, y := range []struct {
		p    api.Period
		want []Entry
	}{
		{of(5, 7), l[1:2]}, {of(4, 5), l[:1]}, {of(4, 6), l[:2]}, {of(4, 8), l}, {of(0, 3), nil}, {of(9, 1<<40), nil}, {of(8, 9), l[2:]}, {of(0, 4), l[:1]}, {of(0, 1<<40), l},
	} {
		if got := x.Overlap(y.p); !slices.Equal(got, y.want) {
			t.Errorf("Overlap(%v) is %v", y.p, got)
		}
	}
}

// P7.5: Stab is Overlap of one instant, and Overlap of all time is All.
func TestStabIsOverlap(t *testing.T) {
	r := rand.New(rand.NewSource(75))
	for range 200 {
		var l []Entry
		for range r.Intn(60) {
			from := uint64(r.Int63n(1 << uint(1+r.Intn(40))))
			l = append(l, entry(from, from+1+uint64(r.Int63n(int64(api.Forever-from))), uint64(r.Intn(3))))
		}
		l = slices.Compact(inOrder(l))
		x := grown(t, l)
		if got := x.Overlap(of(0, 1<<40)); !slices.Equal(got, x.All()) || !slices.Equal(got, l) {
			t.Fatalf("Overlap of all time is %v, All %v, not %v", got, x.All(), l)
		}
		for _, e := range l {
			for _, at := range []uint64{e.Period.From, e.Period.From + 1, e.Period.To - 1, e.Period.To} {
				got := x.Stab(at)
				if !slices.Equal(got, x.Overlap(of(at, at+1))) || !slices.Equal(got, among(l, at, at+1)) && at < api.Forever {
					t.Fatalf("Stab(%d) is %v, Overlap %v", at, got, x.Overlap(of(at, at+1)))
				}
			}
		}
	}
}

// P7.5: all orders in which seven entries are inserted, and are deleted after that.
func TestAllOrders(t *testing.T) {
	l := []Entry{entry(1, 2, 3), entry(1, 9, 1), entry(1, 9, 2), entry(2, 3, 0), entry(2, 4, 9), entry(5, 9, 1), entry(6, 8, 1)}
	var orders func(done, left []Entry)
	orders = func(done, left []Entry) {
		if len(left) == 0 {
			x, y := grown(t, done), grown(t, l)
			holds(t, x, l)
			for i, e := range done {
				y.Delete(e.Period, e.Id)
				x.Delete(l[i].Period, l[i].Id)
				holds(t, y, done[i+1:])
				holds(t, x, l[i+1:])
			}
		}
		for i, e := range left {
			orders(append(slices.Clone(done), e), append(slices.Clone(left[:i]), left[i+1:]...))
		}
	}
	orders(nil, l)
}

// P7.2 and P7.5: long runs of calls, against a map of entries.
func TestRuns(t *testing.T) {
	r := rand.New(rand.NewSource(5))
	for range 60 {
		x, model := New(), map[Entry]int{}
		wide := 1 + r.Intn(40)
		for step := range 400 {
			from := uint64(r.Intn(wide))
			e := entry(from, from+uint64(r.Intn(wide)), uint64(r.Intn(3)))
			insert, wanted := r.Intn(800) > step, api.OK
			_, there := model[e]
			switch {
			case insert && e.Period.From == e.Period.To:
				wanted = api.ErrArg
			case insert && there:
				wanted = api.ErrThere
			case insert:
				model[e] = 1
			case !there:
				wanted = api.ErrNone
			default:
				delete(model, e)
			}
			call := x.Delete
			if insert {
				call = x.Insert
			}
			if err := call(e.Period, e.Id); err != wanted {
				t.Fatalf("%v, insert %v: %d, not %d", e, insert, err, wanted)
			}
			var l []Entry
			for e := range model {
				l = append(l, e)
			}
			holds(t, x, l)
		}
	}
}

// R3: results are new memory.
func TestResultsAreNew(t *testing.T) {
	l := window(0, 1, 2)
	x := grown(t, l)
	for _, got := range [][]Entry{x.All(), x.Stab(3), x.Overlap(of(1, 6))} {
		for i := range got {
			got[i] = entry(9, 1, 99)
		}
	}
	holds(t, x, l)
}

// R1: a struct that is assigned is the same tree.
func TestAssigned(t *testing.T) {
	x := grown(t, window(0, 1))
	y := *x
	for _, e := range window(0, 2, 3) {
		x.Insert(e.Period, e.Id)
	}
	for _, e := range window(0, 1, 2) {
		y.Delete(e.Period, e.Id)
	}
	holds(t, x, window(0, 3))
	holds(t, &y, window(0, 3))
}

// R7: goroutines that ask one tree at one time, or each change a copy of their own, don't disturb each other.
func TestGoroutines(t *testing.T) {
	l := window(0, 1, 2, 3)
	x := grown(t, l)
	done := make(chan *Tree)
	for range 8 {
		go func() {
			y := x.Copy()
			for _, e := range x.Stab(3) {
				y.Delete(e.Period, e.Id)
			}
			done <- y
		}()
	}
	for range 8 {
		holds(t, <-done, slices.DeleteFunc(slices.Clone(l), func(e Entry) bool { return e.Period.From <= 3 && 3 < e.Period.To }))
	}
	holds(t, x, l)
}
