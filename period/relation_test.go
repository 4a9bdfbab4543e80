package period

import (
	"math"
	"math/rand"
	"slices"
	"testing"

	"almanac/api"
)

// wantRelations are the relations of p to q by the chapter's table, each of the thirteen asked on its own.
func wantRelations(p, q api.Period) []int {
	var l []int
	for i, holds := range []bool{
		p.To < q.From,
		p.To == q.From,
		p.From < q.From && q.From < p.To && p.To < q.To,
		p.From == q.From && p.To < q.To,
		q.From < p.From && p.To < q.To,
		q.From < p.From && p.To == q.To,
		p.From == q.From && p.To == q.To,
		p.From < q.From && q.To == p.To,
		p.From < q.From && q.To < p.To,
		q.From == p.From && q.To < p.To,
		q.From < p.From && p.From < q.To && q.To < p.To,
		q.To == p.From,
		q.To < p.From,
	} {
		if holds {
			l = append(l, i+1)
		}
	}
	return l
}

// within are the valid periods whose ends are among n neighbours from base on.
func within(base, n uint64) []api.Period {
	var l []api.Period
	for from := range n {
		for to := from + 1; to < n; to++ {
			l = append(l, of(base+from, base+to))
		}
	}
	return l
}

// composed tells, as bits at [r][s], the relations of the first to the third of any three periods of l of which the first is in relation r to the second, and this in relation s to the third.
func composed(l []api.Period) [14][14]uint16 {
	var bits [14][14]uint16
	for _, p := range l {
		for _, q := range l {
			for _, u := range l {
				bits[wantRelations(p, q)[0]][wantRelations(q, u)[0]] |= 1 << wantRelations(p, u)[0]
			}
		}
	}
	return bits
}

// set are the numbers whose bits are set, in ascending order.
func set(bits uint16) []int {
	var l []int
	for i := range 16 {
		if bits>>i&1 == 1 {
			l = append(l, i)
		}
	}
	return l
}

// P5.3: one pair of periods for each relation, at the begin of time, within it and at its end.
func TestRelationExamples(t *testing.T) {
	for _, x := range []struct {
		p, q api.Period
		want int
	}{
		{of(0, 2), of(3, 5), 1},
		{of(1, 3), of(3, 5), 2},
		{of(1, 4), of(3, 5), 3},
		{of(3, 4), of(3, 5), 4},
		{of(4, 5), of(3, 6), 5},
		{of(4, 5), of(3, 5), 6},
		{of(3, 5), of(3, 5), 7},
		{of(0, 5), of(3, 5), 8},
		{of(0, 9), of(3, 5), 9},
		{of(3, 9), of(3, 5), 10},
		{of(4, 9), of(3, 5), 11},
		{of(5, 9), of(3, 5), 12},
		{of(6, 9), of(3, 5), 13},
	} {
		for _, base := range []uint64{0, 1 << 33, api.Forever - 9} {
			p, q := of(base+x.p.From, base+x.p.To), of(base+x.q.From, base+x.q.To)
			if got, err := Relation(p, q); got != x.want || err != api.OK {
				t.Errorf("Relation(%v, %v) is %d, %d", p, q, got, err)
			}
		}
	}
}

// P5.3 and P5.4: of any two periods, valid or not: ErrArg, or the one relation that the table tells; its converse is that with the periods exchanged.
func TestRelation(t *testing.T) {
	valid := append(validPeriods(), within(3, 8)...)
	for _, l := range [][]api.Period{anyPeriods(), within(3, 8)} {
		for _, p := range l {
			for _, q := range l {
				r, err := Relation(p, q)
				if !slices.Contains(valid, p) || !slices.Contains(valid, q) {
					if r != 0 || err != api.ErrArg {
						t.Errorf("Relation(%v, %v) is %d, %d", p, q, r, err)
					}
					continue
				}
				if !slices.Equal(wantRelations(p, q), []int{r}) || err != api.OK {
					t.Errorf("Relation(%v, %v) is %d, %d, not %v", p, q, r, err, wantRelations(p, q))
				}
				back, _ := Relation(q, p)
				if c, err := Converse(r); c != back || err != api.OK {
					t.Errorf("Converse(%d) is %d, %d, but Relation(%v, %v) is %d", r, c, err, q, p, back)
				}
			}
		}
	}
}

// P5.3: Relation of a period that is not valid, on either side, and on both.
func TestRelationRefuses(t *testing.T) {
	for _, p := range []api.Period{of(0, 0), of(3, 3), of(5, 4), of(3, 1<<40+1), of(1<<40, 1<<40+1), of(0, math.MaxUint64), of(math.MaxUint64, 0)} {
		for _, l := range [][2]api.Period{{p, of(1, 2)}, {of(1, 2), p}, {p, p}} {
			if r, err := Relation(l[0], l[1]); r != 0 || err != api.ErrArg {
				t.Errorf("Relation(%v, %v) is %d, %d", l[0], l[1], r, err)
			}
		}
	}
}

// wrongNumbers are numbers of no relation.
func wrongNumbers() []int {
	return []int{0, 14, -1, 15, 100, -13, math.MaxInt, math.MinInt, 1 << 32, 1<<32 + 1}
}

// P5.3: Converse.
func TestConverse(t *testing.T) {
	for i, want := range []int{13, 12, 11, 10, 9, 8, 7, 6, 5, 4, 3, 2, 1} {
		if got, err := Converse(i + 1); got != want || err != api.OK {
			t.Errorf("Converse(%d) is %d, %d", i+1, got, err)
		}
	}
	for _, r := range wrongNumbers() {
		if got, err := Converse(r); got != 0 || err != api.ErrArg {
			t.Errorf("Converse(%d) is %d, %d", r, got, err)
		}
	}
}

// P5.3: some compositions that are known.
func TestComposeExamples(t *testing.T) {
	all := []int{1, 2, 3, 4, 5, 6, 7, 8, 9, 10, 11, 12, 13}
	for _, x := range []struct {
		r, s int
		want []int
	}{
		{1, 1, []int{1}},
		{2, 2, []int{1}},
		{4, 10, []int{4, 7, 10}},
		{5, 9, all},
		{1, 13, all},
		{13, 1, all},
		{1, 5, []int{1, 2, 3, 4, 5}},
		{2, 12, []int{6, 7, 8}},
		{12, 2, []int{4, 7, 10}},
		{3, 3, []int{1, 2, 3}},
		{3, 11, []int{3, 4, 5, 6, 7, 8, 9, 10, 11}},
		{11, 3, []int{3, 4, 5, 6, 7, 8, 9, 10, 11}},
		{9, 5, []int{3, 4, 5, 6, 7, 8, 9, 10, 11}},
		{13, 13, []int{13}},
		{5, 5, []int{5}},
		{6, 8, []int{6, 7, 8}},
	} {
		if got, err := Compose(x.r, x.s); !slices.Equal(got, x.want) || err != api.OK {
			t.Errorf("Compose(%d, %d) is %v, %d", x.r, x.s, got, err)
		}
	}
}

// P5.3 and P5.5: all compositions are exactly what three periods show, whose ends are among more instants than they need.
func TestComposeIsExact(t *testing.T) {
	want := composed(within(2, 8))
	var size int
	for r := 1; r <= 13; r++ {
		for s := 1; s <= 13; s++ {
			got, err := Compose(r, s)
			if !slices.Equal(got, set(want[r][s])) || err != api.OK {
				t.Errorf("Compose(%d, %d) is %v, %d, not %v", r, s, got, err, set(want[r][s]))
			}
			size += len(got)
		}
	}
	if size != 409 { // the sizes of Allen's table, as it is known
		t.Errorf("the compositions have %d relations in all", size)
	}
}

// P5.5: the relations of periods far from each other, and at the ends of time, are in the compositions.
func TestComposeHasAll(t *testing.T) {
	r := rand.New(rand.NewSource(5))
	places := []uint64{0, 1, 1 << 20, 1<<20 + 1, 1 << 39, api.Forever - 1, api.Forever}
	for range 20 {
		places = append(places, uint64(r.Int63n(api.Forever)))
	}
	some := func() api.Period {
		for {
			if p := of(places[r.Intn(len(places))], places[r.Intn(len(places))]); p.From < p.To {
				return p
			}
		}
	}
	for range 20000 {
		p, q, u := some(), some(), some()
		pq, _ := Relation(p, q)
		qu, _ := Relation(q, u)
		pu, _ := Relation(p, u)
		if got, err := Compose(pq, qu); !slices.Contains(got, pu) || err != api.OK {
			t.Errorf("%v, %v and %v: %d is not in Compose(%d, %d), %v", p, q, u, pu, pq, qu, got)
		}
	}
}

// P5.3 and P5.4: equals changes nothing, and the composition of converses is that of the relations, exchanged and conversed.
func TestComposeConverses(t *testing.T) {
	for r := 1; r <= 13; r++ {
		left, _ := Compose(7, r)
		right, _ := Compose(r, 7)
		if !slices.Equal(left, []int{r}) || !slices.Equal(right, []int{r}) {
			t.Errorf("%d composed with equals: %v, %v", r, left, right)
		}
		for s := 1; s <= 13; s++ {
			got, _ := Compose(r, s)
			back, _ := Compose(14-s, 14-r)
			for i := range back {
				back[i] = 14 - back[i]
			}
			slices.Reverse(back)
			if !slices.Equal(got, back) {
				t.Errorf("Compose(%d, %d) is %v, but by converses %v", r, s, got, back)
			}
		}
	}
}

// P5.3: Compose of what is no relation, on either side, and on both.
func TestComposeRefuses(t *testing.T) {
	for _, wrong := range wrongNumbers() {
		for r := 1; r <= 13; r++ {
			for _, l := range [][2]int{{wrong, r}, {r, wrong}, {wrong, wrong}} {
				if got, err := Compose(l[0], l[1]); len(got) != 0 || err != api.ErrArg {
					t.Errorf("Compose(%d, %d) is %v, %d", l[0], l[1], got, err)
				}
			}
		}
	}
}

// P5.3 and R3: what Compose returns is new each time.
func TestComposeIsNew(t *testing.T) {
	a, _ := Compose(4, 10)
	b, _ := Compose(4, 10)
	for i := range a {
		a[i] = 99
	}
	c, _ := Compose(4, 10)
	if want := []int{4, 7, 10}; !slices.Equal(b, want) || !slices.Equal(c, want) {
		t.Errorf("results of Compose share memory: %v, %v", b, c)
	}
}

// R7: goroutines that use the package at one time don't disturb each other.
func TestGoroutines(t *testing.T) {
	done := make(chan []int)
	for range 8 {
		go func() {
			var got []int
			for range 200 {
				got, _ = Compose(9, 5)
			}
			done <- got
		}()
	}
	for range 8 {
		if got := <-done; !slices.Equal(got, []int{3, 4, 5, 6, 7, 8, 9, 10, 11}) {
			t.Errorf("Compose(9, 5) is %v", got)
		}
	}
}
