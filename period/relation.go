package period

import (
	"slices"

	"almanac/api"
)

// The relations of one period to another. Those behind equals are the converses of those ahead of it, in the opposite order.
const (
	before = 1 + iota
	meets
	overlaps
	starts
	during
	finishes
	equals
	after = 13
)

// ends is how many ends three periods have. Relations ask only for the order of ends, so periods between so many instants are in all relations in which three periods can be.
const ends = 6

// Relation is the number of the relation of p to q, or ErrArg: P5.3.
func Relation(p, q api.Period) (int, api.Errno) {
	if !May(p) || !May(q) {
		return 0, api.ErrArg
	}
	r := before
	for r < after && !test(r)(p, q) {
		r++
	}
	return r, api.OK
}

// Converse is the relation of q to p if r is that of p to q, or ErrArg: P5.3.
func Converse(r int) (int, api.Errno) {
	if !known(r) {
		return 0, api.ErrArg
	}
	return before + after - r, api.OK
}

// Compose are the relations of p to u that are possible if p is in relation r to a period that is in relation s to u, or ErrArg: P5.3.
func Compose(r, s int) ([]int, api.Errno) {
	if !known(r) || !known(s) {
		return nil, api.ErrArg
	}
	first, second, placed := test(r), test(s), placings()
	var possible []int
search:
	for _, p := range placed {
		for _, q := range placed {
			if !first(p, q) {
				continue
			}
			for _, u := range placed {
				if !second(q, u) {
					continue
				}
				if t, _ := Relation(p, u); !slices.Contains(possible, t) {
					possible = append(possible, t)
				}
				if len(possible) == after { // no further ends can add one
					break search
				}
			}
		}
	}
	slices.Sort(possible)
	return possible, api.OK
}

// known tells whether r is the number of a relation.
func known(r int) bool { return before <= r && r <= after }

// placings are all periods between as many instants as three periods have ends.
func placings() []api.Period {
	var placed []api.Period
	for to := range uint64(ends) {
		for from := range to {
			placed = append(placed, api.Period{From: from, To: to})
		}
	}
	return placed
}

// test makes the test of a relation, which tells whether p is in it to q, both of them valid. A converse is tested by the relation whose converse it is.
func test(r int) func(p, q api.Period) bool {
	tests := [...]func(p, q api.Period) bool{
		before:   func(p, q api.Period) bool { return p.To < q.From },
		meets:    func(p, q api.Period) bool { return p.To == q.From },
		overlaps: func(p, q api.Period) bool { return p.From < q.From && q.From < p.To && p.To < q.To },
		starts:   func(p, q api.Period) bool { return p.From == q.From && p.To < q.To },
		during:   func(p, q api.Period) bool { return q.From < p.From && p.To < q.To },
		finishes: func(p, q api.Period) bool { return q.From < p.From && p.To == q.To },
		equals:   func(p, q api.Period) bool { return p == q },
	}
	if r <= equals {
		return tests[r]
	}
	converse := tests[before+after-r]
	return func(p, q api.Period) bool { return converse(q, p) }
}
