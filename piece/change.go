package piece

import (
	"slices"

	"almanac/api"
	"almanac/iset"
	"almanac/period"
)

// Set is the line that means v in p, and what l means everywhere else: P12.2.
func Set(l []Piece, p api.Period, v api.Value) ([]Piece, api.Errno) {
	switch {
	case !Is(l):
		return nil, api.ErrForm
	case !period.May(p):
		return nil, api.ErrEmpty
	case !settable(v):
		return nil, api.ErrArg
	}
	parts := cut(l, func(q api.Period) []api.Period { return period.Minus(q, p) })
	if v.Kind != api.Null {
		parts = insert(parts, Piece{Period: p, Value: clone(v)})
	}
	return merge(parts), api.OK
}

// Within is the line that means what l means in the set, and Null everywhere else: P12.3.
func Within(l []Piece, set []api.Period) ([]Piece, api.Errno) {
	if !Is(l) {
		return nil, api.ErrForm
	}
	rest := iset.Of(set)
	parts := cut(l, func(q api.Period) []api.Period {
		// What ends ahead of one piece has no instant of those behind it, so it is looked at no more.
		for len(rest) > 0 && rest[0].To <= q.From {
			rest = rest[1:]
		}
		var common []api.Period
		for _, s := range rest {
			p, some := period.Meet(q, s)
			if !some { // s, and all behind it, begin where q has ended
				break
			}
			common = append(common, p)
		}
		return common
	})
	return merge(parts), api.OK
}

// cut is what remains of the pieces of l, in new memory. The function remain is called for the period of one piece after the other, in order, and returns those periods of it that are kept, in ascending order.
func cut(l []Piece, remain func(q api.Period) []api.Period) []Piece {
	var parts []Piece
	for _, x := range l {
		for _, p := range remain(x.Period) {
			parts = append(parts, Piece{Period: p, Value: clone(x.Value)})
		}
	}
	return parts
}

// insert puts x among pieces in ascending order that have no instant in common with it, or with each other.
func insert(parts []Piece, x Piece) []Piece {
	i, _ := slices.BinarySearchFunc(parts, x.Period, func(y Piece, p api.Period) int { return period.Compare(y.Period, p) })
	return slices.Insert(parts, i, x)
}

// merge is the line that means what the parts mean, which are in ascending order and don't overlap.
func merge(parts []Piece) []Piece {
	var line []Piece
next:
	for _, x := range parts {
		if last := len(line) - 1; last >= 0 && !follows(line[last], x) {
			line[last].Period.To = x.Period.To
			continue next
		}
		line = append(line, x)
	}
	return line
}
