package batch

import (
	"slices"
	"strings"

	"almanac/api"
	"almanac/codec"
	"almanac/entity"
	"almanac/piece"
)

// Apply is what s becomes by the operations, one after the other: P14.3. Edges may dangle in between.
func Apply(s State, ops []api.Op) (State, api.Errno) {
	if !May(s) {
		return State{}, api.ErrForm
	}
	if len(ops) > api.MaxOps {
		return State{}, api.ErrLong
	}
	next := State{Nodes: copiedList(s.Nodes), Edges: copiedList(s.Edges)}
	for _, o := range ops {
		if err := next.apply(o); err != api.OK {
			return State{}, err
		}
	}
	if _, _, dangles := Dangling(next); dangles {
		return State{}, api.ErrDangling
	}
	return next, api.OK
}

// apply does to s what o says: P14.3.
func (s *State) apply(o api.Op) api.Errno {
	if !codec.MayOp(o) {
		return api.ErrArg
	}
	list := s.list(o.Edge)
	if o.Kind == api.OpNode || o.Kind == api.OpEdge {
		return s.create(list, o)
	}
	if !isPlace(*list, o.Id) {
		return api.ErrUnknown
	}
	return change(*list, o.Id, func(e entity.Entity) (entity.Entity, api.Errno) { return entity.Apply(e, o) })
}

// create appends to the list the entity that o, a valid operation, creates.
func (s *State) create(list *[]entity.Entity, o api.Op) api.Errno {
	if o.Id != uint64(len(*list))+1 {
		return api.ErrArg
	}
	if o.Kind == api.OpEdge && !(isPlace(s.Nodes, o.From) && isPlace(s.Nodes, o.To)) {
		return api.ErrUnknown
	}
	*list = append(*list, entity.Entity{})
	return change(*list, o.Id, func(entity.Entity) (entity.Entity, api.Errno) { return entity.Make(o) })
}

// change replaces the entity at this position of the list by what the effect makes of it.
func change(list []entity.Entity, id uint64, effect func(e entity.Entity) (entity.Entity, api.Errno)) api.Errno {
	e, err := effect(list[id-1])
	if err == api.OK {
		list[id-1] = e
	}
	return err
}

// copiedList is the list in new memory.
func copiedList(list []entity.Entity) []entity.Entity {
	list = slices.Clone(list)
	for i, e := range list {
		list[i] = copied(e)
	}
	return list
}

// copied is e in new memory.
func copied(e entity.Entity) entity.Entity {
	e.Label = strings.Clone(e.Label)
	e.Valid = slices.Clone(e.Valid)
	props := make([]entity.Prop, len(e.Props))
	for i, x := range e.Props {
		props[i] = entity.Prop{Key: strings.Clone(x.Key), Line: copiedLine(x.Line)}
	}
	e.Props = props
	return e
}

// copiedLine is the line l in new memory.
func copiedLine(l []piece.Piece) []piece.Piece {
	l = slices.Clone(l)
	for i := range l {
		l[i].Value.Str = strings.Clone(l[i].Value.Str)
	}
	return l
}
