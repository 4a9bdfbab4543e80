package entity

import (
	"slices"
	"strings"

	"almanac/api"
	"almanac/codec"
	"almanac/iset"
	"almanac/piece"
)

// Make is the entity that o creates: P13.2.
func Make(o api.Op) (Entity, api.Errno) {
	if !codec.MayOp(o) || o.Kind != api.OpNode && o.Kind != api.OpEdge {
		return Entity{}, api.ErrArg
	}
	return Entity{
		Edge:  o.Edge,
		Id:    o.Id,
		Label: strings.Clone(o.Label),
		From:  o.From,
		To:    o.To,
		Valid: []api.Period{o.Period},
	}, api.OK
}

// Apply is what e becomes by o: P13.3.
func Apply(e Entity, o api.Op) (Entity, api.Errno) {
	if !May(e) {
		return Entity{}, api.ErrForm
	}
	effect, some := effects()[o.Kind]
	if !some || !codec.MayOp(o) || o.Edge != e.Edge || o.Id != e.Id {
		return Entity{}, api.ErrArg
	}
	changed := clone(e)
	if err := effect(&changed, o); err != api.OK {
		return Entity{}, err
	}
	changed.Props = slices.DeleteFunc(changed.Props, func(x Prop) bool { return len(x.Line) == 0 })
	return changed, api.OK
}

// effects makes the table of what the operations of each kind do to an entity, to which they apply. They may leave properties whose lines have no pieces, and, with an error, anything.
func effects() map[int]func(e *Entity, o api.Op) api.Errno {
	return map[int]func(e *Entity, o api.Op) api.Errno{
		api.OpKeep: keep,
		api.OpDrop: drop,
		api.OpSet:  set,
	}
}

// keep makes e valid in the period of o, too.
func keep(e *Entity, o api.Op) api.Errno {
	e.Valid = iset.Union(e.Valid, []api.Period{o.Period})
	return api.OK
}

// drop takes the period of o from e, and from all its lines.
func drop(e *Entity, o api.Op) api.Errno {
	e.Valid = iset.Minus(e.Valid, []api.Period{o.Period})
	for i := range e.Props {
		line, err := piece.Within(e.Props[i].Line, e.Valid)
		if err != api.OK {
			return err
		}
		e.Props[i].Line = line
	}
	return api.OK
}

// set changes the line of the key of o, which may be a new one.
func set(e *Entity, o api.Op) api.Errno {
	if !iset.Covers(e.Valid, []api.Period{o.Period}) {
		return api.ErrUnknown
	}
	i, found := find(e.Props, o.Key)
	switch {
	case found:
	case o.Value.Kind == api.Null: // there is nothing to remove
		return api.OK
	case len(e.Props) == api.MaxKeys:
		return api.ErrLong
	default:
		e.Props = slices.Insert(e.Props, i, Prop{Key: strings.Clone(o.Key)})
	}
	line, err := piece.Set(e.Props[i].Line, o.Period, o.Value)
	e.Props[i].Line = line
	return err
}

// clone is e in new memory.
func clone(e Entity) Entity {
	e.Label = strings.Clone(e.Label)
	e.Valid = slices.Clone(e.Valid)
	props := make([]Prop, len(e.Props))
	for i, x := range e.Props {
		props[i] = Prop{Key: strings.Clone(x.Key), Line: copied(x.Line)}
	}
	e.Props = props
	return e
}

// copied is the line l in new memory.
func copied(l []piece.Piece) []piece.Piece {
	l = slices.Clone(l)
	for i := range l {
		l[i].Value.Str = strings.Clone(l[i].Value.Str)
	}
	return l
}
