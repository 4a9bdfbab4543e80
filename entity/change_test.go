package entity

import (
	"math"
	"math/rand"
	"slices"
	"testing"

	"almanac/api"
	"almanac/piece"
)

// node is the OpNode of node 1 with the label n.
func node(p api.Period) api.Op { return api.Op{Kind: api.OpNode, Id: 1, Label: "n", Period: p} }

// edge is an OpEdge of edge 5.
func edge(p api.Period) api.Op {
	return api.Op{Kind: api.OpEdge, Edge: true, Id: 5, Label: "knows", From: 7, To: 9, Period: p}
}

// made is what Make returns, which has to be OK.
func made(t *testing.T, o api.Op) Entity {
	t.Helper()
	e, err := Make(o)
	if err != api.OK {
		t.Fatalf("Make(%v) is %d", o, err)
	}
	return e
}

// fails checks that Apply returns this error.
func fails(t *testing.T, e Entity, o api.Op, want api.Errno) {
	t.Helper()
	if got, err := Apply(e, o); err != want || !isZero(got) {
		t.Errorf("Apply(%v, %v) is %v, %d", e, o, got, err)
	}
}

// P13.2 and P13.3: the examples of the chapter.
func TestExamples(t *testing.T) {
	e := made(t, node(of(2, 9)))
	e = apply(t, e, setOp(e, "k", of(3, 6), number(5)), dropOp(e, of(4, 5)))
	if want := (Entity{Id: 1, Label: "n", Valid: periods(2, 4, 5, 9), Props: []Prop{prop("k", at(3, 4, number(5)), at(5, 6, number(5)))}}); !equal(e, want) || !May(e) {
		t.Errorf("the entity is %v", e)
	}
	fails(t, e, setOp(e, "k", of(3, 6), number(5)), api.ErrUnknown)
	fails(t, e, setOp(e, "j", of(3, 6), word("")), api.ErrUnknown)
}

// P13.2: Make of operations that create an entity.
func TestMake(t *testing.T) {
	for _, p := range periods(0, 1, 2, 9, 0, 1<<40, 1<<40-1, 1<<40, 7, 1<<40) {
		for _, id := range []uint64{1, 2, 1 << 40} {
			for _, label := range []string{"", "n", long} {
				got, want := made(t, api.Op{Kind: api.OpNode, Id: id, Label: label, Period: p}), Entity{Id: id, Label: label, Valid: []api.Period{p}}
				if !equal(got, want) || !May(got) {
					t.Errorf("Make of a node is %v, not %v", got, want)
				}
				got = made(t, api.Op{Kind: api.OpEdge, Edge: true, Id: id, Label: label, From: 1 << 40, To: id, Period: p})
				want = Entity{Edge: true, Id: id, Label: label, From: 1 << 40, To: id, Valid: []api.Period{p}}
				if !equal(got, want) || !May(got) {
					t.Errorf("Make of an edge is %v, not %v", got, want)
				}
			}
		}
	}
}

// P13.2: Make of operations that create none.
func TestMakeErrors(t *testing.T) {
	l := []api.Op{
		{}, keepOp(good(), of(0, 1)), dropOp(good(), of(0, 1)), setOp(good(), "k", of(0, 1), number(1)), setOp(Entity{Id: 1}, "k", of(0, 1), api.Value{}),
		{Kind: api.OpEdge, Edge: true, Id: 1, Period: of(0, 1)}, {Kind: api.OpEdge, Edge: true, Id: 1, From: 1, Period: of(0, 1)}, {Kind: api.OpEdge, Edge: true, Id: 1, To: 1, Period: of(0, 1)},
		{Kind: api.OpEdge, Id: 1, From: 1, To: 1, Period: of(0, 1)}, {Kind: api.OpNode, Edge: true, Id: 1, Period: of(0, 1)}, {Kind: api.OpNode, Edge: true, Id: 1, From: 1, To: 1, Period: of(0, 1)},
		{Kind: api.OpNode, Id: 1, From: 1, To: 1, Period: of(0, 1)}, {Kind: api.OpNode, Id: 1, From: 1, Period: of(0, 1)}, {Kind: api.OpNode, Id: 1, To: 1, Period: of(0, 1)},
	}
	for _, o := range []api.Op{node(of(0, 9)), edge(of(0, 9))} {
		for _, spoil := range spoilers() {
			x := o
			spoil(&x)
			l = append(l, x)
		}
		for _, s := range notWords() {
			x := o
			x.Label = s
			l = append(l, x)
		}
		x := o
		x.Key = "k"
		l = append(l, x)
	}
	for _, o := range l {
		if got, err := Make(o); err != api.ErrArg || !isZero(got) {
			t.Errorf("Make(%v) is %v, %d", o, got, err)
		}
	}
}

// spoilers are changes that make any valid operation, but an OpSet in some cases, an operation that isn't valid.
func spoilers() []func(o *api.Op) {
	l := []func(o *api.Op){
		func(o *api.Op) { o.Kind = 0 }, func(o *api.Op) { o.Kind = 6 }, func(o *api.Op) { o.Kind = -1 }, func(o *api.Op) { o.Kind = math.MaxInt }, func(o *api.Op) { o.Kind = math.MinInt },
		func(o *api.Op) { o.Id = 0 }, func(o *api.Op) { o.Id = 1<<40 + 1 }, func(o *api.Op) { o.Id = math.MaxUint64 },
	}
	for _, p := range badPeriods() {
		l = append(l, func(o *api.Op) { o.Period = p })
	}
	for _, v := range badValues() {
		l = append(l, func(o *api.Op) { o.Value = v })
	}
	return l
}

// P13.3: every operation, in all periods of a window, of all entities of one property.
func TestApplyAll(t *testing.T) {
	n := 0
	allModels(2, func(m model) {
		n++
		head := heads()[n%2]
		for _, p := range inWindow(m.base) {
			holds(t, m, head, keepOp(head, p), none)
			holds(t, m, head, dropOp(head, p), none)
			for _, place := range []int{none, 0, 1} {
				holds(t, m, head, setOp(head, "k", p, valueOf(place)), place)
			}
		}
	})
}

// P13.3: operations in the window and around it, of entities of several properties.
func TestApplySome(t *testing.T) {
	someModels(func(r *rand.Rand, m model) {
		head := heads()[r.Intn(2)]
		l := slices.Concat(inWindow(m.base), around(m.base))
		for range 4 {
			p := l[r.Intn(len(l))]
			if p.From >= m.base && p.To <= m.base+width {
				holds(t, m, head, keepOp(head, p), none)
			}
			holds(t, m, head, dropOp(head, p), none)
			for _, key := range []string{"a", "k", "z", "a0", "zz", long} {
				n := r.Intn(len(palette())+1) - 1
				holds(t, m, head, setOp(head, key, p, valueOf(n)), n)
				holds(t, m, head, setOp(head, key, p, api.Value{}), none)
			}
		}
	})
}

// P13.4: operations in the window and around it, instant by instant.
func TestApplyInstants(t *testing.T) {
	n := 0
	someModels(func(r *rand.Rand, m model) {
		if n++; n%10 > 0 {
			return
		}
		head := heads()[r.Intn(2)]
		for _, p := range inWindow(m.base) {
			key := []string{"a", "k", "zz"}[r.Intn(3)]
			holdsAtAll(t, m, head, keepOp(head, p))
			holdsAtAll(t, m, head, dropOp(head, p))
			holdsAtAll(t, m, head, setOp(head, key, p, valueOf(r.Intn(len(palette())))))
			holdsAtAll(t, m, head, setOp(head, key, p, api.Value{}))
		}
		for _, p := range around(m.base) {
			holdsAtAll(t, m, head, keepOp(head, p))
			holdsAtAll(t, m, head, dropOp(head, p))
		}
	})
}

// holds checks that Apply makes of an entity what the model says of it, and that nothing else changes.
func holds(t *testing.T, m model, head Entity, o api.Op, n int) {
	t.Helper()
	e := m.entity(head)
	after, want := m.after(o, n)
	if want != api.OK {
		fails(t, e, o, want)
		return
	}
	got := apply(t, e, o)
	if wanted := after.entity(head); !equal(got, wanted) || !May(got) || !Same(got, wanted) {
		t.Errorf("Apply(%v, %v) is %v", e, o, got)
	}
}

// holdsAtAll checks, for an operation that returns OK, what it does at each instant of the window and beside it.
func holdsAtAll(t *testing.T, m model, head Entity, o api.Op) {
	t.Helper()
	e := m.entity(head)
	got, err := Apply(e, o)
	if err != api.OK {
		return
	}
	for i := range uint64(width + 2) {
		x := m.base + i - 1
		holdsAt(t, e, got, o, x, o.Period.From <= x && x < o.Period.To)
	}
}

// holdsAt checks what an operation does at one instant, within its period or not.
func holdsAt(t *testing.T, before, after Entity, o api.Op, x uint64, inside bool) {
	t.Helper()
	valid := Has(before, x)
	if inside {
		valid = o.Kind != api.OpDrop
	}
	if Has(after, x) != valid {
		t.Errorf("%v by %v: %v: Has at %d is %v", before, o, after, x, !valid)
	}
	keys := []string{o.Key}
	for _, y := range before.Props {
		keys = append(keys, y.Key)
	}
	for _, key := range keys {
		want := At(before, key, x)
		switch {
		case inside && o.Kind == api.OpDrop:
			want = api.Value{}
		case inside && o.Kind == api.OpSet && key == o.Key:
			want = o.Value
		}
		if got := At(after, key, x); !isSame(got, want) {
			t.Errorf("%v by %v: %v: At of %q at %d is %v", before, o, after, key, x, got)
		}
	}
}

// P13.3: OpKeep, in periods known.
func TestKeep(t *testing.T) {
	e := good()
	for _, x := range []struct {
		p    api.Period
		want []api.Period
	}{
		{of(0, 1), periods(0, 1, 2, 5, 6, 12, 20, 1<<40)}, {of(0, 2), periods(0, 5, 6, 12, 20, 1<<40)}, {of(1, 6), periods(1, 12, 20, 1<<40)}, {of(5, 6), periods(2, 12, 20, 1<<40)},
		{of(3, 4), e.Valid}, {of(2, 5), e.Valid}, {of(1<<40-1, 1<<40), e.Valid}, {of(12, 20), periods(2, 5, 6, 1<<40)}, {of(13, 19), periods(2, 5, 6, 12, 13, 19, 20, 1<<40)}, {of(0, 1<<40), periods(0, 1<<40)},
	} {
		got := apply(t, e, keepOp(e, x.p))
		want := good()
		want.Valid = x.want
		if !equal(got, want) {
			t.Errorf("OpKeep in %v: %v", x.p, got)
		}
	}
}

// P13.3: OpDrop, in periods known.
func TestDrop(t *testing.T) {
	e := good()
	one, x := number(1), word("x")
	for _, y := range []struct {
		p     api.Period
		valid []api.Period
		props []Prop
	}{
		{of(0, 2), e.Valid, e.Props}, {of(5, 6), e.Valid, e.Props}, {of(12, 20), e.Valid, e.Props},
		{of(11, 21), periods(2, 5, 6, 11, 21, 1<<40), []Prop{e.Props[0], prop("b_2", at(3, 4, point(0)), at(4, 5, point(math.Copysign(0, -1))), at(8, 11, word(""))), e.Props[2]}},
		{of(7, 10), periods(2, 5, 6, 7, 10, 12, 20, 1<<40), []Prop{e.Props[0], prop("b_2", at(3, 4, point(0)), at(4, 5, point(math.Copysign(0, -1))), at(10, 12, word("")))}},
		{of(0, 30), periods(30, 1<<40), []Prop{prop("a", at(30, 1<<40, x))}},
		{of(3, 40), periods(2, 3, 40, 1<<40), []Prop{prop("a", at(2, 3, one), at(40, 1<<40, x))}},
		{of(3, 1<<40), periods(2, 3), []Prop{prop("a", at(2, 3, one))}}, {of(2, 1<<40), nil, nil}, {of(0, 1<<40), nil, nil},
		{of(1<<40-1, 1<<40), periods(2, 5, 6, 12, 20, 1<<40-1), []Prop{prop("a", at(2, 5, one), at(6, 7, one), at(30, 1<<40-1, x)), e.Props[1], e.Props[2]}},
	} {
		got := apply(t, e, dropOp(e, y.p))
		want := good()
		want.Valid, want.Props = y.valid, y.props
		if !equal(got, want) || !May(got) {
			t.Errorf("OpDrop in %v: %v", y.p, got)
		}
	}
}

// P13.3: an entity that was dropped is kept again without what it had; one that is never valid can be kept.
func TestDropAndKeep(t *testing.T) {
	e := made(t, edge(of(0, 1<<40)))
	e = apply(t, e, setOp(e, "k", of(0, 1<<40), number(1)), dropOp(e, of(5, 6)), keepOp(e, of(5, 6)))
	want := made(t, edge(of(0, 1<<40)))
	want.Props = []Prop{prop("k", at(0, 5, number(1)), at(6, 1<<40, number(1)))}
	if !equal(e, want) {
		t.Errorf("dropped and kept: %v", e)
	}
	e = apply(t, e, setOp(e, "k", of(5, 6), number(1)))
	want.Props = []Prop{prop("k", at(0, 1<<40, number(1)))}
	if !equal(e, want) {
		t.Errorf("set again: %v", e)
	}
	e = apply(t, e, dropOp(e, of(0, 1<<40)))
	if len(e.Valid) != 0 || len(e.Props) != 0 || e.Label != "knows" || e.From != 7 || !May(e) {
		t.Errorf("dropped: %v", e)
	}
	fails(t, e, setOp(e, "k", of(0, 1), number(1)), api.ErrUnknown)
	e = apply(t, e, dropOp(e, of(3, 4)), keepOp(e, of(3, 4)))
	if want := made(t, edge(of(3, 4))); !equal(e, want) {
		t.Errorf("kept again: %v", e)
	}
}

// P13.3: OpSet, with keys at all places among those that are there.
func TestSetKeys(t *testing.T) {
	e := Entity{Id: 1, Valid: periods(0, 9)}
	keys := []string{"m", "a", "z", "b", "y", "m_", "m0", "ma", "mz", "l", "n", "a_", "zz", "aa", long, "abcdefghijk_012"}
	r := rand.New(rand.NewSource(133))
	for range 200 {
		r.Shuffle(len(keys), func(i, j int) { keys[i], keys[j] = keys[j], keys[i] })
		full := e
		for i, key := range keys {
			full = apply(t, full, setOp(e, key, of(uint64(i%8), 9), word(key)))
			if len(full.Props) != i+1 || !May(full) {
				t.Fatalf("with %q: %v", key, full)
			}
		}
		for i, key := range keys {
			if got := Line(full, key); !equalLines(got, []piece.Piece{at(uint64(i%8), 9, word(key))}) {
				t.Errorf("Line of %q is %v", key, got)
			}
		}
		for i, key := range keys {
			full = apply(t, full, setOp(e, key, of(0, 9), api.Value{}))
			if len(full.Props) != 15-i || !May(full) {
				t.Fatalf("without %q: %v", key, full)
			}
		}
	}
}

// P13.3: ErrLong, for a new property beside 16 others, unless it is set to Null.
func TestSetMany(t *testing.T) {
	e := with(func(e *Entity) { e.Props = manyProps(16) })
	for _, key := range []string{"a", "k", "ka0", "kp0", "z", long} {
		fails(t, e, setOp(e, key, of(3, 4), number(1)), api.ErrLong)
		fails(t, e, setOp(e, key, of(20, 1<<40), word("")), api.ErrLong)
		if got := apply(t, e, setOp(e, key, of(3, 4), api.Value{})); !equal(got, e) {
			t.Errorf("%q set to null: %v", key, got)
		}
		fails(t, e, setOp(e, key, of(3, 6), number(1)), api.ErrUnknown)
		fails(t, e, setOp(e, key, of(3, 6), api.Value{}), api.ErrUnknown)
		fails(t, e, setOp(e, key, of(3, 4), api.Value{Kind: api.Node, Num: 1}), api.ErrArg)
	}
	for i, x := range e.Props {
		got := apply(t, e, setOp(e, x.Key, of(4, 5), number(-1)))
		if len(got.Props) != 16 || !equalLines(got.Props[i].Line, []piece.Piece{at(3, 4, number(int64(i))), at(4, 5, number(-1))}) {
			t.Errorf("%q changed: %v", x.Key, got)
		}
		got = apply(t, e, setOp(e, x.Key, of(3, 4), api.Value{}), setOp(e, "new", of(3, 4), number(-1)))
		if len(got.Props) != 16 || len(Line(got, x.Key)) != 0 || len(Line(got, "new")) != 1 {
			t.Errorf("%q removed, and another one set: %v", x.Key, got)
		}
	}
	fewer := with(func(e *Entity) { e.Props = manyProps(15) })
	if got := apply(t, fewer, setOp(fewer, "a", of(3, 4), number(1))); len(got.Props) != 16 || got.Props[0].Key != "a" {
		t.Errorf("the 16th property: %v", got)
	}
}

// P13.3: ErrUnknown, for each period of which the entity isn't valid at every instant, whatever is set.
func TestSetUnknown(t *testing.T) {
	e := good()
	for _, p := range periods(0, 1, 1, 2, 1, 3, 0, 5, 4, 6, 5, 6, 5, 7, 4, 7, 2, 6, 2, 12, 3, 10, 11, 13, 12, 13, 12, 20, 19, 21, 19, 1<<40, 11, 1<<40, 2, 1<<40, 0, 1<<40) {
		for _, key := range []string{"a", "b_2", "c"} {
			fails(t, e, setOp(e, key, p, number(1)), api.ErrUnknown)
			fails(t, e, setOp(e, key, p, api.Value{}), api.ErrUnknown)
			fails(t, Entity{Id: 3}, setOp(Entity{Id: 3}, key, p, number(1)), api.ErrUnknown)
		}
	}
	for _, p := range periods(2, 5, 2, 3, 4, 5, 6, 12, 11, 12, 20, 1<<40, 1<<40-1, 1<<40) {
		for _, key := range []string{"a", "b_2", "c"} {
			if got := At(apply(t, e, setOp(e, key, p, word("new"))), key, p.From); !isSame(got, word("new")) {
				t.Errorf("%q set in %v: %v", key, p, got)
			}
		}
	}
}

// notApplying are operations that don't apply to e, whose periods are valid in it, or not.
func notApplying(e Entity) []api.Op {
	l := []api.Op{{}, node(of(2, 3)), edge(of(2, 3)), node(of(0, 1)), edge(of(0, 1)), {Kind: api.OpNode, Id: e.Id, Period: of(2, 3)}, {Kind: api.OpEdge, Edge: true, Id: e.Id, From: 1, To: 1, Period: of(2, 3)}}
	for _, o := range []api.Op{keepOp(e, of(2, 5)), dropOp(e, of(2, 5)), setOp(e, "a", of(2, 5), number(1)), setOp(e, "new", of(0, 6), api.Value{})} {
		others := append(spoilers(),
			func(o *api.Op) { o.Edge = !o.Edge }, func(o *api.Op) { o.Id-- }, func(o *api.Op) { o.Id++ }, func(o *api.Op) { o.Label = "n" }, func(o *api.Op) { o.From = 7 }, func(o *api.Op) { o.To = 9 },
			func(o *api.Op) { o.Kind = api.OpNode }, func(o *api.Op) { o.Kind = api.OpEdge }, func(o *api.Op) { o.Kind, o.Key = api.OpKeep, "k" }, func(o *api.Op) { o.Kind, o.Key = api.OpDrop, "k" },
			func(o *api.Op) { o.Kind, o.Value = api.OpKeep, number(0) }, func(o *api.Op) { o.Kind, o.Value = api.OpDrop, word("") }, func(o *api.Op) { o.Kind, o.Key = api.OpSet, "" },
		)
		for _, s := range notWords() {
			others = append(others, func(o *api.Op) { o.Kind, o.Key = api.OpSet, s })
		}
		for _, other := range others {
			x := o
			other(&x)
			l = append(l, x)
		}
	}
	return l
}

// P13.3: ErrArg, for operations that don't apply, ahead of ErrUnknown and ErrLong.
func TestApplyErrArg(t *testing.T) {
	for _, e := range []Entity{good(), with(func(e *Entity) { e.Props = manyProps(16) }), with(func(e *Entity) { e.Edge, e.From, e.To = false, 0, 0 }), with(func(e *Entity) { e.Valid, e.Props = nil, nil })} {
		for _, o := range notApplying(e) {
			fails(t, e, o, api.ErrArg)
		}
	}
	for _, id := range []uint64{1, 1 << 40} {
		e := Entity{Id: id}
		fails(t, e, keepOp(Entity{Id: id - 1}, of(0, 1)), api.ErrArg)
		fails(t, e, keepOp(Entity{Id: id + 1}, of(0, 1)), api.ErrArg)
		fails(t, e, keepOp(Entity{Id: id, Edge: true}, of(0, 1)), api.ErrArg)
	}
}

// P13.3: ErrForm, for entities that are not well-formed, ahead of all else.
func TestApplyErrForm(t *testing.T) {
	for _, e := range illFormed() {
		for _, o := range append(notApplying(good()), notApplying(e)[:20]...) {
			fails(t, e, o, api.ErrForm)
		}
		for _, o := range []api.Op{keepOp(e, of(2, 3)), dropOp(e, of(0, 1<<40)), setOp(e, "a", of(2, 3), number(1)), setOp(e, "new", of(2, 3), api.Value{}), setOp(e, "new", of(0, 6), number(1))} {
			fails(t, e, o, api.ErrForm)
		}
	}
}

// P13.3 and P13.5: many operations, one after the other, with more keys than an entity can have, so that each error occurs.
func TestWalk(t *testing.T) {
	r := rand.New(rand.NewSource(135))
	var count [api.ErrUnknown + 1]int
	for n, base := range append(bases(), bases()...) {
		head := heads()[n/4]
		m := model{base: base}
		e := m.entity(head)
		for range 3000 {
			p := inWindow(base)[r.Intn(len(inWindow(base)))]
			value := r.Intn(8) - 1
			o := setOp(head, "k"+string(rune('a'+r.Intn(20))), p, valueOf(value))
			switch r.Intn(60) {
			case 0:
				o = dropOp(head, p)
			case 1, 2:
				o = keepOp(head, p)
			}
			next, want := m.after(o, value)
			count[want]++
			if want != api.OK {
				fails(t, e, o, want)
				continue
			}
			m, e = next, apply(t, e, o)
			if !equal(e, m.entity(head)) || !May(e) {
				t.Fatalf("by %v it became %v", o, e)
			}
		}
	}
	if min(count[api.OK], count[api.ErrLong], count[api.ErrUnknown]) < 500 {
		t.Errorf("too few of one sort: %v", count)
	}
}

// P13.5: entities that are the same at each instant are equal, in whatever way they were made.
func TestOneEntity(t *testing.T) {
	r := rand.New(rand.NewSource(1355))
	for range 300 {
		for _, base := range bases() {
			m := some(r, base, 3, "k", "a", "z")
			a, b := made(t, node(of(base, base+width))), made(t, node(of(base+2, base+3)))
			for _, i := range r.Perm(width) { // instant by instant
				p := of(base+uint64(i), base+uint64(i)+1)
				a = apply(t, a, setOp(a, "gone", p, number(1)), dropOp(a, p))
				if m.valid[i] {
					a = apply(t, a, keepOp(a, p), setOp(a, "k", p, valueOf(m.props["k"][i])), setOp(a, "z", p, valueOf(m.props["z"][i])), setOp(a, "a", p, valueOf(m.props["a"][i])))
				}
			}
			b = apply(t, b, keepOp(b, of(0, 1<<40)))
			for i := range width { // from each instant on
				for _, key := range []string{"a", "k", "z"} {
					b = apply(t, b, setOp(b, key, of(base+uint64(i), 1<<40), valueOf(m.props[key][i])))
				}
			}
			for i, valid := range m.valid {
				if !valid {
					b = apply(t, b, dropOp(b, of(base+uint64(i), base+uint64(i)+1)))
				}
			}
			for _, p := range periods(0, base, base+width, 1<<40) {
				if p.From < p.To {
					b = apply(t, b, dropOp(b, p))
				}
			}
			if want := m.entity(Entity{Id: 1, Label: "n"}); !equal(a, want) || !equal(b, want) || !Same(a, b) {
				t.Errorf("%v: %v and %v", want, a, b)
			}
		}
	}
}

// spoil fills all the memory of an answer, and that behind its lists, and checks that no two of its lists share any.
func spoil(t *testing.T, e Entity) {
	t.Helper()
	for i, x := range e.Props {
		kept := deep(e)
		line := x.Line[:cap(x.Line)]
		for j := range line {
			line[j] = at(7, 7, number(7))
		}
		kept.Props[i].Line = e.Props[i].Line
		if !equal(kept, e) {
			t.Errorf("lines of %v share memory", e)
		}
	}
	valid := e.Valid[:cap(e.Valid)]
	for i := range valid {
		valid[i] = of(7, 7)
	}
	props := e.Props[:cap(e.Props)]
	for i := range props {
		props[i] = prop("spoilt")
	}
}

// Arguments are not changed, and what is returned is new memory.
func TestMemory(t *testing.T) {
	e, kept := deep(good()), good()
	ops := []api.Op{keepOp(e, of(3, 4)), keepOp(e, of(12, 13)), keepOp(e, of(5, 6)), dropOp(e, of(13, 14)), dropOp(e, of(9, 22)), dropOp(e, of(0, 1<<40)), dropOp(e, of(7, 10))}
	for _, key := range []string{"a", "b_2", "z", "0", "b", "c", "zz"} {
		for _, p := range periods(2, 5, 6, 7, 7, 10, 10, 12, 40, 50) {
			ops = append(ops, setOp(e, key, p, number(1)), setOp(e, key, p, api.Value{}), setOp(e, key, p, word("new")))
		}
	}
	for _, o := range append(ops, notApplying(e)...) {
		got, _ := Apply(e, o)
		spoil(t, got)
		for _, key := range []string{"a", "b_2", "z"} {
			l := Line(e, key)
			clear(l[:cap(l)])
			At(e, key, 3)
		}
		clear(Ends(e))
		if Same(e, kept); Has(e, 0) || !May(e) || !equal(e, kept) {
			t.Fatalf("by %v the argument became %v", o, e)
		}
		if rest := e.Valid[len(e.Valid):cap(e.Valid)]; slices.ContainsFunc(rest, func(p api.Period) bool { return p != api.Period{} }) {
			t.Fatalf("by %v there is %v behind the periods", o, rest)
		}
		if rest := e.Props[len(e.Props):cap(e.Props)]; slices.ContainsFunc(rest, func(x Prop) bool { return x.Key != "" || x.Line != nil }) {
			t.Fatalf("by %v there is %v behind the properties", o, rest)
		}
		for _, x := range e.Props {
			if rest := x.Line[len(x.Line):cap(x.Line)]; slices.ContainsFunc(rest, func(y piece.Piece) bool { return y != piece.Piece{} }) {
				t.Fatalf("by %v there is %v behind a line", o, rest)
			}
		}
	}
}
