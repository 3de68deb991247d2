package walk_test

import (
	"math"
	"slices"
	"testing"

	"gleaning/api"
	"gleaning/arena"
	"gleaning/handle"
	"gleaning/inner"
	"gleaning/layout"
	"gleaning/leaf"
	"gleaning/memory"
	"gleaning/seek"
	"gleaning/vword"
	"gleaning/walk"
)

var (
	conf = api.Config{Slots: 9, Threads: 2, Fan: 4, Limbo: 1, Patience: 1}
	l    = layout.New(conf)
)

func load(at int) api.Ask { return api.Ask{Kind: api.AskLoad, At: at} }

func store(at int, w uint64) api.Ask { return api.Ask{Kind: api.AskStore, At: at, New: w} }

// h is the handle of a slot, of the generation that is ten more.
func h(slot int) uint64 { return handle.Make(uint64(slot+10), slot) }

// v is the version word of that generation.
func v(slot int) uint64 { return vword.Make(uint64(slot+10), 5, false, false) }

// told is an access that must be wanted, what it tells, and what it means.
type told struct {
	want  api.Ask
	got   uint64
	marks []api.Mark
}

func begin(h, v uint64) []api.Mark { return []api.Mark{{Kind: api.MarkBegin, A: h, B: v}} }

func check(h uint64) []api.Mark { return []api.Mark{{Kind: api.MarkCheck, A: h}} }

func miss(h uint64) []api.Mark { return []api.Mark{{Kind: api.MarkMiss, A: h}} }

func firm(p, h uint64) []api.Mark {
	return []api.Mark{{Kind: api.MarkCheck, A: p}, {Kind: api.MarkFirm, A: h}}
}

// goes holds a walk to its accesses; it is told what they tell.
func goes(t *testing.T, name string, w walk.Walk, steps ...told) walk.Walk {
	t.Helper()
	for i, x := range steps {
		if o, ok := w.Done(); o != 0 || ok {
			t.Fatalf("%s: it has come ahead of access %d", name, i)
		}
		if w.Want() != x.want {
			t.Fatalf("%s: access %d is %v, not %v", name, i, w.Want(), x.want)
		}
		was, next := w, w.Took(x.got)
		if was != w || next != w.Took(x.got) {
			t.Fatalf("%s: it is no value", name)
		}
		w = next
		if !slices.Equal(w.Marks(), x.marks) {
			t.Errorf("%s: access %d means %v, not %v", name, i, w.Marks(), x.marks)
		}
		if s := w.Still(); len(s.Marks()) != 0 || s.Want() != w.Want() || s.Spot != w.Spot || s.Took(5) != w.Took(5) {
			t.Errorf("%s: Still is another walk", name)
		}
	}
	return w
}

// comes holds a walk to what it comes to.
func comes(t *testing.T, name string, w walk.Walk, outcome int, spot walk.Spot) {
	t.Helper()
	if o, ok := w.Done(); o != outcome || !ok || w.Want() != (api.Ask{}) {
		t.Errorf("%s: it comes to %d, %v, and wants %v", name, o, ok, w.Want())
	}
	if w.Spot != spot {
		t.Errorf("%s: its spot is %+v, not %+v", name, w.Spot, spot)
	}
	if next := w.Took(1); next != w.Still() || len(next.Marks()) != 0 {
		t.Errorf("%s: it goes on", name)
	}
	if outcome != walk.Stop && w.GoOn() != w || outcome != walk.Leaf && w.Next(h(1)) != w {
		t.Errorf("%s: it goes on where it has not stopped", name)
	}
}

// first are the accesses up to the first child's shape, of a walk that is not slow.
func first(shape uint64) []told {
	return []told{{load(l.Version(0)), 8, begin(0, 8)}, {load(l.Value(0, 0)), h(3), nil}, {load(l.Version(3)), v(3), begin(h(3), v(3))}, {load(l.Version(0)), 8, check(0)}, {load(l.Shape(3)), shape, nil}}
}

// below is the spot of the first child.
func below(n int, isInner bool) walk.Spot {
	return walk.Spot{PV: 8, PN: 1, H: h(3), V: v(3), N: n, Inner: isInner}
}

func leafOf(n int) uint64 { return layout.Pack(false, n) }

func innerOf(n int) uint64 { return layout.Pack(true, n) }

func TestNumbers(t *testing.T) {
	if walk.Read != 1 || walk.Grow != 2 || walk.Thin != 3 || walk.Leaf != 1 || walk.Stop != 2 || walk.Restart != 3 {
		t.Error("the modes' numbers, or the outcomes'")
	}
}

func TestLeafAtOnce(t *testing.T) { // 20.1, 20.2, 20.3
	for mode := walk.Read; mode <= walk.Thin; mode++ {
		for n, want := range map[int]int{0: 0, 3: 3, 4: 4, 5: 4, 255: 4} {
			w := goes(t, "a leaf", walk.New(l, 0, mode, 5, false), first(leafOf(n))...)
			comes(t, "a leaf", w, walk.Leaf, below(want, false))
		}
	}
	slow := []told{{load(l.Version(0)), 8, begin(0, 8)}, {load(l.Value(0, 0)), h(3), nil}, {store(l.Hazard(1, 0), h(3)), 9, nil}, {load(l.Version(3)), v(3), begin(h(3), v(3))}, {load(l.Version(0)), 8, firm(0, h(3))}, {load(l.Shape(3)), leafOf(2) | 1<<60, nil}}
	comes(t, "a slow one", goes(t, "a slow one", walk.New(l, 1, walk.Read, 5, true), slow...), walk.Leaf, below(2, false))
}

func TestBeginning(t *testing.T) { // 20.1, 20.2: who is locked is loaded once more
	locked, dead := vword.Lock(8), vword.Kill(8)
	w := walk.New(l, 0, walk.Read, 5, false)
	if w.Spot != (walk.Spot{}) {
		t.Error("a walk that begins has a spot")
	}
	w = goes(t, "the anchor is locked", w, told{load(l.Version(0)), locked, nil}, told{load(l.Version(0)), locked, nil}, told{load(l.Version(0)), dead, begin(0, dead)}, told{load(l.Value(0, 0)), h(3), nil})
	w = goes(t, "the child is locked", w, told{load(l.Version(3)), vword.Lock(v(3)), nil}, told{load(l.Version(3)), v(3), begin(h(3), v(3))}, told{load(l.Version(0)), dead, check(0)}, told{load(l.Shape(3)), leafOf(1), nil})
	comes(t, "locked", w, walk.Leaf, walk.Spot{PV: dead, PN: 1, H: h(3), V: v(3), N: 1})
}

func TestRestarts(t *testing.T) { // 20.2
	for _, bad := range []uint64{0, handle.Make(1, 10), h(3) | 1<<40, math.MaxUint64, 5 << 16} {
		w := goes(t, "no handle", walk.New(l, 0, walk.Read, 5, true), first(0)[0], told{load(l.Value(0, 0)), bad, nil})
		comes(t, "no handle", w, walk.Restart, walk.Spot{PV: 8, PN: 1})
	}
	spot := walk.Spot{PV: 8, PN: 1, H: h(3)}
	for _, stale := range []uint64{vword.Kill(v(3)), vword.Lock(vword.Kill(v(3))), vword.Renew(v(3)), vword.Undo(vword.Renew(v(3))), 0} {
		w := goes(t, "stale", walk.New(l, 0, walk.Read, 5, false), first(0)[0], first(0)[1], told{load(l.Version(3)), stale, nil})
		comes(t, "stale", w, walk.Restart, spot)
	}
	for _, other := range []uint64{vword.Lock(8), vword.Bump(8), 0} {
		w := goes(t, "the parent is turned", walk.New(l, 0, walk.Read, 5, false), append(first(0)[:3], told{load(l.Version(0)), other, miss(0)})...)
		comes(t, "the parent is turned", w, walk.Restart, walk.Spot{PV: 8, PN: 1, H: h(3), V: v(3)})
	}
}

// second are the accesses from an inner node of three entries, with the keys 20 and 40, to the child that is looked for by 30, up to its shape.
func second(shape uint64) []told {
	return []told{{load(l.Key(3, 1)), 40, nil}, {load(l.Key(3, 0)), 20, nil}, {load(l.Value(3, 1)), h(5), nil}, {load(l.Version(3)), v(3), check(h(3))},
		{load(l.Version(5)), v(5), begin(h(5), v(5))}, {load(l.Version(3)), v(3), check(h(3))}, {load(l.Shape(5)), shape, nil}}
}

func TestInner(t *testing.T) { // 20.3
	w := goes(t, "inner", walk.New(l, 0, walk.Read, 30, false), append(first(innerOf(3)), second(leafOf(2))...)...)
	comes(t, "inner", w, walk.Leaf, walk.Spot{P: h(3), PV: v(3), PN: 3, I: 1, H: h(5), V: v(5), N: 2, Depth: 1})

	w = goes(t, "its parent's fields", walk.New(l, 0, walk.Read, 30, false), append(first(innerOf(3)), second(0)[:4]...)...)
	if w.Spot != (walk.Spot{P: h(3), PV: v(3), PN: 3, I: 1, H: h(5), V: v(3), N: 3, Inner: true, Depth: 1}) {
		t.Errorf("what a spot tells does not stay: %+v", w.Spot)
	}
	w = goes(t, "the child's version", w, told{load(l.Version(5)), v(5), begin(h(5), v(5))})
	if w.Spot != (walk.Spot{P: h(3), PV: v(3), PN: 3, I: 1, H: h(5), V: v(5), N: 3, Inner: true, Depth: 1}) {
		t.Errorf("what a spot tells does not stay: %+v", w.Spot)
	}
	w = goes(t, "the parent is turned", w, told{load(l.Version(3)), vword.Lock(v(3)), miss(h(3))})
	comes(t, "the parent is turned", w, walk.Restart, walk.Spot{P: h(3), PV: v(3), PN: 3, I: 1, H: h(5), V: v(5), N: 3, Inner: true, Depth: 1})
}

func TestInnerIsTurned(t *testing.T) { // 20.3
	steps := append(first(innerOf(3)), second(0)[:3]...)
	w := goes(t, "the child is turned", walk.New(l, 0, walk.Read, 30, false), append(steps, told{load(l.Version(3)), vword.Bump(v(3)), miss(h(3))})...)
	comes(t, "the child is turned", w, walk.Restart, below(3, true))

	steps = append(first(innerOf(3)), second(0)[:4]...)
	steps[len(steps)-2].got = handle.Make(1, 10)
	w = goes(t, "no child", walk.New(l, 0, walk.Read, 30, false), steps...)
	comes(t, "no child", w, walk.Restart, walk.Spot{P: h(3), PV: v(3), PN: 3, I: 1, H: h(3), V: v(3), N: 3, Inner: true, Depth: 1})
}

func TestFewEntries(t *testing.T) { // 20.3: an inner node has one at least
	for _, n := range []int{0, 1} {
		steps := append(first(innerOf(n)), told{load(l.Value(3, 0)), h(5), nil}, told{load(l.Version(3)), v(3), check(h(3))}, told{load(l.Version(5)), v(5), begin(h(5), v(5))}, told{load(l.Version(3)), v(3), check(h(3))}, told{load(l.Shape(5)), leafOf(0), nil})
		w := goes(t, "few", walk.New(l, 0, walk.Read, 30, false), steps...)
		comes(t, "few", w, walk.Leaf, walk.Spot{P: h(3), PV: v(3), PN: 1, I: 0, H: h(5), V: v(5), Depth: 1})
	}
}

func TestSlowDepths(t *testing.T) { // 20.2: hazards by turns
	w := goes(t, "slow", walk.New(l, 1, walk.Read, 30, true), first(0)[0], first(0)[1])
	p, pv := uint64(0), uint64(8)
	slot := 3
	for depth := range 5 {
		w = goes(t, "slow", w, told{store(l.Hazard(1, depth%2), h(slot)), 0, nil}, told{load(l.Version(slot)), v(slot), begin(h(slot), v(slot))}, told{load(l.Version(handle.Slot(p))), pv, firm(p, h(slot))}, told{load(l.Shape(slot)), innerOf(1), nil},
			told{load(l.Value(slot, 0)), h(slot + 1), nil}, told{load(l.Version(slot)), v(slot), check(h(slot))})
		p, pv = h(slot), v(slot)
		slot++
		if w.Depth != depth+1 || w.P != p || w.H != h(slot) {
			t.Fatalf("%+v", w.Spot)
		}
	}
}

func TestGrow(t *testing.T) { // 20.3, 20.4
	for _, n := range []int{4, 5, 99} {
		w := goes(t, "full", walk.New(l, 0, walk.Grow, 30, false), first(innerOf(n))...)
		comes(t, "full", w, walk.Stop, below(4, true))
		on := goes(t, "goes on", w.GoOn(), told{load(l.Key(3, 1)), 40, nil}, told{load(l.Key(3, 0)), 20, nil}, told{load(l.Value(3, 1)), h(5), nil}, told{load(l.Version(3)), v(3), check(h(3))})
		if on.I != 1 || on.PN != 4 {
			t.Errorf("%+v", on.Spot)
		}
	}
	w := goes(t, "not full", walk.New(l, 0, walk.Grow, 30, false), append(first(innerOf(3)), second(innerOf(4))...)...)
	comes(t, "not full", w, walk.Stop, walk.Spot{P: h(3), PV: v(3), PN: 3, I: 1, H: h(5), V: v(5), N: 4, Inner: true, Depth: 1})
	for _, mode := range []int{walk.Read, walk.Thin} {
		goes(t, "it does not grow", walk.New(l, 0, mode, 30, false), append(first(innerOf(4)), told{load(l.Key(3, 1)), 40, nil})...)
	}
}

func TestThin(t *testing.T) { // 20.3, 20.4
	for _, n := range []int{0, 1} {
		w := goes(t, "one entry", walk.New(l, 0, walk.Thin, 30, false), first(innerOf(n))...)
		comes(t, "one entry", w, walk.Stop, below(1, true))
		goes(t, "goes on", w.GoOn(), told{load(l.Value(3, 0)), h(5), nil}, told{load(l.Version(3)), v(3), check(h(3))})
	}
	goes(t, "a root of two", walk.New(l, 0, walk.Thin, 30, false), append(first(innerOf(2)), told{load(l.Key(3, 0)), 40, nil})...)
	for n, stops := range map[int]bool{0: true, 1: true, 2: true, 3: false, 4: false} {
		w := goes(t, "below", walk.New(l, 0, walk.Thin, 30, false), append(first(innerOf(3)), second(innerOf(n))...)...)
		if o, ok := w.Done(); ok != stops || ok && o != walk.Stop {
			t.Errorf("of %d entries: %d, %v", n, o, ok)
		}
	}
	// Its parent has two entries, which is enough.
	two := []told{{load(l.Key(3, 0)), 20, nil}, {load(l.Value(3, 1)), h(5), nil}, {load(l.Version(3)), v(3), check(h(3))}, {load(l.Version(5)), v(5), begin(h(5), v(5))}, {load(l.Version(3)), v(3), check(h(3))}, {load(l.Shape(5)), innerOf(2), nil}}
	below2 := goes(t, "a parent of two", walk.New(l, 0, walk.Thin, 30, false), append(first(innerOf(2)), two...)...)
	comes(t, "a parent of two", below2, walk.Stop, walk.Spot{P: h(3), PV: v(3), PN: 2, I: 1, H: h(5), V: v(5), N: 2, Inner: true, Depth: 1})

	// In the mode Read the parent may have one entry; in the mode Thin that one is stopped at, and gone on from.
	w := goes(t, "one entry", walk.New(l, 0, walk.Thin, 30, false), first(innerOf(1))...)
	steps := []told{{load(l.Value(3, 0)), h(5), nil}, {load(l.Version(3)), v(3), check(h(3))}, {load(l.Version(5)), v(5), begin(h(5), v(5))}, {load(l.Version(3)), v(3), check(h(3))}, {load(l.Shape(5)), innerOf(2), nil}, {load(l.Key(5, 0)), 40, nil}}
	goes(t, "an only child is not thin", w.GoOn(), steps...)
}

func TestOnlyWhereItHasCome(t *testing.T) { // 20.4: GoOn, and Next, of a walk that is on its way are itself
	w := goes(t, "full", walk.New(l, 0, walk.Grow, 30, false), first(innerOf(4))...).GoOn()
	at := goes(t, "a leaf", walk.New(l, 0, walk.Read, 30, false), first(leafOf(2))...).Next(h(6))
	for range 3 {
		if w.GoOn() != w || w.Next(h(6)) != w {
			t.Error("it goes on, that goes on already")
		}
		if at.Next(h(7)) != at || at.GoOn() != at {
			t.Error("it goes to the next one, that goes there already")
		}
		w, at = w.Took(40), at.Took(v(6))
	}
}

func TestNext(t *testing.T) { // 20.4, 20.3
	at := goes(t, "a leaf", walk.New(l, 0, walk.Read, 30, false), append(first(innerOf(3)), second(leafOf(2))...)...)
	next := []told{{load(l.Version(6)), v(6), begin(h(6), v(6))}, {load(l.Version(5)), v(5), check(h(5))}, {load(l.Shape(6)), leafOf(3), nil}}
	spot := walk.Spot{P: h(5), PV: v(5), H: h(6), V: v(6), N: 3, Depth: 2}
	w := goes(t, "next", at.Next(h(6)), next...)
	comes(t, "next", w, walk.Leaf, spot)
	if w = at.Next(h(6)); w.Spot != (walk.Spot{P: h(5), PV: v(5), H: h(6), V: v(5), N: 2, Depth: 2}) {
		t.Errorf("%+v", w.Spot)
	}
	w = goes(t, "next, and turned", at.Next(h(6)), next[0], told{load(l.Version(5)), vword.Bump(v(5)), miss(h(5))})
	comes(t, "next, and turned", w, walk.Restart, walk.Spot{P: h(5), PV: v(5), H: h(6), V: v(6), N: 2, Depth: 2})
	for n, many := range map[int]int{0: 0, 1: 1, 9: 4} {
		w = goes(t, "next is inner", at.Next(h(6)), next[0], next[1], told{load(l.Shape(6)), innerOf(n), nil})
		spot.N, spot.Inner = many, true
		comes(t, "next is inner", w, walk.Restart, spot)
	}
	comes(t, "next is none", at.Next(0), walk.Restart, walk.Spot{P: h(5), PV: v(5), H: h(5), V: v(5), N: 2, Depth: 2})
	again := goes(t, "and next", goes(t, "next", at.Next(h(6)), next...).Next(h(7)), told{load(l.Version(7)), v(7), begin(h(7), v(7))}, told{load(l.Version(6)), v(6), check(h(6))}, told{load(l.Shape(7)), leafOf(0), nil})
	comes(t, "and next", again, walk.Leaf, walk.Spot{P: h(6), PV: v(6), H: h(7), V: v(7), Depth: 3})
}

func TestNextSlow(t *testing.T) { // 20.2, 20.4
	slow := []told{{load(l.Version(0)), 8, begin(0, 8)}, {load(l.Value(0, 0)), h(3), nil}, {store(l.Hazard(0, 0), h(3)), 0, nil}, {load(l.Version(3)), v(3), begin(h(3), v(3))}, {load(l.Version(0)), 8, firm(0, h(3))}, {load(l.Shape(3)), leafOf(2), nil}}
	w := goes(t, "slow", walk.New(l, 0, walk.Read, 5, true), slow...)
	goes(t, "slow, and next", w.Next(h(6)), told{store(l.Hazard(0, 1), h(6)), 0, nil}, told{load(l.Version(6)), v(6), begin(h(6), v(6))}, told{load(l.Version(3)), v(3), firm(h(3), h(6))})
}

func TestNobodyMade(t *testing.T) {
	walks := []walk.Walk{{}, walk.New(layout.Layout{}, 0, walk.Read, 5, false)}
	for _, odd := range []int{-1, 2, math.MinInt, math.MaxInt} {
		walks = append(walks, walk.New(l, odd, walk.Read, 5, true))
	}
	for _, odd := range []int{-1, 0, 4, math.MinInt, math.MaxInt} {
		walks = append(walks, walk.New(l, 0, odd, 5, true))
	}
	for _, w := range walks {
		comes(t, "nobody made it", w, walk.Restart, walk.Spot{})
		if len(w.Marks()) != 0 {
			t.Error("it has marks")
		}
	}
}

func TestMarksAreNew(t *testing.T) {
	w := goes(t, "a mark", walk.New(l, 0, walk.Read, 5, false), first(0)[0])
	w.Marks()[0].Kind = 77
	if w.Marks()[0].Kind != api.MarkBegin {
		t.Error("Marks shares what the walk has")
	}
}

// grown is a memory with a tree of three levels, and the leaves' keys, 10 by 10.
func grown(c api.Config) *memory.Memory {
	m := memory.New(c)
	slot := 1
	put := func(n api.Node) uint64 {
		slot++
		m.Write(arena.Words(m.Layout, slot, n)...)
		m.Write(api.Write{At: m.Version(slot), Word: v(slot)})
		return h(slot)
	}
	of := func(from, width uint64, many int, child func(from uint64) uint64) uint64 {
		var pairs []api.Pair
		first := child(from)
		for i := 1; i < many; i++ {
			k := from + uint64(i)*width
			pairs = append(pairs, api.Pair{Key: k, Value: child(k)})
		}
		return put(inner.Of(first, pairs...))
	}
	root := of(0, 1000, 3, func(from uint64) uint64 {
		return of(from, 100, c.Fan, func(from uint64) uint64 { return put(leaf.Of(0, api.Pair{Key: from + 10, Value: from})) })
	})
	m.Write(api.Write{At: m.Value(0, 0), Word: root})
	return m
}

func TestWayToLeaf(t *testing.T) { // 20.6
	for _, fan := range []int{4, 5, 9} {
		c := conf
		c.Slots, c.Fan = 100, fan
		m := grown(c)
		for key := uint64(0); key < 4000; key += 50 {
			for _, slow := range []bool{false, true} {
				w := walk.New(m.Layout, 0, walk.Read, key, slow)
				steps := 0
				for _, ok := w.Done(); !ok; _, ok = w.Done() {
					w = w.Took(m.Do(w.Want()))
					steps++
				}
				at := handle.Slot(arena.Root(m))
				for arena.Node(m, at).Inner {
					at = handle.Slot(arena.Node(m, at).Vals[inner.Child(arena.Node(m, at), key)])
				}
				if o, _ := w.Done(); o != walk.Leaf || handle.Slot(w.H) != at || w.Depth != 2 || w.N != 1 {
					t.Fatalf("fan %d: %d leads to %+v, not to %d", fan, key, w.Spot, at)
				}
				if slow && (m.Word(m.Hazard(0, 0)) != w.H || m.Word(m.Hazard(0, 1)) != w.P) {
					t.Fatal("the hazards do not cover the leaf, and its parent")
				}
				if most := 2 + 3*4 + 2*(2+seek.Steps(fan)); steps > most {
					t.Errorf("%d accesses, not %d", steps, most)
				}
			}
		}
	}
}

func TestExamples(t *testing.T) {
	m := arena.New(conf)
	for slow, want := range map[bool]int{false: 5, true: 6} {
		w := walk.New(l, 0, walk.Read, 9, slow)
		steps := 0
		for _, ok := w.Done(); !ok; _, ok = w.Done() {
			w = w.Took(m.Do(w.Want()))
			steps++
		}
		if o, _ := w.Done(); o != walk.Leaf || steps != want || w.H != 65537 || w.N != 0 {
			t.Errorf("slow %v: behind %d accesses %+v", slow, steps, w.Spot)
		}
	}
}
