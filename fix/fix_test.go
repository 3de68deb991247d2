package fix_test

import (
	"math"
	"slices"
	"testing"

	"gleaning/api"
	"gleaning/arena"
	"gleaning/fix"
	"gleaning/handle"
	"gleaning/inner"
	"gleaning/layout"
	"gleaning/leaf"
	"gleaning/memory"
	"gleaning/plan"
	"gleaning/vword"
	"gleaning/walk"
)

var (
	conf = api.Config{Slots: 9, Threads: 2, Fan: 4, Limbo: 1, Patience: 1}
	l    = layout.New(conf)
)

// h is the handle of a slot, of the generation that is ten more, and v the version word.
func h(slot int) uint64 { return handle.Make(uint64(slot+10), slot) }

func v(slot int) uint64 { return vword.Make(uint64(slot+10), 5, false, false) }

func load(at int) api.Ask { return api.Ask{Kind: api.AskLoad, At: at} }

func store(at int, w uint64) api.Ask { return api.Ask{Kind: api.AskStore, At: at, New: w} }

// told is an access that must be wanted, and what it tells.
type told struct {
	want api.Ask
	got  uint64
}

// lock is the access that locks a slot.
func lock(slot int, got uint64) told {
	return told{api.Ask{Kind: api.AskCas, At: l.Version(slot), Old: v(slot), New: vword.Lock(v(slot))}, got}
}

// undo is the access that gives it back.
func undo(slot int) told { return told{store(l.Version(slot), v(slot)), 7} }

// list are the loads of a list of words, which tell such ones.
func list(at func(slot, i int) int, slot int, words ...uint64) []told {
	var out []told
	for i, w := range words {
		out = append(out, told{load(at(slot, i)), w})
	}
	return out
}

// node are the loads of a node; of a parent without its link.
func node(slot int, n api.Node, isParent bool) []told {
	out := slices.Concat(list(l.Key, slot, n.Keys...), list(l.Value, slot, n.Vals...))
	if !isParent {
		out = append(out, told{load(l.Link(slot)), n.Link})
	}
	return out
}

func stores(writes []api.Write) []told {
	var out []told
	for i, w := range writes {
		out = append(out, told{store(w.At, w.Word), uint64(i)})
	}
	return out
}

type keys = []uint64

func in(keys []uint64, vals ...uint64) api.Node { return api.Node{Inner: true, Keys: keys, Vals: vals} }

// of is a leaf whose values are ten times its keys.
func of(link uint64, keys ...uint64) api.Node {
	n := api.Node{Link: link}
	for _, k := range keys {
		n.Keys = append(n.Keys, k)
		n.Vals = append(n.Vals, 10*k)
	}
	return n
}

func part(slot int, n api.Node) plan.Part { return plan.Part{Slot: slot, Version: v(slot), Node: n} }

// dead is a fresh slot's part, whose version word is that of one that was used.
func dead(slot int) plan.Part { return plan.Part{Slot: slot, Version: vword.Kill(v(slot))} }

// spot is that of a child in the slot 3, at a place of a parent in the slot 2.
func spot(at int, p, child api.Node) walk.Spot {
	return walk.Spot{P: h(2), PV: v(2), PN: len(p.Vals), I: at, H: h(3), V: v(3), N: len(child.Vals), Inner: child.Inner, Depth: 1}
}

// state is how a fix is ahead of an access.
type state struct {
	held   []int
	victim uint64
}

// goes holds a fix to its accesses; held are how many slots it holds ahead of each.
func goes(t *testing.T, name string, f fix.Fix, outcome int, victim uint64, mark uint64, held func(i int) []int, steps ...told) {
	t.Helper()
	for i, x := range steps {
		if f.Done() != 0 {
			t.Fatalf("%s: it has come ahead of access %d", name, i)
		}
		if !slices.Equal(f.Held(), held(i)) {
			t.Errorf("%s: ahead of access %d it holds %v, not %v", name, i, f.Held(), held(i))
		}
		if f.Want() != x.want {
			t.Fatalf("%s: access %d is %v, not %v", name, i, f.Want(), x.want)
		}
		if x.want.Kind != api.AskStore && f.Victim() != 0 {
			t.Errorf("%s: ahead of access %d the victim is %x", name, i, f.Victim())
		}
		f.Took(x.got + 1) // it is a value: this one counts for nothing
		f = f.Took(x.got)
		miss := x.want.Kind == api.AskCas && x.got != 1 && i < 2
		if want := []api.Mark{{Kind: api.MarkMiss, A: mark}}; miss != slices.Equal(f.Marks(), want) || !miss && len(f.Marks()) != 0 {
			t.Errorf("%s: access %d means %v", name, i, f.Marks())
		}
	}
	for range 2 {
		if f.Done() != outcome || f.Want() != (api.Ask{}) || len(f.Held()) != 0 || f.Victim() != victim {
			t.Errorf("%s: it comes to %d, holds %v, its victim is %x, and it wants %v", name, f.Done(), f.Held(), f.Victim(), f.Want())
		}
		if f = f.Took(1); len(f.Marks()) != 0 {
			t.Errorf("%s: there are marks behind its end", name)
		}
	}
}

// upTo tells of one that locks slots by its accesses with such numbers, and holds them up to its end, or gives them back from one on.
func upTo(back int, locked ...[2]int) func(i int) []int {
	return func(i int) []int {
		var out []int
		for _, x := range locked {
			if i > x[0] {
				out = append(out, x[1])
			}
		}
		return out[:len(out)-max(0, min(i-back, len(out)))]
	}
}

// two are the locks of the parent and the child, to the end.
var two = upTo(999, [2]int{0, 2}, [2]int{1, 3})

var (
	p      = in(keys{20, 40}, h(3), h(4), h(5))
	leaf3  = of(h(4), 1, 3, 5)
	inner3 = in(keys{5, 9, 12}, 91, 92, 93, 94)
)

func locks() []told { return []told{lock(2, 1), lock(3, 1)} }

func TestNumbers(t *testing.T) {
	if fix.Split != 1 || fix.Root != 2 || fix.Thin != 3 || fix.Shrink != 4 || fix.Over != 1 || fix.Restart != 3 {
		t.Error("the kinds' numbers, or the outcomes'")
	}
	for kind, want := range map[int]int{1: 1, 2: 2, 3: 0, 4: 0, 0: 0, 5: 0, -1: 0, math.MaxInt: 0} {
		if fix.Need(kind) != want {
			t.Errorf("Need(%d) = %d", kind, fix.Need(kind))
		}
	}
}

func TestSplit(t *testing.T) { // 24.1, 24.3
	for _, child := range []api.Node{leaf3, inner3} {
		steps := slices.Concat(locks(), node(2, p, true), node(3, child, false), []told{{load(l.Version(7)), dead(7).Version}})
		writes := plan.Split(l, part(2, p), 0, part(3, child), dead(7))
		goes(t, "Split", fix.New(l, spot(0, p, child), fix.Split, 7, 8), fix.Over, 0, 0, two, slices.Concat(steps, stores(writes))...)
	}
}

func TestRoot(t *testing.T) { // 24.1, 24.3
	for _, child := range []api.Node{leaf3, inner3} {
		anchor := in(nil, h(3))
		s := spot(0, anchor, child)
		s.P, s.PV = 0, vword.Make(0, 8, false, false)
		first := told{api.Ask{Kind: api.AskCas, At: l.Version(0), Old: s.PV, New: vword.Lock(s.PV)}, 1}
		steps := slices.Concat([]told{first, lock(3, 1)}, node(0, anchor, true), node(3, child, false), []told{{load(l.Version(7)), dead(7).Version}, {load(l.Version(8)), dead(8).Version}})
		writes := plan.Root(l, plan.Part{Version: s.PV, Node: anchor}, part(3, child), dead(7), dead(8))
		goes(t, "Root", fix.New(l, s, fix.Root, 7, 8, 9), fix.Over, 0, 0, upTo(999, [2]int{0, 0}, [2]int{1, 3}), slices.Concat(steps, stores(writes))...)
	}
}

func TestShrink(t *testing.T) { // 24.3, 24.4
	one, child := in(nil, h(3)), in(nil, 91)
	steps := slices.Concat(locks(), node(2, one, true), node(3, child, false))
	writes := plan.Shrink(l, part(2, one), part(3, child))
	goes(t, "Shrink", fix.New(l, spot(0, one, child), fix.Shrink, 7), fix.Over, h(3), 0, two, slices.Concat(steps, stores(writes))...)
}

// thins is a fix Thin of a child at a place, with the one beside it, in the slot 4, up to the plan.
func thins(at int, p, child, beside api.Node) []told {
	place := at + 1
	if place == len(p.Vals) {
		place = at - 1
	}
	steps := slices.Concat(locks(), []told{{load(l.Value(2, place)), h(4)}, {load(l.Version(4)), v(4)}, lock(4, 1), {load(l.Shape(4)), layout.Pack(beside.Inner, len(beside.Vals))}})
	return slices.Concat(steps, node(2, p, true), node(3, child, false), node(4, beside, false))
}

var three = upTo(999, [2]int{0, 2}, [2]int{1, 3}, [2]int{4, 4})

func TestThinWithRight(t *testing.T) { // 24.2, 24.3, 24.4
	for _, at := range []int{0, 1} {
		p := in(keys{20, 40}, 0, 0, 0)
		p.Vals[at], p.Vals[at+1] = h(3), h(4)
		low, high := uint64(20*at), uint64(20*at+20)
		for _, x := range [][2]api.Node{{of(h(4), low+1), of(9, high+1, high+2)}, {in(keys{low + 1}, 91, 92), in(keys{high + 1}, 95, 96)}, {of(h(4)), of(0)}} {
			writes := plan.Merge(l, part(2, p), at, part(3, x[0]), part(4, x[1]))
			goes(t, "Merge", fix.New(l, spot(at, p, x[0]), fix.Thin), fix.Over, h(4), 0, three, slices.Concat(thins(at, p, x[0], x[1]), stores(writes))...)
		}
		for _, x := range [][2]api.Node{{of(h(4), low+1, low+2), of(9, high+1, high+2, high+3)}, {in(keys{low + 1}, 91, 92), in(keys{high + 1, high + 2}, 95, 96, 97)}} {
			writes := plan.FromRight(l, part(2, p), at, part(3, x[0]), part(4, x[1]))
			goes(t, "FromRight", fix.New(l, spot(at, p, x[0]), fix.Thin), fix.Over, 0, 0, three, slices.Concat(thins(at, p, x[0], x[1]), stores(writes))...)
		}
	}
}

func TestThinWithLeft(t *testing.T) { // 24.2, 24.3, 24.4
	p := in(keys{20, 40}, h(6), h(4), h(3))
	for _, x := range [][2]api.Node{{of(h(4), 41), of(9, 21, 22)}, {in(keys{41}, 91, 92), in(keys{21}, 95, 96)}} {
		writes := plan.Merge(l, part(2, p), 1, part(4, x[1]), part(3, x[0]))
		goes(t, "Merge", fix.New(l, spot(2, p, x[0]), fix.Thin), fix.Over, h(3), 0, three, slices.Concat(thins(2, p, x[0], x[1]), stores(writes))...)
	}
	for _, x := range [][2]api.Node{{of(h(4), 41, 42), of(9, 21, 22, 23)}, {in(keys{41}, 91, 92), in(keys{21, 22}, 95, 96, 97)}} {
		writes := plan.FromLeft(l, part(2, p), 1, part(4, x[1]), part(3, x[0]))
		goes(t, "FromLeft", fix.New(l, spot(2, p, x[0]), fix.Thin), fix.Over, 0, 0, three, slices.Concat(thins(2, p, x[0], x[1]), stores(writes))...)
	}
}

func TestThinOfTwo(t *testing.T) { // 24.2: a parent of two children
	p := in(keys{20}, h(3), h(4))
	a, b := of(h(4), 1), of(9, 21)
	writes := plan.Merge(l, part(2, p), 0, part(3, a), part(4, b))
	goes(t, "the first one", fix.New(l, spot(0, p, a), fix.Thin), fix.Over, h(4), 0, three, slices.Concat(thins(0, p, a, b), stores(writes))...)
	p = in(keys{20}, h(4), h(3))
	writes = plan.Merge(l, part(2, p), 0, part(4, a), part(3, b))
	goes(t, "the last one", fix.New(l, spot(1, p, b), fix.Thin), fix.Over, h(3), 0, three, slices.Concat(thins(1, p, b, a), stores(writes))...)
}

func TestMisses(t *testing.T) { // 24.1, 24.4
	for _, got := range []uint64{0, 2, math.MaxUint64} {
		for kind := fix.Split; kind <= fix.Shrink; kind++ {
			f := fix.New(l, spot(0, p, leaf3), kind, 7, 8)
			goes(t, "the parent", f, fix.Restart, 0, h(2), two, lock(2, got))
			goes(t, "the child", f, fix.Restart, 0, h(3), upTo(2, [2]int{0, 2}), lock(2, 1), lock(3, got), undo(2))
		}
	}
	s := spot(0, in(nil, h(3)), leaf3)
	s.P, s.PV = 0, 8
	goes(t, "the anchor", fix.New(l, s, fix.Root, 7, 8), fix.Restart, 0, 0, two, told{api.Ask{Kind: api.AskCas, At: l.Version(0), Old: 8, New: 9}, 0})
}

// back is one that holds both from the access 2 on, and gives them back from one on.
func back(from int) func(i int) []int { return upTo(from, [2]int{0, 2}, [2]int{1, 3}) }

func TestNoneBeside(t *testing.T) { // 24.2, 24.4
	one := in(nil, h(3))
	goes(t, "an only child", fix.New(l, spot(0, one, leaf3), fix.Thin), fix.Restart, 0, 0, back(2), lock(2, 1), lock(3, 1), undo(3), undo(2))
	for _, bad := range []uint64{0, handle.Make(1, 10), h(4) | 1<<40, h(2), h(3), handle.Make(9, 3), handle.Make(9, 2)} {
		goes(t, "no handle", fix.New(l, spot(0, p, leaf3), fix.Thin), fix.Restart, 0, 0, back(3), lock(2, 1), lock(3, 1), told{load(l.Value(2, 1)), bad}, undo(3), undo(2))
	}
	for _, stale := range []uint64{vword.Kill(v(4)), vword.Lock(vword.Kill(v(4))), vword.Renew(v(4)), 0} {
		goes(t, "stale", fix.New(l, spot(1, p, leaf3), fix.Thin), fix.Restart, 0, 0, back(4), lock(2, 1), lock(3, 1), told{load(l.Value(2, 2)), h(4)}, told{load(l.Version(4)), stale}, undo(3), undo(2))
	}
}

func TestBesideIsLocked(t *testing.T) { // 24.2: it is waited for
	a, b := of(h(4), 1), of(9, 21)
	other := vword.Bump(v(4))
	steps := slices.Concat(locks(), []told{{load(l.Value(2, 1)), h(4)}, {load(l.Version(4)), vword.Lock(v(4))}, {load(l.Version(4)), vword.Lock(v(4))}, {load(l.Version(4)), v(4)}, lock(4, 0), {load(l.Version(4)), vword.Lock(other)}, {load(l.Version(4)), other},
		{api.Ask{Kind: api.AskCas, At: l.Version(4), Old: other, New: vword.Lock(other)}, 1}, {load(l.Shape(4)), layout.Pack(false, 1)}}, node(2, p, true), node(3, a, false), node(4, b, false))
	writes := plan.Merge(l, part(2, p), 0, part(3, a), plan.Part{Slot: 4, Version: other, Node: b})
	goes(t, "beside", fix.New(l, spot(0, p, a), fix.Thin), fix.Over, h(4), 0, upTo(999, [2]int{0, 2}, [2]int{1, 3}, [2]int{9, 4}), slices.Concat(steps, stores(writes))...)

	steps = slices.Concat(locks(), []told{{load(l.Value(2, 1)), h(4)}, {load(l.Version(4)), v(4)}, lock(4, 0), {load(l.Version(4)), vword.Kill(v(4))}, undo(3), undo(2)})
	goes(t, "beside is gone", fix.New(l, spot(0, p, a), fix.Thin), fix.Restart, 0, 0, back(6), steps...)
}

func TestNoPlan(t *testing.T) { // 24.3, 24.4
	back3 := func(from int) func(int) []int { return upTo(from, [2]int{0, 2}, [2]int{1, 3}, [2]int{4, 4}) }
	// The two are of unlike kinds; their keys do not rise.
	for _, x := range [][2]api.Node{{of(0, 1), in(keys{21}, 95, 96)}, {of(0, 25), of(9, 21)}, {of(0, 25, 26), of(9, 21, 22, 23)}} {
		steps := thins(0, p, x[0], x[1])
		goes(t, "Thin", fix.New(l, spot(0, p, x[0]), fix.Thin), fix.Restart, 0, 0, back3(len(steps)), slices.Concat(steps, []told{undo(4), undo(3), undo(2)})...)
	}
	full := in(keys{20, 40, 60}, h(3), h(4), h(5), h(6))
	for _, x := range []struct {
		p, child api.Node
		at, kind int
		fresh    []int
	}{
		{full, leaf3, 0, fix.Split, []int{7}}, {p, of(0, 1), 0, fix.Split, []int{7}}, {p, of(0, 1, 25), 0, fix.Split, []int{7}}, {p, leaf3, 0, fix.Root, []int{7, 8}}, {p, leaf3, 0, fix.Shrink, nil}, {in(nil, h(3)), inner3, 0, fix.Shrink, nil}, {in(nil, h(3)), of(0, 1), 0, fix.Shrink, nil},
	} {
		steps := slices.Concat(locks(), node(2, x.p, true), node(3, x.child, false))
		for _, s := range x.fresh {
			steps = append(steps, told{load(l.Version(s)), dead(s).Version})
		}
		goes(t, "no plan", fix.New(l, spot(x.at, x.p, x.child), x.kind, x.fresh...), fix.Restart, 0, 0, back(len(steps)), slices.Concat(steps, []told{undo(3), undo(2)})...)
	}
}

func TestBesideWithoutEntries(t *testing.T) { // 24.2: an inner one has one at least
	a := in(nil, 91)
	steps := slices.Concat(locks(), []told{{load(l.Value(2, 1)), h(4)}, {load(l.Version(4)), v(4)}, lock(4, 1), {load(l.Shape(4)), layout.Pack(true, 0)}}, node(2, p, true), node(3, a, false), node(4, in(nil, 95), false))
	writes := plan.Merge(l, part(2, p), 0, part(3, a), part(4, in(nil, 95)))
	goes(t, "one at least", fix.New(l, spot(0, p, a), fix.Thin), fix.Over, h(4), 0, three, slices.Concat(steps, stores(writes))...)
}

func TestCannotBegin(t *testing.T) {
	none := func(int) []int { return nil }
	goes(t, "nobody made it", fix.Fix{}, fix.Restart, 0, 0, none)
	goes(t, "no words", fix.New(layout.Layout{}, spot(0, p, leaf3), fix.Thin), fix.Restart, 0, 0, none)
	for _, kind := range []int{0, 5, -1, math.MaxInt} {
		goes(t, "no kind", fix.New(l, spot(0, p, leaf3), kind, 7, 8), fix.Restart, 0, 0, none)
	}
	for i, change := range []func(s *walk.Spot){
		func(s *walk.Spot) { s.H = 0 }, func(s *walk.Spot) { s.H = handle.Make(1, 10) }, func(s *walk.Spot) { s.H |= 1 << 40 },
		func(s *walk.Spot) { s.P = handle.Make(1, 10) }, func(s *walk.Spot) { s.P |= 1 << 40 }, func(s *walk.Spot) { s.P = h(3) }, func(s *walk.Spot) { s.P = handle.Make(99, 3) }, func(s *walk.Spot) { s.P = 5 << 16 },
		func(s *walk.Spot) { s.N = -1 }, func(s *walk.Spot) { s.N = 5 }, func(s *walk.Spot) { s.N = math.MaxInt }, func(s *walk.Spot) { s.N, s.Inner = 0, true },
		func(s *walk.Spot) { s.PN = 0 }, func(s *walk.Spot) { s.PN = 5 }, func(s *walk.Spot) { s.PN = -1 }, func(s *walk.Spot) { s.I = 3 }, func(s *walk.Spot) { s.I = -1 }, func(s *walk.Spot) { s.I = math.MaxInt },
	} {
		for kind := fix.Split; kind <= fix.Shrink; kind++ {
			s := spot(0, p, leaf3)
			change(&s)
			f := fix.New(l, s, kind, 7, 8)
			if f.Done() != fix.Restart {
				t.Errorf("change %d begins", i)
			}
			goes(t, "a spot that is none", f, fix.Restart, 0, 0, none)
		}
	}
	for _, fresh := range [][]int{nil, {0}, {-1}, {10}, {2}, {3}, {math.MaxInt}} {
		goes(t, "no fresh slot", fix.New(l, spot(0, p, leaf3), fix.Split, fresh...), fix.Restart, 0, 0, none)
	}
	for _, fresh := range [][]int{{7}, {7, 7}, {7, 0}, {7, 10}, {2, 7}, {7, 2}, {3, 7}, {7, 3}, {-1, 7}} {
		goes(t, "no two fresh slots", fix.New(l, spot(0, p, leaf3), fix.Root, fresh...), fix.Restart, 0, 0, none)
	}
	for _, f := range []fix.Fix{fix.New(l, spot(0, p, leaf3), fix.Split, 7, 7, 0), fix.New(l, spot(0, p, leaf3), fix.Root, 7, 8, 8, -1), fix.New(l, spot(0, p, leaf3), fix.Thin, 0, 0), fix.New(l, spot(0, p, leaf3), fix.Split, 1), fix.New(l, spot(0, p, leaf3), fix.Root, 9, 1)} {
		if f.Done() != 0 {
			t.Error("it does not begin")
		}
	}
}

func TestSpotIsItsOwn(t *testing.T) {
	f := fix.New(l, spot(0, p, leaf3), fix.Thin)
	if f.P != h(2) || f.PN != 3 || f.H != h(3) || f.Spot != spot(0, p, leaf3) {
		t.Error("the spot's fields are not its own")
	}
	slots := []int{7, 8}
	f = fix.New(l, spot(0, p, leaf3), fix.Split, slots...)
	slots[0] = 9
	for _, x := range slices.Concat(locks(), node(2, p, true), node(3, leaf3, false)) {
		f = f.Took(x.got)
	}
	if f.Want() != load(l.Version(7)) {
		t.Error("the slots that were handed in are kept")
	}
}

// below are the keys and values of leaves, or the children of inner nodes, below the parent in a slot, in order.
func below(m *memory.Memory, slot int) []uint64 {
	var out []uint64
	for _, c := range arena.Node(m, slot).Vals {
		x := arena.Node(m, handle.Slot(c))
		for i, w := range x.Vals {
			if !x.Inner {
				out = append(out, x.Keys[i])
			}
			out = append(out, w)
		}
	}
	return out
}

func TestOverMemory(t *testing.T) { // 24.5
	ps := in(keys{100, 200}, h(3), h(4), h(5))
	fill := func(isInner bool, slot, many int) api.Node {
		var pairs []api.Pair
		for i := range many {
			pairs = append(pairs, api.Pair{Key: uint64(100*(slot-3) + 10*i + 5), Value: uint64(1000*slot + i)})
		}
		if !isInner {
			return leaf.Of(h(slot+1), pairs...)
		}
		return inner.Of(pairs[0].Value, pairs[1:]...)
	}
	for _, isInner := range []bool{false, true} {
		for at := range 3 {
			for many := 1; many <= 4; many++ {
				for beside := 1; beside <= 4; beside++ {
					m := memory.New(conf)
					m.Write(arena.Words(l, 2, ps)...)
					for slot := 2; slot <= 9; slot++ {
						m.Write(api.Write{At: l.Version(slot), Word: v(slot)})
					}
					for i := range 3 {
						n := beside
						if i == at {
							n = many
						}
						m.Write(arena.Words(l, i+3, fill(isInner, i+3, n))...)
					}
					was := below(m, 2)
					s := spot(at, ps, fill(isInner, at+3, many))
					s.H, s.V = h(at+3), v(at+3)
					kind := fix.Thin
					if many > 1 && beside == 4 {
						kind = fix.Split
					}
					f := fix.New(l, s, kind, 7)
					for f.Done() == 0 {
						f = f.Took(m.Do(f.Want()))
					}
					now := below(m, 2)
					goesOn := kind == fix.Split || many+beside <= 4 || beside >= 2 && many < 4
					if (f.Done() == fix.Over) != goesOn {
						t.Errorf("%d, %d beside: kind %d comes to %d", many, beside, kind, f.Done())
					}
					if !slices.Equal(was, now) {
						t.Errorf("%d, %d beside: below are %v, not %v", many, beside, now, was)
					}
					for slot := 2; slot <= 9; slot++ {
						if w := m.Word(l.Version(slot)); vword.Locked(w) || vword.Dead(w) != (f.Victim() == h(slot)) {
							t.Errorf("slot %d is left %x", slot, w)
						}
					}
				}
			}
		}
	}
}

func TestExamples(t *testing.T) {
	m := arena.New(conf)
	m.Write(arena.Words(l, 1, of(0, 1, 2, 3, 4))...)
	f := fix.New(l, walk.Spot{PN: 1, H: 65537, V: m.Word(l.Version(1)), N: 4}, fix.Root, 2, 3)
	steps := 0
	for f.Done() == 0 {
		f = f.Took(m.Do(f.Want()))
		steps++
	}
	if f.Done() != fix.Over || steps != 34 {
		t.Error("an example:", f.Done(), steps)
	}
}
