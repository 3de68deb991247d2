package edit_test

import (
	"math"
	"slices"
	"testing"

	"gleaning/api"
	"gleaning/arena"
	"gleaning/edit"
	"gleaning/handle"
	"gleaning/layout"
	"gleaning/leaf"
	"gleaning/memory"
	"gleaning/vword"
	"gleaning/walk"
)

var (
	conf = api.Config{Slots: 9, Threads: 2, Fan: 4, Limbo: 1, Patience: 1}
	l    = layout.New(conf)
	h    = handle.Make(7, 3)
	v    = vword.Make(7, 20, false, false)
	// spot is that of a leaf of two entries, in the slot 3.
	spot = walk.Spot{P: handle.Make(1, 5), PV: 99, PN: 2, I: 1, H: h, V: v, N: 2, Depth: 1}
)

func load(at int) api.Ask { return api.Ask{Kind: api.AskLoad, At: at} }

func store(at int, w uint64) api.Ask { return api.Ask{Kind: api.AskStore, At: at, New: w} }

// told is an access that must be wanted, and what it tells.
type told struct {
	want api.Ask
	got  uint64
}

var (
	lock = told{api.Ask{Kind: api.AskCas, At: l.Version(3), Old: v, New: vword.Lock(v)}, 1}
	// loads are the accesses of a leaf with the keys 3 and 5.
	loads  = []told{{load(l.Key(3, 0)), 3}, {load(l.Key(3, 1)), 5}, {load(l.Value(3, 0)), 30}, {load(l.Value(3, 1)), 50}}
	bump   = told{store(l.Version(3), vword.Bump(v)), 9}
	effect = []api.Mark{{Kind: api.MarkEffect}}
	miss   = []api.Mark{{Kind: api.MarkMiss, A: h}}
)

// goes holds an edit to its accesses, and to what it comes to.
func goes(t *testing.T, name string, e edit.Edit, outcome int, value uint64, marks []api.Mark, steps ...told) {
	t.Helper()
	for i, x := range steps {
		if o, v := e.Done(); o != 0 || v != 0 {
			t.Fatalf("%s: it has come ahead of access %d", name, i)
		}
		held := []int{3}
		if i == 0 {
			held = nil
		}
		if !slices.Equal(e.Held(), held) {
			t.Errorf("%s: ahead of access %d it holds %v", name, i, e.Held())
		}
		if i > 0 && len(e.Marks()) != 0 {
			t.Errorf("%s: ahead of access %d there are marks %v", name, i, e.Marks())
		}
		if e.Want() != x.want {
			t.Fatalf("%s: access %d is %v, not %v", name, i, e.Want(), x.want)
		}
		e.Took(x.got + 1) // it is a value: this one counts for nothing
		e = e.Took(x.got)
	}
	if !slices.Equal(e.Marks(), marks) {
		t.Errorf("%s: the last access means %v", name, e.Marks())
	}
	for range 2 {
		if o, v := e.Done(); o != outcome || v != value || e.Want() != (api.Ask{}) || len(e.Held()) != 0 {
			t.Errorf("%s: it comes to %d, %d, holds %v, and wants %v", name, o, v, e.Held(), e.Want())
		}
		if e = e.Took(1); len(e.Marks()) != 0 {
			t.Errorf("%s: there are marks behind its end", name)
		}
	}
}

func with(l []told, more ...told) []told { return slices.Concat([]told{lock}, l, more) }

func TestNumbers(t *testing.T) {
	if edit.Set != 1 || edit.Insert != 2 || edit.Remove != 3 || edit.Over != 1 || edit.Restart != 3 {
		t.Error("the kinds' numbers, or the outcomes'")
	}
}

func TestMiss(t *testing.T) { // 23.1, 23.2
	for _, got := range []uint64{0, 2, math.MaxUint64} {
		goes(t, "miss", edit.New(l, spot, edit.Change{Kind: edit.Set, I: 1, Value: 9}), edit.Restart, 0, miss, told{lock.want, got})
	}
}

func TestSet(t *testing.T) { // 23.1, 23.2
	goes(t, "Set", edit.New(l, spot, edit.Change{Kind: edit.Set, I: 1, Key: 8, Value: 9}), edit.Over, 50, effect, with(loads, told{store(l.Value(3, 1), 9), 7}, bump)...)
}

func TestInsert(t *testing.T) { // 23.1, 23.2
	goes(t, "Insert", edit.New(l, spot, edit.Change{Kind: edit.Insert, I: 1, Key: 4, Value: 9}), edit.Over, 0, effect, with(loads, told{store(l.Key(3, 2), 5), 0}, told{store(l.Value(3, 2), 50), 0}, told{store(l.Shape(3), layout.Pack(false, 3)), 0}, told{store(l.Key(3, 1), 4), 0}, told{store(l.Value(3, 1), 9), 0}, bump)...)
	empty := spot
	empty.N = 0
	goes(t, "the first one", edit.New(l, empty, edit.Change{Kind: edit.Insert, Key: 4, Value: 9}), edit.Over, 0, effect, with(nil, told{store(l.Key(3, 0), 4), 0}, told{store(l.Value(3, 0), 9), 0}, told{store(l.Shape(3), layout.Pack(false, 1)), 0}, bump)...)
}

func TestRemove(t *testing.T) { // 23.1, 23.2
	goes(t, "Remove", edit.New(l, spot, edit.Change{Kind: edit.Remove, I: 0, Key: 8, Value: 9}), edit.Over, 30, effect, with(loads, told{store(l.Key(3, 0), 5), 0}, told{store(l.Value(3, 0), 50), 0}, told{store(l.Shape(3), layout.Pack(false, 1)), 0}, bump)...)
}

func TestNoPlan(t *testing.T) { // 23.1
	undo := told{store(l.Version(3), v), 5}
	for _, x := range []edit.Change{
		{Kind: edit.Set, I: 2}, {Kind: edit.Set, I: -1}, {Kind: edit.Set, I: math.MaxInt}, {Kind: edit.Remove, I: 2}, {Kind: edit.Remove, I: math.MinInt}, {Kind: edit.Insert, I: 0, Key: 3}, {Kind: edit.Insert, I: 0, Key: 4}, {Kind: edit.Insert, I: 1, Key: 5}, {Kind: edit.Insert, I: 2, Key: 5}, {Kind: edit.Insert, I: 3, Key: 9}, {Kind: edit.Insert, I: -1},
	} {
		goes(t, "no plan", edit.New(l, spot, x), edit.Restart, 0, nil, with(loads, undo)...)
	}
	full := spot
	full.N = 4
	var all []told
	for i := range 4 {
		all = append(all, told{load(l.Key(3, i)), uint64(i)})
	}
	for i := range 4 {
		all = append(all, told{load(l.Value(3, i)), 9})
	}
	goes(t, "full", edit.New(l, full, edit.Change{Kind: edit.Insert, I: 4, Key: 9}), edit.Restart, 0, nil, with(all, undo)...)
	falls := slices.Clone(loads)
	falls[1].got = 2
	goes(t, "keys that fall", edit.New(l, spot, edit.Change{Kind: edit.Set, I: 1}), edit.Restart, 0, nil, with(falls, undo)...)
}

func TestCannotBegin(t *testing.T) {
	x := edit.Change{Kind: edit.Set, I: 0, Value: 5}
	goes(t, "nobody made it", edit.Edit{}, edit.Restart, 0, nil)
	goes(t, "no words", edit.New(layout.Layout{}, spot, x), edit.Restart, 0, nil)
	for _, kind := range []int{0, 4, -1, math.MaxInt} {
		goes(t, "a kind that is none", edit.New(l, spot, edit.Change{Kind: kind}), edit.Restart, 0, nil)
	}
	for _, bad := range []uint64{0, handle.Make(7, 10), h | 1<<40, math.MaxUint64} {
		s := spot
		s.H = bad
		goes(t, "a handle that is not right", edit.New(l, s, x), edit.Restart, 0, nil)
	}
	for _, n := range []int{-1, 5, math.MinInt, math.MaxInt} {
		s := spot
		s.N = n
		goes(t, "so many entries", edit.New(l, s, x), edit.Restart, 0, nil)
	}
	s := spot
	s.Inner = true
	goes(t, "an inner node", edit.New(l, s, x), edit.Restart, 0, nil)
}

func TestSpotIsItsOwn(t *testing.T) {
	e := edit.New(l, spot, edit.Change{Kind: edit.Set})
	if e.H != h || e.V != v || e.N != 2 || e.Spot != spot {
		t.Error("the spot's fields are not its own")
	}
}

func TestOverMemory(t *testing.T) { // 23.3
	for n := range 5 {
		var pairs []api.Pair
		for i := range n {
			pairs = append(pairs, api.Pair{Key: uint64(10 + 10*i), Value: uint64(i)})
		}
		node := leaf.Of(77, pairs...)
		for key := uint64(5); key <= 55; key += 5 {
			at, there := leaf.Find(node, key)
			dropped, old, _ := leaf.Drop(node, key)
			set, _, _ := leaf.Put(node, key, 99)
			kinds := map[int]api.Node{edit.Insert: set}
			if there {
				kinds = map[int]api.Node{edit.Set: set, edit.Remove: dropped}
			} else if n == 4 {
				continue
			}
			for kind, want := range kinds {
				m := memory.New(conf)
				for at := range m.Size() {
					m.Write(api.Write{At: at, Word: 12345})
				}
				m.Write(arena.Words(l, 3, node)...)
				m.Write(api.Write{At: l.Version(3), Word: v})
				others := m.Copy()
				s := spot
				s.N = n
				e := edit.New(l, s, edit.Change{Kind: kind, I: at, Key: key, Value: 99})
				for o, _ := e.Done(); o == 0; o, _ = e.Done() {
					e = e.Took(m.Do(e.Want()))
				}
				if o, got := e.Done(); o != edit.Over || kind != edit.Insert && got != old || kind == edit.Insert && got != 0 {
					t.Errorf("kind %d of %d: %d, %d", kind, key, o, got)
				}
				if got := arena.Node(m, 3); !arena.Same(got, want) || m.Word(l.Version(3)) != vword.Bump(v) {
					t.Errorf("kind %d of %d: %v, not %v", kind, key, got, want)
				}
				for at := range m.Size() {
					if p := l.What(at); m.Word(at) != others.Word(at) && (p.Of != 3 || p.Kind < layout.AtVersion) {
						t.Errorf("the word of %v is turned", p)
					}
				}
			}
		}
	}
}

func TestExamples(t *testing.T) {
	m := arena.New(conf)
	e := edit.New(l, walk.Spot{PN: 1, H: 65537, V: m.Word(l.Version(1))}, edit.Change{Kind: edit.Insert, I: 0, Key: 5, Value: 50})
	steps := 0
	for o, _ := e.Done(); o == 0; o, _ = e.Done() {
		e = e.Took(m.Do(e.Want()))
		steps++
	}
	if o, _ := e.Done(); o != edit.Over || steps != 5 || !arena.Same(arena.Node(m, 1), api.Node{Keys: []uint64{5}, Vals: []uint64{50}}) {
		t.Error("an example")
	}
}
