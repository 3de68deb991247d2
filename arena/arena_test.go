package arena_test

import (
	"math"
	"slices"
	"testing"

	"gleaning/api"
	"gleaning/arena"
	"gleaning/handle"
	"gleaning/hword"
	"gleaning/layout"
	"gleaning/memory"
	"gleaning/vword"
)

func of(slots, fan int) api.Config {
	return api.Config{Slots: slots, Threads: 2, Fan: fan, Limbo: 1, Patience: 1}
}

func leaf(link uint64, keys ...uint64) api.Node {
	n := api.Node{Keys: keys, Link: link}
	for _, k := range keys {
		n.Vals = append(n.Vals, 10*k)
	}
	return n
}

func inner(keys []uint64, vals ...uint64) api.Node {
	return api.Node{Inner: true, Keys: keys, Vals: vals}
}

// store lets slots hold nodes, and the anchor the root.
func store(m *memory.Memory, root uint64, nodes map[int]api.Node) {
	m.Write(api.Write{At: m.Value(0, 0), Word: root})
	for slot, n := range nodes {
		m.Write(arena.Words(m.Layout, slot, n)...)
	}
}

func TestNew(t *testing.T) { // 10.1
	for _, c := range []api.Config{of(1, 4), of(2, 4), of(3, 4), of(9, 7), of(1000, 64)} {
		m := arena.New(c)
		l := layout.New(c)
		want := make([]uint64, l.Size())
		want[l.Shape(0)] = layout.Pack(true, 1)
		want[l.Value(0, 0)] = 65537
		want[l.Version(1)] = vword.Make(1, 0, false, false)
		for s := 2; s <= c.Slots; s++ {
			want[l.Version(s)] = vword.Make(0, 0, true, false)
			if s < c.Slots {
				want[l.Link(s)] = uint64(s + 1)
			}
		}
		if c.Slots > 1 {
			want[l.At(layout.Place{Kind: layout.AtHead})] = hword.Make(0, 2)
		}
		if m == nil || m.Layout != l || !slices.Equal(m.Words(0, l.Size()), want) {
			t.Errorf("%v begins otherwise", c)
		}
	}
	if arena.New(api.Config{}) != nil || arena.New(of(3, 3)) != nil {
		t.Error("one that may not be begins")
	}
}

func TestBegins(t *testing.T) { // 10.5
	m := arena.New(of(5, 4))
	free, sound := arena.Free(m)
	if !slices.Equal(arena.Tree(m), []int{1}) || !slices.Equal(free, []int{2, 3, 4, 5}) || !sound || !arena.Same(arena.Node(m, 1), api.Node{}) {
		t.Error("a machine that begins")
	}
}

func TestNode(t *testing.T) { // 10.2
	m := memory.New(of(3, 4))
	for at := range m.Size() {
		m.Write(api.Write{At: at, Word: uint64(at)})
	}
	for slot := range 4 {
		for n := range 9 {
			for _, isInner := range []bool{false, true} {
				m.Write(api.Write{At: m.Shape(slot), Word: layout.Pack(isInner, n) | 1<<40})
				want := api.Node{Inner: isInner, Link: uint64(m.Link(slot))}
				for i := range min(n, 4) {
					want.Vals = append(want.Vals, uint64(m.Value(slot, i)))
					if !isInner || i > 0 {
						want.Keys = append(want.Keys, uint64(m.Key(slot, 0)+len(want.Keys)))
					}
				}
				if got := arena.Node(m, slot); !arena.Same(got, want) {
					t.Errorf("Node(%d) of %d entries = %v, not %v", slot, n, got, want)
				}
			}
		}
	}
	for _, slot := range []int{-1, 4, math.MinInt, math.MaxInt} {
		if got := arena.Node(m, slot); !arena.Same(got, api.Node{}) {
			t.Errorf("Node(%d) = %v", slot, got)
		}
	}
	n := arena.Node(m, 1)
	n.Vals[0] = 0
	if arena.Node(m, 1).Vals[0] == 0 {
		t.Error("Node shares the memory")
	}
}

func TestFits(t *testing.T) { // 10.2
	for i, x := range []struct {
		n    api.Node
		fan  int
		want bool
	}{
		{api.Node{}, 4, true}, {api.Node{}, 0, true}, {api.Node{}, -1, false}, {leaf(9, 1, 2, 3, 4), 4, true}, {leaf(0, 1, 2, 3, 4), 3, false}, {leaf(0, 1, 2, 2), 4, false}, {leaf(0, 2, 1), 4, false},
		{api.Node{Keys: []uint64{1, 2}, Vals: []uint64{1}}, 4, false}, {api.Node{Keys: []uint64{1}, Vals: []uint64{1, 2}}, 4, false}, {api.Node{Keys: []uint64{1}}, 4, false},
		{leaf(0, 0, math.MaxUint64), 2, true}, {leaf(0, 1, 5, 3), 4, false},
		{inner(nil, 5), 1, true}, {inner(nil, 5), 0, false}, {inner(nil), 4, false}, {inner([]uint64{1}), 4, false}, {inner([]uint64{1}, 5), 4, false}, {inner([]uint64{1}, 5, 6), 4, true}, {inner([]uint64{1, 2}, 5, 6), 4, false},
		{inner([]uint64{1, 1}, 5, 6, 7), 4, false}, {inner([]uint64{1, 2}, 7, 7, 7), 3, true}, {inner([]uint64{1, 2}, 7, 7, 7), 2, false},
	} {
		if got := arena.Fits(x.n, x.fan); got != x.want {
			t.Errorf("%d: Fits(%v, %d) = %v", i, x.n, x.fan, got)
		}
	}
}

func TestSame(t *testing.T) { // 10.2
	nodes := []api.Node{{}, {Inner: true}, {Link: 1}, leaf(0, 1), leaf(1, 1), leaf(0, 1, 2), leaf(0, 2), {Keys: []uint64{1}, Vals: []uint64{11}}, inner([]uint64{1}, 10), inner(nil, 5), inner(nil, 6)}
	for i, a := range nodes {
		for j, b := range nodes {
			if arena.Same(a, b) != (i == j) {
				t.Errorf("Same(%v, %v) = %v", a, b, i != j)
			}
		}
	}
	if !arena.Same(api.Node{}, api.Node{Keys: []uint64{}, Vals: []uint64{}}) {
		t.Error("nil and empty are unlike")
	}
}

func TestHandleAndRoot(t *testing.T) { // 10.2
	m := arena.New(of(3, 4))
	m.Write(api.Write{At: m.Version(2), Word: vword.Make(77, 5, true, true)}, api.Write{At: m.Version(0), Word: vword.Make(5, 5, false, false)})
	for slot, want := range map[int]uint64{1: 65537, 2: handle.Make(77, 2), 3: 3, 0: 0, 4: 0, -1: 0, math.MaxInt: 0, math.MinInt: 0} {
		if got := arena.Handle(m, slot); got != want {
			t.Errorf("Handle(%d) = %x", slot, got)
		}
	}
	for _, root := range []uint64{0, 5, handle.Make(2, 3), math.MaxUint64} {
		m.Write(api.Write{At: m.Value(0, 0), Word: root}, api.Write{At: m.Shape(0), Word: root})
		if arena.Root(m) != root {
			t.Errorf("Root = %x, not %x", arena.Root(m), root)
		}
	}
}

func TestTree(t *testing.T) { // 10.3
	for i, x := range []struct {
		root  uint64
		nodes map[int]api.Node
		want  []int
	}{
		{handle.Make(7, 3), nil, []int{3}},
		{0, nil, nil}, {handle.Make(1, 10), nil, nil}, {handle.Make(1, 1) | 1<<40, nil, nil}, {math.MaxUint64, nil, nil},
		{5, map[int]api.Node{5: inner([]uint64{1, 2}, 4, 3, 2), 3: inner([]uint64{9}, 8, 1)}, []int{5, 4, 3, 8, 1, 2}},
		{5, map[int]api.Node{5: inner([]uint64{1, 2}, 4, 10, 3), 4: inner(nil, 0), 3: inner(nil, 1|1<<50)}, []int{5, 4, 3}},
		{5, map[int]api.Node{5: inner([]uint64{1, 2}, 4, 5, 4), 4: inner([]uint64{1}, 5, 6), 6: inner([]uint64{1}, 7, handle.Make(3, 4))}, []int{5, 4, 6, 7}},
		{5, map[int]api.Node{5: {Keys: []uint64{1}, Vals: []uint64{4}}}, []int{5}},
		{5, map[int]api.Node{5: inner([]uint64{1}, 4, 3), 4: inner([]uint64{1}, 3, 2), 3: inner(nil, 1)}, []int{5, 4, 3, 1, 2}},
	} {
		m := memory.New(of(9, 4))
		store(m, x.root, x.nodes)
		if got := arena.Tree(m); !slices.Equal(got, x.want) {
			t.Errorf("%d: Tree = %v, not %v", i, got, x.want)
		}
	}
}

func TestDeepTree(t *testing.T) { // 10.3
	m := memory.New(of(1000, 4))
	store(m, 1, nil)
	var want []int
	for slot := 1; slot <= 1000; slot++ {
		m.Write(arena.Words(m.Layout, slot, inner(nil, uint64(slot%1000+1)))...)
		want = append(want, slot)
	}
	if got := arena.Tree(m); !slices.Equal(got, want) {
		t.Error("a deep tree:", got)
	}
}

func TestFree(t *testing.T) { // 10.3
	for i, x := range []struct {
		head  int
		links map[int]uint64
		want  []int
		sound bool
	}{
		{0, nil, nil, true}, {3, nil, []int{3}, true}, {3, map[int]uint64{3: 1, 1: 9}, []int{3, 1, 9}, true}, {10, nil, nil, false}, {65535, nil, nil, false},
		{3, map[int]uint64{3: 10}, []int{3}, false}, {3, map[int]uint64{3: 3}, []int{3}, false}, {3, map[int]uint64{3: 4, 4: 5, 5: 4}, []int{3, 4, 5}, false},
		{3, map[int]uint64{3: 1<<63 + 1}, []int{3}, false}, {3, map[int]uint64{3: 1<<32 + 4}, []int{3}, false}, {3, map[int]uint64{3: math.MaxUint64}, []int{3}, false}, {3, map[int]uint64{3: 65536}, []int{3}, false},
	} {
		m := memory.New(of(9, 4))
		m.Write(api.Write{At: 2, Word: hword.Make(99, x.head)})
		for slot, link := range x.links {
			m.Write(api.Write{At: m.Link(slot), Word: link})
		}
		if got, sound := arena.Free(m); !slices.Equal(got, x.want) || sound != x.sound {
			t.Errorf("%d: Free = %v, %v", i, got, sound)
		}
	}
}

func TestWords(t *testing.T) { // 10.4, 10.5
	l := layout.New(of(3, 4))
	n := inner([]uint64{7, 9}, 4, 5, 6)
	n.Link = 8
	want := []api.Write{{At: l.Key(2, 0), Word: 7}, {At: l.Key(2, 1), Word: 9}, {At: l.Value(2, 0), Word: 4}, {At: l.Value(2, 1), Word: 5}, {At: l.Value(2, 2), Word: 6}, {At: l.Link(2), Word: 8}, {At: l.Shape(2), Word: 7}}
	if got := arena.Words(l, 2, n); !slices.Equal(got, want) {
		t.Error(got)
	}
	for slot := range 4 {
		for _, n := range []api.Node{{}, {Link: 9}, leaf(5, 1, 2, 3, 4), leaf(5, 1), inner(nil, 3), inner([]uint64{1, 2, 3}, 3, 4, 5, 6)} {
			m := memory.New(of(3, 4))
			for at := range m.Size() {
				m.Write(api.Write{At: at, Word: math.MaxUint64})
			}
			m.Write(arena.Words(l, slot, n)...)
			if got := arena.Node(m, slot); !arena.Same(got, n) {
				t.Errorf("slot %d holds %v, not %v", slot, got, n)
			}
		}
	}
	for _, slot := range []int{-1, 4, math.MaxInt} {
		if len(arena.Words(l, slot, leaf(0, 1))) != 0 {
			t.Errorf("there are words of slot %d", slot)
		}
	}
	for _, n := range []api.Node{leaf(0, 1, 2, 3, 4, 5), leaf(0, 2, 2), inner(nil), inner([]uint64{2}, 1), {Keys: []uint64{1}}} {
		if len(arena.Words(l, 2, n)) != 0 {
			t.Errorf("there are words of %v", n)
		}
	}
	if len(arena.Words(layout.Layout{}, 0, leaf(0))) != 0 {
		t.Error("there are words of no words")
	}
}

func TestNobodyMade(t *testing.T) {
	for _, m := range []*memory.Memory{nil, {}} {
		free, sound := arena.Free(m)
		if !arena.Same(arena.Node(m, 0), api.Node{}) || arena.Handle(m, 1) != 0 || arena.Root(m) != 0 || len(arena.Tree(m)) != 0 || len(free) != 0 || !sound {
			t.Error("there is something in no memory")
		}
	}
}

func TestExamples(t *testing.T) {
	m := arena.New(of(3, 4))
	free, _ := arena.Free(m)
	if !slices.Equal(arena.Tree(m), []int{1}) || !slices.Equal(free, []int{2, 3}) || arena.Root(m) != 65537 {
		t.Error("an example")
	}
}
