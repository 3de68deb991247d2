package shape_test

import (
	"slices"
	"testing"

	"gleaning/api"
	"gleaning/arena"
	"gleaning/handle"
	"gleaning/layout"
	"gleaning/machine"
	"gleaning/memory"
	"gleaning/model"
	"gleaning/shape"
	"gleaning/vword"
)

var conf = api.Config{Slots: 20, Threads: 2, Fan: 4, Limbo: 1, Patience: 1}

// h is the handle of a slot, of the generation that is ten more, and v the version word.
func h(slot int) uint64 { return handle.Make(uint64(slot+10), slot) }

func v(slot int) uint64 { return vword.Make(uint64(slot+10), 5, false, false) }

type keys = []uint64

func in(keys []uint64, vals ...uint64) api.Node { return api.Node{Inner: true, Keys: keys, Vals: vals} }

// of is a leaf whose values are ten times its keys.
func of(link uint64, keys ...uint64) api.Node {
	n := api.Node{Link: link}
	for _, k := range keys {
		n.Keys = append(n.Keys, k)
		n.Vals = append(n.Vals, 10*k)
	}
	return n
}

// tree is one of three levels.
func tree() map[int]api.Node {
	return map[int]api.Node{
		1: in(keys{50}, h(2), h(3)), 2: in(keys{20, 30}, h(4), h(5), h(6)), 3: in(keys{70}, h(7), h(8)),
		4: of(h(5), 5, 19), 5: of(h(6), 20), 6: of(h(7), 30, 40, 49), 7: of(h(8), 50, 55, 60, 65), 8: of(0, 70, 80),
	}
}

// grown is a memory with a tree of these nodes, by slots, whose root is in the slot 1.
func grown(nodes map[int]api.Node) *memory.Memory {
	m := memory.New(conf)
	m.Write(arena.Words(m.Layout, 0, in(nil, h(1)))...)
	for slot, n := range nodes {
		m.Write(arena.Words(m.Layout, slot, n)...)
		m.Write(api.Write{At: m.Version(slot), Word: v(slot)})
	}
	return m
}

var (
	all    = shape.Told{Plain: true, Fits: true, Level: true, Ordered: true, Chained: true, Alive: true}
	slots  = []int{4, 5, 6, 7, 8}
	told   = []uint64{5, 19, 20, 30, 40, 49, 50, 55, 60, 65, 70, 80}
	change = func(slot int, n api.Node) map[int]api.Node {
		nodes := tree()
		nodes[slot] = n
		return nodes
	}
)

func pairs() []api.Pair {
	var out []api.Pair
	for _, k := range told {
		out = append(out, api.Pair{Key: k, Value: 10 * k})
	}
	return out
}

// but is all that is true, but what is changed.
func but(change func(t *shape.Told)) shape.Told {
	t := all
	change(&t)
	return t
}

func holds(t *testing.T, name string, m *memory.Memory, want shape.Told) {
	t.Helper()
	if got := shape.Check(m); got != want || got.OK() != (want == all) {
		t.Errorf("%s: %+v, not %+v", name, got, want)
	}
	if some := len(shape.Leaves(m)) > 0; some != want.Fits {
		t.Errorf("%s: leaves %v", name, shape.Leaves(m))
	}
	if !want.Fits && (len(shape.Pairs(m)) > 0 || shape.Depth(m) != 0) {
		t.Errorf("%s: pairs %v, depth %d", name, shape.Pairs(m), shape.Depth(m))
	}
}

func TestTree(t *testing.T) { // 34.1, 34.2
	m := grown(tree())
	holds(t, "a tree", m, all)
	if !slices.Equal(shape.Leaves(m), slots) || !slices.Equal(shape.Pairs(m), pairs()) || shape.Depth(m) != 2 {
		t.Error(shape.Leaves(m), shape.Pairs(m), shape.Depth(m))
	}
}

func TestNotPlain(t *testing.T) { // 34.1
	none := shape.Told{}
	for _, bad := range []uint64{0, handle.Make(1, 21), h(1) | 1<<40, 5 << 16} {
		m := grown(tree())
		m.Write(api.Write{At: m.Value(0, 0), Word: bad})
		holds(t, "no root", m, none)
		holds(t, "no child", grown(change(3, in(keys{70}, h(7), bad))), none)
	}
	for _, twice := range []uint64{h(7), h(4), h(1), h(3), handle.Make(99, 7)} {
		holds(t, "a slot twice", grown(change(3, in(keys{70}, h(7), twice))), none)
	}
	m := grown(tree())
	m.Write(api.Write{At: m.Key(4, 1), Word: 0}, api.Write{At: m.Value(3, 1), Word: 0})
	holds(t, "neither plain, nor does it fit", m, none)
}

func TestDoesNotFit(t *testing.T) { // 34.1
	plain := shape.Told{Plain: true}
	for _, w := range []api.Write{{At: 0, Word: 5}, {At: 1, Word: 19}} {
		m := grown(tree())
		m.Write(api.Write{At: m.Key(4, w.At), Word: w.Word}, api.Write{At: m.Key(4, 1-w.At), Word: w.Word})
		holds(t, "a key twice", m, plain)
	}
	m := grown(tree())
	m.Write(api.Write{At: m.Key(2, 1), Word: 20})
	holds(t, "a key of an inner node twice", m, plain)
	m = grown(tree())
	m.Write(api.Write{At: m.Shape(5), Word: layout.Pack(true, 0)})
	holds(t, "an inner node without a child", m, plain)
}

func TestLevel(t *testing.T) { // 34.1
	want := but(func(t *shape.Told) { t.Level = false })
	nodes := change(1, in(keys{50, 70}, h(2), h(7), h(8)))
	holds(t, "some are higher", grown(nodes), want)
	if got := shape.Depth(grown(nodes)); got != 2 {
		t.Error("Depth is", got)
	}
	nodes = change(3, in(keys{70}, h(7), h(9)))
	nodes[9] = in(nil, h(8))
	holds(t, "some are lower", grown(nodes), want)
	if got := shape.Depth(grown(nodes)); got != 3 {
		t.Error("Depth is", got)
	}
}

func TestOrdered(t *testing.T) { // 34.1
	want := but(func(t *shape.Told) { t.Ordered = false })
	for slot, n := range map[int]api.Node{4: of(h(5), 5, 20), 5: of(h(6), 19), 6: of(h(7), 30, 50), 7: of(h(8), 49, 55), 8: of(0, 69), 3: in(keys{49}, h(7), h(8)), 2: in(keys{20, 50}, h(4), h(5), h(6))} {
		holds(t, "out of bounds", grown(change(slot, n)), want)
	}
	nodes := change(2, in(keys{20, 60}, h(4), h(5), h(6)))
	nodes[6] = of(h(7))
	holds(t, "an inner node's key", grown(nodes), want)
	nodes = change(2, in(keys{20, 50}, h(4), h(5), h(6)))
	nodes[6] = of(h(7))
	holds(t, "an inner node's key, at its bound", grown(nodes), want)
	for slot, n := range map[int]api.Node{4: of(h(5), 0), 5: of(h(6)), 8: of(0, 70, ^uint64(0)), 7: of(h(8), 50, 69)} {
		holds(t, "just in bounds", grown(change(slot, n)), all)
	}
}

func TestChained(t *testing.T) { // 34.1
	want := but(func(t *shape.Told) { t.Chained = false })
	for slot, n := range map[int]api.Node{4: of(0, 5), 5: of(h(7), 20), 6: of(handle.Make(1, 7), 30), 7: of(h(8)|1<<50, 50), 8: of(h(4), 70)} {
		holds(t, "another link", grown(change(slot, n)), want)
	}
	nodes := change(2, in(keys{20, 30}, h(4), h(5), h(6)))
	n := nodes[2]
	n.Link = 99
	nodes[2] = n
	holds(t, "an inner node's link", grown(nodes), all)
}

func TestAlive(t *testing.T) { // 34.1
	want := but(func(t *shape.Told) { t.Alive = false })
	for _, slot := range []int{1, 2, 8} {
		for _, w := range []uint64{vword.Lock(v(slot)), vword.Kill(v(slot))} {
			m := grown(tree())
			m.Write(api.Write{At: m.Version(slot), Word: w})
			holds(t, "locked, or dead", m, want)
		}
	}
	m := grown(tree())
	m.Write(api.Write{At: m.Version(0), Word: vword.Lock(8)})
	holds(t, "the anchor is locked", m, want)
	m = grown(tree())
	m.Write(api.Write{At: m.Version(0), Word: vword.Kill(8)})
	holds(t, "the anchor is dead", m, all)
	m = grown(tree())
	m.Write(api.Write{At: m.Version(2), Word: vword.Make(99, 5, false, false)})
	holds(t, "another generation", m, want)
	m = grown(tree())
	m.Write(api.Write{At: m.Version(8), Word: vword.Make(99, 5, false, false)})
	holds(t, "another generation of a leaf", m, but(func(t *shape.Told) { t.Alive, t.Chained = false, false }))
	m = grown(tree())
	m.Write(api.Write{At: m.Value(0, 0), Word: handle.Make(99, 1)})
	holds(t, "another root's generation", m, want)
}

func TestOK(t *testing.T) { // 34.1
	for i := range 6 {
		x := but(func(t *shape.Told) {
			*[]*bool{&t.Plain, &t.Fits, &t.Level, &t.Ordered, &t.Chained, &t.Alive}[i] = false
		})
		if x.OK() {
			t.Errorf("%+v is OK", x)
		}
	}
	if !all.OK() {
		t.Error("all is not OK")
	}
}

func TestOfMachine(t *testing.T) { // what a machine's operations leave
	m := machine.New(conf)
	plain := model.New()
	for i := range uint64(120) {
		o := api.Op{Kind: 2 + int(i/40)%2, Key: i * 7 % 40, Value: i}
		for m.Do(api.Entry{Kind: api.Submit, Op: o}); m.Queue(0) > 0 || m.Busy(0); {
			m.Do(api.Entry{Kind: api.Pick})
		}
		h := m.History()
		if h[len(h)-1].Result.Kind != api.Full {
			plain.Do(o)
		}
		if x := m.Memory(); !shape.Check(x).OK() || !slices.Equal(shape.Pairs(x), plain.Pairs()) {
			t.Fatalf("behind %v: %+v", o, shape.Check(x))
		}
	}
}

func TestNobodyMade(t *testing.T) {
	for _, m := range []*memory.Memory{nil, {}} {
		holds(t, "nobody made it", m, shape.Told{})
	}
}

func TestExamples(t *testing.T) {
	m := arena.New(conf)
	if !shape.Check(m).OK() || !slices.Equal(shape.Leaves(m), []int{1}) || len(shape.Pairs(m)) != 0 || shape.Depth(m) != 0 {
		t.Error("an example")
	}
}
