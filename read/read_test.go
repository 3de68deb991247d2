package read_test

import (
	"math"
	"slices"
	"testing"

	"gleaning/api"
	"gleaning/arena"
	"gleaning/handle"
	"gleaning/inner"
	"gleaning/layout"
	"gleaning/leaf"
	"gleaning/memory"
	"gleaning/model"
	"gleaning/read"
	"gleaning/vword"
)

var (
	conf = api.Config{Slots: 9, Threads: 2, Fan: 4, Limbo: 1, Patience: 1}
	l    = layout.New(conf)
)

func load(at int) api.Ask { return api.Ask{Kind: api.AskLoad, At: at} }

// h is the handle of a slot, of the generation that is ten more, and v the version word.
func h(slot int) uint64 { return handle.Make(uint64(slot+10), slot) }

func v(slot int) uint64 { return vword.Make(uint64(slot+10), 5, false, false) }

func pair(k uint64) api.Pair { return api.Pair{Key: k, Value: 10 * k} }

func pairs(keys ...uint64) []api.Pair {
	var out []api.Pair
	for _, k := range keys {
		out = append(out, pair(k))
	}
	return out
}

// told is an access that must be wanted, what it tells, and what it means.
type told struct {
	want  api.Ask
	got   uint64
	marks []api.Mark
}

func marks(kind int, h uint64) []api.Mark { return []api.Mark{{Kind: kind, A: h}} }

// attempt is what both kinds of attempts are.
type attempt[T any] interface {
	Want() api.Ask
	Took(got uint64) T
	Done() (int, api.Result)
	Marks() []api.Mark
}

// goes holds an attempt to its accesses.
func goes[T attempt[T]](t *testing.T, name string, a T, steps ...told) T {
	t.Helper()
	for i, x := range steps {
		if o, r := a.Done(); o != 0 || !model.Same(r, api.Result{}) {
			t.Fatalf("%s: it has come ahead of access %d", name, i)
		}
		if a.Want() != x.want {
			t.Fatalf("%s: access %d is %v, not %v", name, i, a.Want(), x.want)
		}
		a.Took(x.got + 1) // it is a value: this one counts for nothing
		a = a.Took(x.got)
		if !slices.Equal(a.Marks(), x.marks) {
			t.Errorf("%s: access %d means %v, not %v", name, i, a.Marks(), x.marks)
		}
	}
	return a
}

// comes holds an attempt to what it comes to.
func comes[T attempt[T]](t *testing.T, name string, a T, outcome int, result api.Result) {
	t.Helper()
	for range 2 {
		if o, r := a.Done(); o != outcome || !model.Same(r, result) || a.Want() != (api.Ask{}) {
			t.Errorf("%s: it comes to %d, %v, and wants %v", name, o, r, a.Want())
		}
		if a = a.Took(1); len(a.Marks()) != 0 {
			t.Errorf("%s: there are marks behind its end: %v", name, a.Marks())
		}
	}
}

var (
	found   = api.Result{Kind: api.Found, Value: 77}
	nothing = api.Result{Kind: api.Nothing}
)

// first are the accesses to the first leaf, in the slot 3, of so many entries.
func first(n int) []told {
	return []told{{load(l.Version(0)), 8, []api.Mark{{Kind: api.MarkBegin, B: 8}}}, {load(l.Value(0, 0)), h(3), nil}, {load(l.Version(3)), v(3), []api.Mark{{Kind: api.MarkBegin, A: h(3), B: v(3)}}},
		{load(l.Version(0)), 8, marks(api.MarkCheck, 0)}, {load(l.Shape(3)), layout.Pack(false, n), nil}}
}

func with(l []told, more ...told) []told { return slices.Concat(l, more) }

var effect = []api.Mark{{Kind: api.MarkCheck, A: h(3)}, {Kind: api.MarkEffect}}

func TestNumbers(t *testing.T) {
	if read.Over != 1 || read.Restart != 3 {
		t.Error("the outcomes' numbers")
	}
}

func TestGet(t *testing.T) { // 22.1, 22.3
	version := told{load(l.Version(3)), v(3), effect}
	g := goes(t, "empty", read.NewGet(l, 0, 5, false), with(first(0), version)...)
	comes(t, "empty", g, read.Over, nothing)
	three := with(first(3), told{load(l.Key(3, 1)), 5, nil}, told{load(l.Key(3, 0)), 3, nil}, told{load(l.Key(3, 1)), 5, nil})
	g = goes(t, "found", read.NewGet(l, 0, 5, false), with(three, told{load(l.Value(3, 1)), 77, nil}, version)...)
	comes(t, "found", g, read.Over, found)
	if g.H != h(3) {
		t.Error("its spot is not its own")
	}
	g = goes(t, "not found", read.NewGet(l, 0, 4, false), with(three, version)...)
	comes(t, "not found", g, read.Over, nothing)
	behind := with(first(3), told{load(l.Key(3, 1)), 5, nil}, told{load(l.Key(3, 2)), 7, nil})
	g = goes(t, "behind all", read.NewGet(l, 0, 9, false), with(behind, version)...)
	comes(t, "behind all", g, read.Over, nothing)
	changed := with(first(1), told{load(l.Key(3, 0)), 9, nil}, told{load(l.Key(3, 0)), 5, nil}, told{load(l.Value(3, 0)), 77, nil})
	g = goes(t, "a key that was changed between", read.NewGet(l, 0, 5, false), with(changed, version)...)
	comes(t, "a key that was changed between", g, read.Over, found)
	for _, other := range []uint64{vword.Lock(v(3)), vword.Bump(v(3)), 0} {
		g = goes(t, "turned", read.NewGet(l, 0, 5, false), with(changed, told{load(l.Version(3)), other, marks(api.MarkMiss, h(3))})...)
		comes(t, "turned", g, read.Restart, api.Result{})
	}
}

func TestWalkRestarts(t *testing.T) { // 22.1, 22.2
	steps := first(0)[:4]
	steps[3].got, steps[3].marks = 9, marks(api.MarkMiss, 0)
	comes(t, "Get", goes(t, "Get", read.NewGet(l, 0, 5, false), steps...), read.Restart, api.Result{})
	comes(t, "Scan", goes(t, "Scan", read.NewScan(l, 0, api.Op{Kind: api.Scan, High: 9, Most: 3}, false), steps...), read.Restart, api.Result{})
}

func TestSlow(t *testing.T) { // 22.1, 22.2
	steps := with(first(0)[:2], told{api.Ask{Kind: api.AskStore, At: l.Hazard(1, 0), New: h(3)}, 0, nil}, first(0)[2])
	steps = append(steps, told{load(l.Version(0)), 8, []api.Mark{{Kind: api.MarkCheck}, {Kind: api.MarkFirm, A: h(3)}}})
	goes(t, "Get", read.NewGet(l, 1, 5, true), steps...)
	goes(t, "Scan", read.NewScan(l, 1, api.Op{Kind: api.Scan, High: 9, Most: 3}, true), steps...)
	goes(t, "Anew", read.NewScan(l, 1, api.Op{Kind: api.Scan, High: 9, Most: 3}, false).Anew(true), steps...)
}

func scan(k, high uint64, most int) read.Scan {
	return read.NewScan(l, 0, api.Op{Kind: api.Scan, Key: k, High: high, Most: most}, false)
}

func listed(keys ...uint64) api.Result { return api.Result{Kind: api.Listed, Pairs: pairs(keys...)} }

// entry are the accesses of an entry of a leaf.
func entry(slot, i int, key uint64) []told {
	return []told{{load(l.Key(slot, i)), key, nil}, {load(l.Value(slot, i)), 10 * key, nil}}
}

// checked is the access that checks a leaf.
func checked(slot int) told {
	return told{load(l.Version(slot)), v(slot), marks(api.MarkCheck, h(slot))}
}

func TestScanOfOneLeaf(t *testing.T) { // 22.2
	link := told{load(l.Link(3)), 0, nil}
	sought := with(first(3), told{load(l.Key(3, 1)), 5, nil}, told{load(l.Key(3, 0)), 3, nil}) // for 4 or 5
	s := goes(t, "empty", scan(0, 9, 3), with(first(0), link, checked(3))...)
	comes(t, "empty", s, read.Over, listed())
	s = goes(t, "to the end", scan(4, 9, 3), with(with(sought, entry(3, 1, 5)...), with(entry(3, 2, 7), link, checked(3))...)...)
	comes(t, "to the end", s, read.Over, listed(5, 7))
	s = goes(t, "to the bound", scan(4, 6, 3), with(with(sought, entry(3, 1, 5)...), told{load(l.Key(3, 2)), 7, nil}, checked(3))...)
	comes(t, "to the bound", s, read.Over, listed(5))
	s = goes(t, "as many as it may", scan(4, 9, 1), with(with(sought, entry(3, 1, 5)...), checked(3))...)
	comes(t, "as many as it may", s, read.Over, listed(5))
	s = goes(t, "just as many as there are", scan(4, 9, 2), with(with(sought, entry(3, 1, 5)...), with(entry(3, 2, 7), checked(3))...)...)
	comes(t, "just as many as there are", s, read.Over, listed(5, 7))
	s = goes(t, "the last key is the bound", scan(4, 7, 3), with(with(sought, entry(3, 1, 5)...), with(entry(3, 2, 7), told{load(l.Link(3)), h(5), nil}, checked(3))...)...)
	comes(t, "the last key is the bound", s, read.Over, listed(5, 7))
	s = goes(t, "bounds that cross", scan(5, 4, 3), with(sought, told{load(l.Key(3, 1)), 5, nil}, checked(3))...)
	comes(t, "bounds that cross", s, read.Over, listed())
	s = goes(t, "behind all", scan(9, 20, 3), with(first(1), told{load(l.Key(3, 0)), 3, nil}, link, checked(3))...)
	comes(t, "behind all", s, read.Over, listed())
	s = goes(t, "the greatest key", scan(math.MaxUint64, math.MaxUint64, 3), with(first(1), told{load(l.Key(3, 0)), math.MaxUint64, nil}, told{load(l.Key(3, 0)), math.MaxUint64, nil}, told{load(l.Value(3, 0)), 1, nil}, told{load(l.Link(3)), h(5), nil}, checked(3))...)
	comes(t, "the greatest key", s, read.Over, api.Result{Kind: api.Listed, Pairs: []api.Pair{{Key: math.MaxUint64, Value: 1}}})
}

// next are the accesses to the leaf that a leaf is linked to.
func next(from, to, n int) []told {
	return []told{{load(l.Version(to)), v(to), []api.Mark{{Kind: api.MarkBegin, A: h(to), B: v(to)}}}, {load(l.Version(from)), v(from), marks(api.MarkCheck, h(from))}, {load(l.Shape(to)), layout.Pack(false, n), nil}}
}

// oneLeaf are the accesses of a leaf of one entry, 5, up to its check, of a Scan from 1 on.
func oneLeaf(link uint64) []told {
	return with(with(first(1), told{load(l.Key(3, 0)), 5, nil}), with(entry(3, 0, 5), told{load(l.Link(3)), link, nil})...)
}

func TestScanOfLeaves(t *testing.T) { // 22.2
	on := with(with(oneLeaf(h(6)), checked(3)), next(3, 6, 2)...)
	on = with(with(on, told{load(l.Key(6, 1)), 8, nil}, told{load(l.Key(6, 0)), 7, nil}), with(entry(6, 0, 7), entry(6, 1, 8)...)...)
	s := goes(t, "two leaves", scan(1, 9, 9), with(on, told{load(l.Link(6)), 0, nil}, checked(6))...)
	comes(t, "two leaves", s, read.Over, listed(5, 7, 8))
	s = goes(t, "as many as it may", scan(1, 9, 3), with(on, checked(6))...)
	comes(t, "as many as it may", s, read.Over, listed(5, 7, 8))

	// The next key is one above the last one: an entry that stands below it is passed over.
	late := with(with(with(oneLeaf(h(6)), checked(3)), next(3, 6, 1)...), told{load(l.Key(6, 0)), 5, nil}, told{load(l.Link(6)), 0, nil}, checked(6))
	comes(t, "a key that was told", goes(t, "a key that was told", scan(1, 9, 9), late...), read.Over, listed(5))
	equal := with(with(with(oneLeaf(h(6)), checked(3)), next(3, 6, 1)...), told{load(l.Key(6, 0)), 6, nil})
	equal = with(equal, with(entry(6, 0, 6), told{load(l.Link(6)), 0, nil}, checked(6))...)
	comes(t, "the next key", goes(t, "the next key", scan(1, 9, 9), equal...), read.Over, listed(5, 6))

	// Through a leaf that tells nothing the next key stays.
	empty := with(with(with(oneLeaf(h(6)), checked(3)), next(3, 6, 0)...), told{load(l.Link(6)), h(7), nil}, checked(6))
	empty = with(with(empty, next(6, 7, 1)...), told{load(l.Key(7, 0)), 6, nil})
	empty = with(empty, with(entry(7, 0, 6), told{load(l.Link(7)), 0, nil}, checked(7))...)
	comes(t, "an empty leaf", goes(t, "an empty leaf", scan(1, 9, 9), empty...), read.Over, listed(5, 6))
}

func TestScanRestarts(t *testing.T) { // 22.2, 22.3
	miss := told{load(l.Version(3)), vword.Bump(v(3)), marks(api.MarkMiss, h(3))}
	s := goes(t, "turned", scan(1, 9, 9), with(oneLeaf(h(6)), miss)...)
	comes(t, "turned", s, read.Restart, api.Result{})
	// The leaf's pairs are none: the next attempt begins where this one began.
	s = goes(t, "anew", s.Anew(false), with(oneLeaf(0), checked(3))...)
	comes(t, "anew", s, read.Over, listed(5))

	for _, bad := range []uint64{handle.Make(1, 10), h(6) | 1<<45} {
		s = goes(t, "no link", scan(1, 9, 9), with(oneLeaf(bad), checked(3))...)
		comes(t, "no link", s, read.Restart, api.Result{})
	}
	s = goes(t, "a link to an inner node", scan(1, 9, 9), with(with(oneLeaf(h(6)), checked(3)), next(3, 6, 2)[:2]...)...)
	s = goes(t, "a link to an inner node", s, told{load(l.Shape(6)), layout.Pack(true, 2), nil})
	comes(t, "a link to an inner node", s, read.Restart, api.Result{})

	// What the leaves ahead told stays, and the next key is 6.
	s = s.Anew(false)
	s = goes(t, "anew, from 6", s, with(first(2), told{load(l.Key(3, 1)), 6, nil}, told{load(l.Key(3, 0)), 5, nil})...)
	s = goes(t, "anew, from 6", s, with(entry(3, 1, 6), told{load(l.Link(3)), 0, nil}, checked(3))...)
	comes(t, "anew, from 6", s, read.Over, listed(5, 6))
	_, r := s.Done()
	r.Pairs[0] = api.Pair{}
	comes(t, "what was told is new", s, read.Over, listed(5, 6))
}

func TestAnewMidway(t *testing.T) { // 22.3
	s := goes(t, "midway", scan(1, 9, 2), with(with(oneLeaf(h(6)), checked(3)), next(3, 6, 2)...)...)
	again := s.Anew(false)
	s = goes(t, "as many as it may", again, with(first(1), told{load(l.Key(3, 0)), 7, nil})...)
	s = goes(t, "as many as it may", s, with(entry(3, 0, 7), checked(3))...)
	comes(t, "as many as it may", s, read.Over, listed(5, 7))
}

func TestNobodyMade(t *testing.T) {
	o := api.Op{Kind: api.Scan, High: 9, Most: 9}
	comes(t, "Get", read.Get{}, read.Restart, api.Result{})
	comes(t, "Scan", read.Scan{}, read.Restart, api.Result{})
	comes(t, "Anew", read.Scan{}.Anew(true), read.Restart, api.Result{})
	for _, thread := range []int{-1, 2, math.MinInt, math.MaxInt} {
		comes(t, "Get", read.NewGet(l, thread, 5, true), read.Restart, api.Result{})
		comes(t, "Scan", read.NewScan(l, thread, o, true), read.Restart, api.Result{})
		comes(t, "Anew", read.NewScan(l, thread, o, true).Anew(false), read.Restart, api.Result{})
	}
	comes(t, "Get of no words", read.NewGet(layout.Layout{}, 0, 5, false), read.Restart, api.Result{})
	comes(t, "Scan of no words", read.NewScan(layout.Layout{}, 0, o, false), read.Restart, api.Result{})
}

// run runs an attempt over a memory to its end, and tells how many accesses it made.
func run[T attempt[T]](m *memory.Memory, a T) (T, int) {
	steps := 0
	for o, _ := a.Done(); o == 0; o, _ = a.Done() {
		a = a.Took(m.Do(a.Want()))
		steps++
	}
	return a, steps
}

func TestOddOperations(t *testing.T) { // they end
	m, _ := grown(conf, pairs(1, 2, 3, 4, 5))
	for _, o := range []api.Op{{}, {Kind: api.Scan, High: 9}, {Kind: api.Scan, High: 9, Most: math.MinInt}, {Kind: 9, High: 9, Most: math.MaxInt}, {Kind: api.Put, Key: 3, Value: 5}} {
		run(m, read.NewScan(l, 0, o, false))
	}
}

// grown is a memory with a tree of two levels, whose leaves have two entries each, but each fourth one none.
func grown(c api.Config, all []api.Pair) (*memory.Memory, *model.Map) {
	m := memory.New(c)
	slot := 1
	put := func(n api.Node) uint64 {
		slot++
		m.Write(arena.Words(m.Layout, slot, n)...)
		m.Write(api.Write{At: m.Version(slot), Word: v(slot)})
		return h(slot)
	}
	var level []api.Pair // children, and the keys ahead of them
	last := uint64(0)
	for left := all; ; {
		many, key := min(len(left), 2), last+1
		if len(level)%4 == 3 {
			many = 0
		}
		if many > 0 {
			key, last = left[0].Key, left[many-1].Key
		}
		level = append(level, api.Pair{Key: key, Value: put(leaf.Of(0, left[:many]...))})
		if left = left[many:]; len(left) == 0 {
			break
		}
		m.Write(api.Write{At: m.Link(slot), Word: h(slot + 1)})
	}
	root := put(inner.Of(level[0].Value, level[1:]...))
	m.Write(api.Write{At: m.Value(0, 0), Word: root})
	return m, model.New(all...)
}

func TestOverTree(t *testing.T) { // 22.4
	c := api.Config{Slots: 100, Threads: 2, Fan: 20, Limbo: 1, Patience: 1}
	var all []api.Pair
	for i := range uint64(24) {
		all = append(all, pair(5+4*i+i%3))
	}
	m, plain := grown(c, all)
	for key := range uint64(110) {
		g, _ := run(m, read.NewGet(m.Layout, 0, key, key%2 == 0))
		if o, r := g.Done(); o != read.Over || !model.Same(r, plain.Do(api.Op{Kind: api.Get, Key: key})) {
			t.Fatalf("Get of %d tells %d, %v", key, o, r)
		}
		for _, high := range []uint64{0, key, key + 1, key + 20, math.MaxUint64} {
			for _, most := range []int{1, 2, 3, 7, 24, 1000} {
				op := api.Op{Kind: api.Scan, Key: key, High: high, Most: most}
				s, _ := run(m, read.NewScan(m.Layout, 1, op, most%2 == 0))
				if o, r := s.Done(); o != read.Over || !model.Same(r, plain.Do(op)) {
					t.Fatalf("%v tells %d, %v, not %v", op, o, r, plain.Do(op))
				}
			}
		}
	}
}

func TestExamples(t *testing.T) {
	m := arena.New(conf)
	g, many := run(m, read.NewGet(l, 0, 5, false))
	if o, r := g.Done(); o != read.Over || !model.Same(r, nothing) || many != 6 {
		t.Error("a Get:", o, r, many)
	}
	s, many := run(m, scan(0, 9, 5))
	if o, r := s.Done(); o != read.Over || !model.Same(r, listed()) || many != 7 {
		t.Error("a Scan:", o, r, many)
	}
}
