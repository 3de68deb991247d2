package sweep_test

import (
	"math"
	"slices"
	"testing"

	"gleaning/api"
	"gleaning/arena"
	"gleaning/handle"
	"gleaning/layout"
	"gleaning/limbo"
	"gleaning/memory"
	"gleaning/sweep"
)

var (
	conf = api.Config{Slots: 9, Threads: 2, Fan: 4, Limbo: 9, Patience: 1}
	l    = layout.New(conf)
)

func load(at int) api.Ask { return api.Ask{Kind: api.AskLoad, At: at} }

func store(at int, w uint64) api.Ask { return api.Ask{Kind: api.AskStore, At: at, New: w} }

func cas(at int, old, new uint64) api.Ask {
	return api.Ask{Kind: api.AskCas, At: at, Old: old, New: new}
}

// h is a handle of a slot.
func h(slot int) uint64 { return handle.Make(7, slot) }

func rec(h, epoch uint64) api.Record { return api.Record{Handle: h, Epoch: epoch} }

func same(a, b sweep.Lists) bool {
	return slices.Equal(a.Limbo, b.Limbo) && slices.Equal(a.Kept, b.Kept)
}

func clone(x sweep.Lists) sweep.Lists {
	return sweep.Lists{Limbo: slices.Clone(x.Limbo), Kept: slices.Clone(x.Kept)}
}

// scribble writes over lists.
func scribble(x sweep.Lists) {
	for i := range x.Limbo {
		x.Limbo[i] = rec(77, 77)
	}
	for i := range x.Kept {
		x.Kept[i] = 77
	}
}

// told is an access that must be wanted, what it tells, and how things are behind it.
type told struct {
	want  api.Ask
	got   uint64
	just  int
	freed []uint64
	lists sweep.Lists
}

// runs holds a sweep to its accesses.
func runs(t *testing.T, name string, x sweep.Lists, steps []told) sweep.Sweep {
	t.Helper()
	given := clone(x)
	s := sweep.New(l, given)
	scribble(given)
	lists, freed := x, []uint64(nil)
	for i, y := range steps {
		if s.Done() || s.Want() != y.want {
			t.Fatalf("%s: access %d is %v, not %v", name, i, s.Want(), y.want)
		}
		if !same(s.Now(), lists) || !slices.Equal(s.Freed(), freed) {
			t.Errorf("%s: ahead of access %d the lists are %v, freed are %x", name, i, s.Now(), s.Freed())
		}
		s.Took(y.got + 1) // it is a value: this one counts for nothing
		s = s.Took(y.got)
		lists, freed = y.lists, y.freed
		if !same(s.Now(), lists) || !slices.Equal(s.Freed(), freed) || s.Just() != y.just {
			t.Errorf("%s: behind access %d the lists are %v, freed are %x, just %d", name, i, s.Now(), s.Freed(), s.Just())
		}
		scribble(s.Now())
		if f := s.Freed(); len(f) > 0 {
			f[0] = 77
		}
	}
	if !s.Done() || s.Want() != (api.Ask{}) {
		t.Errorf("%s: it has come: %v, and wants %v", name, s.Done(), s.Want())
	}
	if s = s.Took(1); s.Just() != 0 || !s.Done() || !same(s.Now(), lists) || !slices.Equal(s.Freed(), freed) {
		t.Errorf("%s: it goes on", name)
	}
	return s
}

// hazards are the loads of all hazards, which tell such words, and leave the lists as they are but behind the last one.
func hazards(before, behind sweep.Lists, freed []uint64, words ...uint64) []told {
	var out []told
	for i, w := range words {
		out = append(out, told{load(5 + i), w, 0, nil, before})
	}
	out[3].lists, out[3].freed = behind, freed
	return out
}

// pushes are the accesses by which a slot is pushed on an empty list.
func pushes(slot int, before, behind sweep.Lists, was, freed []uint64) []told {
	return []told{{load(2), 0, 0, was, before}, {store(l.Link(slot), 0), 0, 0, was, before}, {cas(2, 0, 65536+uint64(slot)), 1, slot, freed, behind}}
}

func TestNothingRipe(t *testing.T) { // 19.1
	for _, x := range []sweep.Lists{{}, {Limbo: []api.Record{rec(h(3), 5), rec(h(4), 6), rec(h(5), 7)}}} {
		runs(t, "nothing ripe", x, []told{{load(0), 6, 0, nil, x}})
	}
}

func TestRipe(t *testing.T) { // 19.1, 19.2
	x := sweep.Lists{Limbo: []api.Record{rec(h(3), 5), rec(h(4), 4), rec(h(5), 3)}}
	y := sweep.Lists{Limbo: []api.Record{rec(h(3), 5), rec(h(5), 3)}}
	z := sweep.Lists{Limbo: []api.Record{rec(h(3), 5)}}
	steps := append([]told{{load(0), 6, 0, nil, x}}, hazards(x, x, nil, 0, h(3), h(6), 0)...)
	steps = append(steps, pushes(4, x, y, nil, []uint64{h(4)})...)
	steps = append(steps, pushes(5, y, z, []uint64{h(4)}, []uint64{h(4), h(5)})...)
	runs(t, "ripe", x, steps)
}

func TestMissedPush(t *testing.T) { // 19.2
	x := sweep.Lists{Limbo: []api.Record{rec(h(4), 4)}}
	steps := append([]told{{load(0), 6, 0, nil, x}}, hazards(x, x, nil, 0, 0, 0, 0)...)
	steps = append(steps, told{load(2), 9, 0, nil, x}, told{store(l.Link(4), 9), 0, 0, nil, x}, told{cas(2, 9, 65540), 0, 0, nil, x})
	runs(t, "a miss", x, append(steps, pushes(4, x, sweep.Lists{}, nil, []uint64{h(4)})...))
}

func TestCovered(t *testing.T) { // 19.1, 19.2
	other := handle.Make(8, 3)
	x := sweep.Lists{Limbo: []api.Record{rec(h(3), 4), rec(h(4), 9), rec(h(5), 4), rec(h(6), 4)}, Kept: []uint64{h(1), h(2), other}}
	behind := sweep.Lists{Limbo: []api.Record{rec(h(4), 9), rec(h(5), 4)}, Kept: []uint64{h(1), h(2), other, h(3), h(6)}}
	first := sweep.Lists{Limbo: behind.Limbo, Kept: []uint64{h(2), other, h(3), h(6)}}
	second := sweep.Lists{Limbo: behind.Limbo, Kept: []uint64{h(2), h(3), h(6)}}
	third := sweep.Lists{Limbo: []api.Record{rec(h(4), 9)}, Kept: second.Kept}
	steps := append([]told{{load(0), 10, 0, nil, x}}, hazards(x, behind, nil, h(6), h(3), h(2), h(4))...)
	steps = append(steps, pushes(1, behind, first, nil, []uint64{h(1)})...)
	steps = append(steps, pushes(3, first, second, []uint64{h(1)}, []uint64{h(1), other})...)
	steps = append(steps, pushes(5, second, third, []uint64{h(1), other}, []uint64{h(1), other, h(5)})...)
	runs(t, "covered", x, steps)
}

func TestAllCovered(t *testing.T) { // 19.1
	x := sweep.Lists{Limbo: []api.Record{rec(h(3), 4)}, Kept: []uint64{h(1)}}
	y := sweep.Lists{Kept: []uint64{h(1), h(3)}}
	runs(t, "all covered", x, append([]told{{load(0), 6, 0, nil, x}}, hazards(x, y, nil, h(1), 0, 0, h(3))...))
	x = sweep.Lists{Limbo: []api.Record{rec(h(3), 5)}, Kept: []uint64{h(1)}}
	runs(t, "kept, and nothing ripe", x, append([]told{{load(0), 6, 0, nil, x}}, hazards(x, x, nil, h(1), h(3), 0, 0)...))
}

func TestTwice(t *testing.T) { // 19.2: of several, the first one goes, of the limbo the first ripe one
	x := sweep.Lists{Limbo: []api.Record{rec(h(3), 5), rec(h(3), 4), rec(h(4), 6), rec(h(3), 3)}, Kept: []uint64{h(4), h(3), h(4)}}
	lists := []sweep.Lists{
		x,
		{Limbo: x.Limbo, Kept: []uint64{h(3), h(4)}},
		{Limbo: x.Limbo, Kept: []uint64{h(4)}},
		{Limbo: x.Limbo},
		{Limbo: []api.Record{rec(h(3), 5), rec(h(4), 6), rec(h(3), 3)}},
		{Limbo: []api.Record{rec(h(3), 5), rec(h(4), 6)}},
	}
	steps := append([]told{{load(0), 6, 0, nil, x}}, hazards(x, x, nil, 0, 0, 0, 0)...)
	var freed []uint64
	for i, slot := range []int{4, 3, 4, 3, 3} {
		more := append(slices.Clone(freed), h(slot))
		steps = append(steps, pushes(slot, lists[i], lists[i+1], freed, more)...)
		freed = more
	}
	runs(t, "twice", x, steps)
}

func TestNoSlot(t *testing.T) { // 19.2, 19.3: who has no slot is gone as soon as its turn comes
	far := handle.Make(7, 10)
	x := sweep.Lists{Limbo: []api.Record{rec(0, 3), rec(h(4), 4), rec(far, 4)}, Kept: []uint64{far}}
	y := sweep.Lists{Limbo: []api.Record{rec(h(4), 4), rec(far, 4)}}
	steps := append([]told{{load(0), 6, 0, nil, x}}, hazards(x, y, []uint64{far, 0}, 0, 0, 0, 0)...)
	steps = append(steps, pushes(4, y, sweep.Lists{}, []uint64{far, 0}, []uint64{far, 0, h(4), far})...)
	runs(t, "no slot", x, steps)
	x = sweep.Lists{Kept: []uint64{far, 0}}
	runs(t, "no slots at all", x, append([]told{{load(0), 6, 0, nil, x}}, hazards(x, sweep.Lists{}, []uint64{far, 0}, 0, 0, 0, 0)...))
	high := h(4) | 1<<50
	x = sweep.Lists{Kept: []uint64{high}}
	steps = append([]told{{load(0), 6, 0, nil, x}}, hazards(x, x, nil, h(4), 0, 0, 0)...)
	runs(t, "a handle with more bits", x, append(steps, pushes(4, x, sweep.Lists{}, nil, []uint64{high})...))
}

func TestSlots(t *testing.T) { // 19.3
	x := sweep.Lists{Limbo: []api.Record{rec(h(3), 5), rec(0, 4)}, Kept: []uint64{h(9), math.MaxUint64}}
	if got := x.Slots(); !slices.Equal(got, []int{3, 0, 9, 65535}) {
		t.Error(got)
	}
	if len(sweep.Lists{}.Slots()) != 0 {
		t.Error("slots of nothing")
	}
	if got := sweep.New(l, x).Slots(); !slices.Equal(got, []int{3, 0, 9, 65535}) {
		t.Error("a sweep's own:", got)
	}
}

func TestNobodyMade(t *testing.T) {
	x := sweep.Lists{Limbo: []api.Record{rec(h(3), 1)}, Kept: []uint64{h(1)}}
	for _, s := range []sweep.Sweep{{}, sweep.New(layout.Layout{}, x)} {
		if !s.Done() || s.Want() != (api.Ask{}) || s.Just() != 0 || len(s.Freed()) != 0 || !s.Took(1).Done() {
			t.Error("it has not come")
		}
	}
	if got := sweep.New(layout.Layout{}, x).Now(); !same(got, x) {
		t.Error("its lists are", got)
	}
}

// all runs a sweep over a memory, and holds at each time that no slot is lost.
func all(t *testing.T, m *memory.Memory, s sweep.Sweep) sweep.Sweep {
	t.Helper()
	free, _ := arena.Free(m)
	want := append(free, s.Now().Slots()...)
	slices.Sort(want)
	for !s.Done() {
		s = s.Took(m.Do(s.Want()))
		free, sound := arena.Free(m)
		got := append(slices.Clone(free), s.Now().Slots()...)
		slices.Sort(got)
		if !sound || !slices.Equal(got, want) {
			t.Fatalf("slots are %v, not %v", got, want)
		}
		if s.Just() != 0 && free[0] != s.Just() {
			t.Fatalf("just %d was made free, not %d", free[0], s.Just())
		}
	}
	return s
}

func TestOverMemory(t *testing.T) { // 19.4
	for seed := range uint64(200) {
		c := conf
		c.Threads = 1 + int(seed%5)
		m := memory.New(c)
		x := sweep.Lists{}
		r := seed*0x9e3779b97f4a7c15 + 1
		next := func(n uint64) uint64 {
			r ^= r << 13
			r ^= r >> 7
			r ^= r << 17
			return r >> 20 % n
		}
		m.Write(api.Write{At: 0, Word: 5})
		for slot := 1; slot <= 9; slot++ {
			switch next(3) {
			case 0:
				x.Limbo = append(x.Limbo, rec(h(slot), next(8)))
			case 1:
				x.Kept = append(x.Kept, h(slot))
			}
		}
		var covers []uint64
		for i := range 2 * c.Threads {
			covers = append(covers, h(int(next(10))))
			m.Write(api.Write{At: m.Hazard(i/2, i%2), Word: covers[i]})
		}
		s := all(t, m, sweep.New(m.Layout, x))
		ripe, _ := limbo.Part(x.Limbo, 5)
		_, want := limbo.Covered(append(slices.Clone(x.Kept), limbo.Handles(ripe)...), covers)
		if !slices.Equal(s.Freed(), want) {
			t.Fatalf("seed %d: freed are %x, not %x", seed, s.Freed(), want)
		}
	}
}

func TestExamples(t *testing.T) {
	x := sweep.Lists{Limbo: []api.Record{rec(h(4), 4)}}
	s := sweep.New(l, x).Took(6).Took(0).Took(0).Took(0).Took(0)
	if s.Want() != load(2) || s.Took(0).Want() != store(l.Link(4), 0) || !sweep.New(l, x).Took(5).Done() {
		t.Error("an example")
	}
}
