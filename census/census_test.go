package census_test

import (
	"math"
	"slices"
	"testing"

	"gleaning/api"
	"gleaning/arena"
	"gleaning/census"
	"gleaning/handle"
	"gleaning/machine"
)

// next is a number that nobody can tell.
type next uint64

func (r *next) of(n uint64) int {
	x := uint64(*r)
	x ^= x << 13
	x ^= x >> 7
	x ^= x << 17
	*r = next(x)
	return int(x >> 20 % n)
}

// entries are the next ones of a machine: for a while one thread is left where it stands, and for a while more is put than is deleted.
func (r *next) entries(m *machine.Machine, at int) []api.Entry {
	threads := m.Config().Threads
	thread := r.of(uint64(threads))
	if thread == at/400%threads {
		thread = (thread + 1) % threads
	}
	var out []api.Entry
	if m.Queue(thread) == 0 {
		kind := 2 + at/300%2
		if r.of(9) == 0 {
			kind = 1 + r.of(4)
		}
		out = append(out, api.Entry{Kind: api.Submit, Thread: thread, Op: api.Op{Kind: kind, Key: uint64(r.of(20)), Value: uint64(r.of(9)), High: uint64(r.of(30)), Most: 1 + r.of(9)}})
	}
	if r.of(10) == 0 {
		out = append(out, api.Entry{Kind: api.Tick})
	}
	return append(out, api.Entry{Kind: api.Pick, Thread: thread})
}

// config is that of a small machine, whose limbos and whose patience are small.
func (r *next) config() api.Config {
	return api.Config{Slots: 2 + r.of(28), Threads: 1 + r.of(4), Fan: 4 + r.of(2), Limbo: 1 + r.of(2), Patience: 1 + r.of(4)}
}

func handles(l []uint64) []int {
	var out []int
	for _, h := range l {
		out = append(out, handle.Slot(h))
	}
	return out
}

func TestOf(t *testing.T) { // 33.1, 33.4
	seen := map[int]bool{}
	for seed := range 40 {
		r := next(seed*7919 + 1)
		c := r.config()
		m := machine.New(c)
		for at := range 3500 {
			m.All(r.entries(m, at)...)
			told := census.Of(m)
			if !told.Right(c.Slots) || !told.Sound || !census.Room(m) {
				t.Fatalf("seed %d: %+v of %v", seed, told, c)
			}
			free, _ := arena.Free(m.Memory())
			tree := arena.Tree(m.Memory())
			var limbo, kept, own []int
			for thread := range c.Threads {
				x := m.Lists(thread)
				for _, y := range x.Limbo {
					limbo = append(limbo, handle.Slot(y.Handle))
				}
				kept = append(kept, handles(x.Kept)...)
				for _, slot := range m.Own(thread) {
					if !slices.Contains(tree, slot) {
						own = append(own, slot)
					}
				}
				if !m.Busy(thread) && len(x.Kept) > api.Hazards*c.Threads {
					t.Fatalf("seed %d: thread %d keeps %v", seed, thread, x.Kept)
				}
			}
			if !slices.Equal(told.Free, free) || !slices.Equal(told.Tree, tree) || !slices.Equal(told.Limbo, limbo) || !slices.Equal(told.Covered, kept) || !slices.Equal(told.Own, own) {
				t.Fatalf("seed %d: %+v", seed, told)
			}
			for slot := 1; slot <= c.Slots; slot++ {
				seen[told.Place(slot)] = true
			}
		}
	}
	for place := api.PlaceFree; place <= api.PlaceCovered; place++ {
		if !seen[place] {
			t.Errorf("no slot was %s", census.Names(place))
		}
	}
}

func TestPlace(t *testing.T) { // 33.2
	told := census.Told{Free: []int{1, 2}, Tree: []int{2, 3}, Limbo: []int{3, 4}, Covered: []int{4, 5}, Own: []int{5, 6, 0, -1}}
	for slot, want := range map[int]int{1: api.PlaceFree, 2: api.PlaceFree, 3: api.PlaceTree, 4: api.PlaceLimbo, 5: api.PlaceCovered, 6: api.PlaceOwn, 7: 0, 0: api.PlaceOwn, -1: api.PlaceOwn, math.MaxInt: 0, math.MinInt: 0} {
		if got := told.Place(slot); got != want {
			t.Errorf("Place(%d) = %d", slot, got)
		}
	}
	if (census.Told{}).Place(1) != 0 {
		t.Error("Place of nothing")
	}
}

func TestRight(t *testing.T) { // 33.2
	for i, x := range []struct {
		told  census.Told
		slots int
		want  bool
	}{
		{census.Told{Free: []int{5, 1}, Tree: []int{2}, Limbo: []int{3}, Covered: []int{6}, Own: []int{4}, Sound: true}, 6, true},
		{census.Told{Free: []int{5, 1}, Tree: []int{2}, Limbo: []int{3}, Covered: []int{6}, Own: []int{4}}, 6, false},
		{census.Told{Free: []int{5, 1}, Tree: []int{2}, Limbo: []int{3}, Covered: []int{6}, Own: []int{4}, Sound: true}, 5, false},
		{census.Told{Free: []int{5, 1}, Tree: []int{2}, Limbo: []int{3}, Covered: []int{6}, Own: []int{4}, Sound: true}, 7, false},
		{census.Told{Free: []int{1, 2}, Tree: []int{3, 1}, Sound: true}, 3, false}, {census.Told{Free: []int{1, 2, 2}, Sound: true}, 2, false}, {census.Told{Free: []int{1, 2, 2}, Sound: true}, 3, false}, {census.Told{Free: []int{1, 2, 0}, Sound: true}, 3, false}, {census.Told{Free: []int{1, 2, 0}, Sound: true}, 2, false}, {census.Told{Own: []int{1, 2, 4}, Sound: true}, 3, false}, {census.Told{Covered: []int{-1, 1}, Sound: true}, 2, false},
		{census.Told{Sound: true}, 0, true}, {census.Told{}, 0, false}, {census.Told{Sound: true}, 1, false}, {census.Told{Free: []int{1}, Sound: true}, 0, false}, {census.Told{Free: []int{1}, Sound: true}, math.MinInt, false}, {census.Told{Free: []int{1}, Sound: true}, math.MaxInt, false},
	} {
		if got := x.told.Right(x.slots); got != x.want {
			t.Errorf("%d: %v", i, got)
		}
	}
}

func TestNames(t *testing.T) { // 33.3
	for place, want := range map[int]string{0: "", 1: "free", 2: "tree", 3: "limbo", 4: "own", 5: "covered", 6: "", -1: "", math.MaxInt: ""} {
		if got := census.Names(place); got != want {
			t.Errorf("Names(%d) = %q", place, got)
		}
	}
}

func TestRoom(t *testing.T) { // 33.3: a limbo may be full
	c := api.Config{Slots: 30, Threads: 2, Fan: 4, Limbo: 1, Patience: 1000}
	m := machine.New(c)
	do := func(o api.Op) {
		for m.Do(api.Entry{Kind: api.Submit, Op: o}); m.Queue(0) > 0 || m.Busy(0); {
			m.Do(api.Entry{Kind: api.Pick})
		}
	}
	for k := range uint64(30) {
		do(api.Op{Kind: api.Put, Key: k})
	}
	full := false
	for k := range uint64(30) {
		do(api.Op{Kind: api.Delete, Key: k})
		full = full || len(m.Lists(0).Limbo) == 1
		if !census.Room(m) {
			t.Error("more records than it may have")
		}
	}
	if !full {
		t.Error("no limbo was full")
	}
}

func TestNobodyMade(t *testing.T) {
	for _, m := range []*machine.Machine{nil, {}} {
		told := census.Of(m)
		if len(told.Free)+len(told.Tree)+len(told.Limbo)+len(told.Covered)+len(told.Own) != 0 || !told.Sound || !census.Room(m) {
			t.Errorf("%+v", told)
		}
	}
}

func TestExamples(t *testing.T) {
	told := census.Of(machine.New(api.Config{Slots: 3, Threads: 1, Fan: 4, Limbo: 1, Patience: 1}))
	if !slices.Equal(told.Free, []int{2, 3}) || !slices.Equal(told.Tree, []int{1}) || !told.Right(3) {
		t.Errorf("an example: %+v", told)
	}
}
