package stack_test

import (
	"math"
	"slices"
	"testing"

	"gleaning/api"
	"gleaning/arena"
	"gleaning/hword"
	"gleaning/layout"
	"gleaning/memory"
	"gleaning/stack"
)

var (
	conf = api.Config{Slots: 3, Threads: 2, Fan: 4, Limbo: 1, Patience: 1}
	l    = layout.New(conf)
)

func load(at int) api.Ask { return api.Ask{Kind: api.AskLoad, At: at} }

func store(at int, w uint64) api.Ask { return api.Ask{Kind: api.AskStore, At: at, New: w} }

func cas(at int, old, new uint64) api.Ask {
	return api.Ask{Kind: api.AskCas, At: at, Old: old, New: new}
}

// told is an access that must be wanted, and what it tells.
type told struct {
	want api.Ask
	got  uint64
}

func pops(t *testing.T, name string, l []told, slot, tries int) {
	t.Helper()
	p := stack.NewPop(layout.New(conf))
	for i, x := range l {
		if s, ok := p.Done(); ok || s != 0 {
			t.Fatalf("%s: it has come ahead of access %d", name, i)
		}
		if p.Want() != x.want {
			t.Fatalf("%s: access %d is %v, not %v", name, i, p.Want(), x.want)
		}
		was := p
		next := p.Took(x.got)
		if was != p || p.Took(x.got) != next {
			t.Fatalf("%s: it is no value", name)
		}
		p = next
	}
	if s, ok := p.Done(); !ok || s != slot || p.Want() != (api.Ask{}) || p.Tries() != tries {
		t.Errorf("%s: it comes to %d, %v, behind %d misses, and wants %v", name, s, ok, p.Tries(), p.Want())
	}
	if p.Took(1) != p || p.Took(0) != p {
		t.Errorf("%s: it goes on", name)
	}
}

func TestPop(t *testing.T) { // 15.1, 15.3
	head := hword.Make(7, 2)
	pops(t, "hit", []told{{load(2), head}, {load(l.Link(2)), 3}, {cas(2, head, hword.Make(8, 3)), 1}}, 2, 0)
	pops(t, "the last one", []told{{load(2), head}, {load(l.Link(2)), 0}, {cas(2, head, hword.Make(8, 0)), 1}}, 2, 0)
	pops(t, "empty", []told{{load(2), hword.Make(7, 0)}}, 0, 0)
	pops(t, "no slot", []told{{load(2), hword.Make(7, 4)}}, 0, 0)
	pops(t, "far from a slot", []told{{load(2), math.MaxUint64}}, 0, 0)
	pops(t, "a great link", []told{{load(2), head}, {load(l.Link(2)), 4}, {cas(2, head, hword.Make(8, 0)), 1}}, 2, 0)
	pops(t, "a greater link", []told{{load(2), head}, {load(l.Link(2)), 1<<63 + 3}, {cas(2, head, hword.Make(8, 0)), 1}}, 2, 0)
	other := hword.Make(9, 1)
	pops(t, "misses", []told{{load(2), head}, {load(l.Link(2)), 3}, {cas(2, head, hword.Make(8, 3)), 0}, {load(2), other}, {load(l.Link(1)), 2}, {cas(2, other, hword.Make(10, 2)), 2}, {load(2), head}, {load(l.Link(2)), 3}, {cas(2, head, hword.Make(8, 3)), 1}}, 2, 2)
	pops(t, "a miss, and empty", []told{{load(2), head}, {load(l.Link(2)), 3}, {cas(2, head, hword.Make(8, 3)), math.MaxUint64}, {load(2), 0}}, 0, 1)
}

func pushes(t *testing.T, name string, slot int, l []told, tries int) {
	t.Helper()
	p := stack.NewPush(layout.New(conf), slot)
	for i, x := range l {
		if p.Done() {
			t.Fatalf("%s: it has come ahead of access %d", name, i)
		}
		if p.Want() != x.want {
			t.Fatalf("%s: access %d is %v, not %v", name, i, p.Want(), x.want)
		}
		was := p
		next := p.Took(x.got)
		if was != p || p.Took(x.got) != next {
			t.Fatalf("%s: it is no value", name)
		}
		p = next
	}
	if !p.Done() || p.Want() != (api.Ask{}) || p.Tries() != tries {
		t.Errorf("%s: it has come: %v, behind %d misses, and wants %v", name, p.Done(), p.Tries(), p.Want())
	}
	if p.Took(1) != p || p.Took(0) != p {
		t.Errorf("%s: it goes on", name)
	}
}

func TestPush(t *testing.T) { // 15.2, 15.3
	head := hword.Make(7, 2)
	pushes(t, "hit", 3, []told{{load(2), head}, {store(l.Link(3), 2), 0}, {cas(2, head, hword.Make(8, 3)), 1}}, 0)
	pushes(t, "the first one", 1, []told{{load(2), hword.Make(7, 0)}, {store(l.Link(1), 0), 9}, {cas(2, hword.Make(7, 0), hword.Make(8, 1)), 1}}, 0)
	pushes(t, "misses", 3, []told{{load(2), head}, {store(l.Link(3), 2), 0}, {cas(2, head, hword.Make(8, 3)), 0}, {load(2), 1}, {store(l.Link(3), 1), 0}, {cas(2, 1, hword.Make(1, 3)), 7}, {load(2), head}, {store(l.Link(3), 2), 0}, {cas(2, head, hword.Make(8, 3)), 1}}, 2)
	for _, slot := range []int{0, -1, 4, math.MinInt, math.MaxInt} {
		pushes(t, "no slot", slot, nil, 0)
	}
}

func TestNobodyMade(t *testing.T) { // 15.3
	for _, p := range []stack.Pop{{}, stack.NewPop(layout.Layout{})} {
		if s, ok := p.Done(); s != 0 || !ok || p.Want() != (api.Ask{}) || p.Took(1) != p || p.Tries() != 0 {
			t.Error("a Pop of no words has not come")
		}
	}
	for _, p := range []stack.Push{{}, stack.NewPush(layout.Layout{}, 0), stack.NewPush(layout.Layout{}, 1)} {
		if !p.Done() || p.Want() != (api.Ask{}) || p.Took(1) != p || p.Tries() != 0 {
			t.Error("a Push of no words has not come")
		}
	}
}

// actor takes a slot, and puts it back, over and over.
type actor struct {
	pop  stack.Pop
	push stack.Push
	has  int
	puts bool
}

func (a *actor) turn(m *memory.Memory) {
	if a.puts {
		a.push = a.push.Took(m.Do(a.push.Want()))
		if a.push.Done() {
			*a = actor{pop: stack.NewPop(m.Layout)}
		}
		return
	}
	a.pop = a.pop.Took(m.Do(a.pop.Want()))
	if slot, ok := a.pop.Done(); ok && slot == 0 {
		a.pop = stack.NewPop(m.Layout)
	} else if ok {
		*a = actor{push: stack.NewPush(m.Layout, slot), has: slot, puts: true}
	}
}

func TestTurns(t *testing.T) { // 15.4
	c := conf
	c.Slots = 4
	for seed := range uint64(300) {
		m := arena.New(c)
		actors := []*actor{{pop: stack.NewPop(m.Layout)}, {pop: stack.NewPop(m.Layout)}, {pop: stack.NewPop(m.Layout)}, {push: stack.NewPush(m.Layout, 1), has: 1, puts: true}}
		x := seed*0x9e3779b97f4a7c15 + 1
		for i := range 400 {
			x ^= x << 13
			x ^= x >> 7
			x ^= x << 17
			// Some go on for long, while others are left where they stand.
			actors[int(x>>33)%len(actors)*int(x>>50%2)].turn(m)
			got, sound := arena.Free(m)
			for _, a := range actors {
				if a.has != 0 {
					got = append(got, a.has)
				}
			}
			slices.Sort(got)
			if !sound || !slices.Equal(got, []int{1, 2, 3, 4}) {
				t.Fatalf("seed %d: behind turn %d the slots are %v, sound %v", seed, i, got, sound)
			}
		}
	}
}

func TestTagTurns(t *testing.T) { // 15.4: a head that comes back is not taken for what it was
	m := arena.New(conf)
	slow := stack.NewPop(l).Took(m.Do(load(2)))
	slow = slow.Took(m.Do(slow.Want())) // it has seen 2, and 3 behind it
	for _, slot := range []int{2, 3} {
		p := stack.NewPop(l)
		for p.Want() != (api.Ask{}) {
			p = p.Took(m.Do(p.Want()))
		}
		if s, _ := p.Done(); s != slot {
			t.Fatal("popped", s)
		}
	}
	for p := stack.NewPush(l, 2); !p.Done(); {
		p = p.Took(m.Do(p.Want()))
	}
	if m.Do(slow.Want()) != 0 {
		t.Error("the head that came back is hit")
	}
}

func TestExamples(t *testing.T) {
	pops(t, "the example", []told{{load(2), 2}, {load(l.Link(2)), 3}, {cas(2, 2, 65539), 1}}, 2, 0)
}
