package advance_test

import (
	"math"
	"slices"
	"testing"

	"gleaning/advance"
	"gleaning/api"
	"gleaning/aword"
	"gleaning/layout"
)

func of(threads, patience int) layout.Layout {
	return layout.New(api.Config{Slots: 3, Threads: threads, Fan: 4, Limbo: 1, Patience: patience})
}

func load(at int) api.Ask { return api.Ask{Kind: api.AskLoad, At: at} }

func cas(at int, old, new uint64) api.Ask {
	return api.Ask{Kind: api.AskCas, At: at, Old: old, New: new}
}

// told is an access that must be wanted, what it tells, and who is evicted by it.
type told struct {
	want api.Ask
	got  uint64
	just int
}

// runs holds an automaton to its accesses, and to what it comes to.
func runs(t *testing.T, name string, l layout.Layout, thread int, steps []told, outcome int, epoch uint64, evicted ...int) {
	t.Helper()
	a := advance.New(l, thread)
	var now []int
	for i, x := range steps {
		if o, ok := a.Done(); o != 0 || ok {
			t.Fatalf("%s: it has come ahead of access %d", name, i)
		}
		if a.Want() != x.want {
			t.Fatalf("%s: access %d is %v, not %v", name, i, a.Want(), x.want)
		}
		if i == 0 && a.Epoch() != 0 || i > 0 && a.Epoch() != epoch {
			t.Errorf("%s: ahead of access %d the epoch is %d", name, i, a.Epoch())
		}
		was, next := a, a.Took(x.got)
		if was != a || next != a.Took(x.got) {
			t.Fatalf("%s: it is no value", name)
		}
		a = next
		if x.just >= 0 {
			now = append(now, x.just)
		}
		if a.Just() != x.just || !slices.Equal(a.Evicted(), slices.Sorted(slices.Values(now))) {
			t.Errorf("%s: behind access %d: %d was evicted, and %v are", name, i, a.Just(), a.Evicted())
		}
	}
	if o, ok := a.Done(); o != outcome || !ok || a.Want() != (api.Ask{}) || a.Epoch() != epoch || !slices.Equal(a.Evicted(), evicted) {
		t.Errorf("%s: it comes to %d, %v, in %d, evicted are %v", name, o, ok, a.Epoch(), a.Evicted())
	}
	if next := a.Took(1); next != a || next.Just() != -1 {
		t.Errorf("%s: it goes on", name)
	}
}

// in is an announcement of a state, in an epoch, at the tick 0.
func in(state int, epoch uint64) uint64 { return aword.Make(state, epoch, 0) }

func TestAdvance(t *testing.T) { // 18.1, 18.2
	if advance.Stuck != 1 || advance.Lost != 2 || advance.Gone != 3 {
		t.Error("the outcomes' numbers")
	}
	four := of(4, 3)
	go6 := cas(0, 5, 6)
	runs(t, "alone", of(1, 3), 0, []told{{load(0), 5, -1}, {go6, 1, -1}}, advance.Gone, 5)
	runs(t, "alone, and lost", of(1, 3), 0, []told{{load(0), 5, -1}, {go6, 0, -1}}, advance.Lost, 5)
	runs(t, "an odd miss", of(1, 3), 0, []told{{load(0), 5, -1}, {go6, 2, -1}}, advance.Lost, 5)
	runs(t, "the last epoch", of(1, 3), 0, []told{{load(0), math.MaxUint64, -1}, {cas(0, math.MaxUint64, 0), 1, -1}}, advance.Gone, math.MaxUint64)
	for thread := range 4 {
		steps := []told{{load(0), 5, -1}}
		for i, w := range []uint64{in(aword.Idle, 4), in(aword.Announced, 5), in(aword.Evicted, 4), in(aword.Slow, 4)} {
			if i != thread {
				steps = append(steps, told{load(3 + i), w, -1})
			}
		}
		runs(t, "nobody blocks", four, thread, append(steps, told{go6, 1, -1}), advance.Gone, 5)
	}
	old := in(aword.Announced, 4)
	runs(t, "stuck", four, 1, []told{{load(0), 5, -1}, {load(3), 0, -1}, {load(5), old, -1}, {load(1), 2, -1}}, advance.Stuck, 5)
	runs(t, "evicts", four, 1, []told{{load(0), 5, -1}, {load(3), 0, -1}, {load(5), old, -1}, {load(1), 3, -1}, {cas(5, old, aword.Evict(old)), 1, 2}, {load(6), 0, -1}, {go6, 1, -1}}, advance.Gone, 5, 2)
	runs(t, "evicts more", four, 1, []told{{load(0), 5, -1}, {load(3), old, -1}, {load(1), 3, -1}, {cas(3, old, aword.Evict(old)), 1, 0}, {load(5), 0, -1}, {load(6), old, -1}, {load(1), 9, -1}, {cas(6, old, aword.Evict(old)), 1, 3}, {go6, 0, -1}}, advance.Lost, 5, 0, 3)
	runs(t, "evicts, and is stuck", four, 1, []told{{load(0), 5, -1}, {load(3), old, -1}, {load(1), 3, -1}, {cas(3, old, aword.Evict(old)), 1, 0}, {load(5), old, -1}, {load(1), 2, -1}}, advance.Stuck, 5, 0)
	runs(t, "misses", four, 3, []told{{load(0), 5, -1}, {load(3), old, -1}, {load(1), 3, -1}, {cas(3, old, aword.Evict(old)), 0, -1}, {load(3), in(aword.Announced, 5), -1}, {load(4), 0, -1}, {load(5), old, -1}, {load(1), 4, -1}, {cas(5, old, aword.Evict(old)), 0, -1}, {load(5), old, -1}, {load(1), 4, -1}, {cas(5, old, aword.Evict(old)), 1, 2}, {go6, 1, -1}}, advance.Gone, 5, 2)
	runs(t, "misses, and is stuck", four, 3, []told{{load(0), 5, -1}, {load(3), old, -1}, {load(1), 3, -1}, {cas(3, old, aword.Evict(old)), 0, -1}, {load(3), aword.Make(aword.Announced, 4, 3), -1}, {load(1), 3, -1}}, advance.Stuck, 5)
	ahead := in(aword.Announced, 6)
	runs(t, "a later epoch blocks", four, 3, []told{{load(0), 5, -1}, {load(3), ahead, -1}, {load(1), 1, -1}}, advance.Stuck, 5)
	runs(t, "epochs modulo 2^30", of(2, 3), 0, []told{{load(0), 1<<30 + 4, -1}, {load(4), old, -1}, {cas(0, 1<<30+4, 1<<30+5), 1, -1}}, advance.Gone, 1<<30+4)
}

func TestManyThreads(t *testing.T) { // 18.1, 18.3
	l := of(64, 1)
	a := advance.New(l, 63)
	old := in(aword.Announced, 4)
	many, misses := 0, 0
	for _, ok := a.Done(); !ok; _, ok = a.Done() {
		many++
		switch w := a.Want(); {
		case w == load(0):
			a = a.Took(5)
		case w == load(1):
			a = a.Took(9)
		case w.Kind == api.AskLoad:
			a = a.Took(old)
		case w.At != 0 && many%5 == 0:
			misses++
			a = a.Took(0)
		default:
			a = a.Took(1)
		}
	}
	if o, _ := a.Done(); o != advance.Gone || len(a.Evicted()) != 63 || a.Evicted()[62] != 62 || misses == 0 || many > 2+3*misses+3*63 {
		t.Errorf("%d behind %d accesses, and %d misses; evicted are %v", o, many, misses, a.Evicted())
	}
}

func TestNoThread(t *testing.T) {
	l := of(2, 3)
	for _, a := range []advance.Advance{{}, advance.New(layout.Layout{}, 0), advance.New(l, -1), advance.New(l, 2), advance.New(l, math.MinInt), advance.New(l, math.MaxInt)} {
		if o, ok := a.Done(); o != advance.Stuck || !ok || a.Want() != (api.Ask{}) || a.Took(1) != a || a.Just() != -1 || a.Epoch() != 0 || len(a.Evicted()) != 0 {
			t.Errorf("%v: %d, %v", a, o, ok)
		}
	}
}

func TestJustBehindIt(t *testing.T) { // Just tells of the access told last alone
	l := of(3, 1)
	old := in(aword.Announced, 4)
	a := advance.New(l, 0).Took(5).Took(old).Took(9).Took(1)
	if a.Just() != 1 || a.Took(0).Just() != -1 || a.Took(old).Just() != -1 {
		t.Error("Just:", a.Just(), a.Took(0).Just())
	}
}

func TestExamples(t *testing.T) {
	a := advance.New(of(2, 3), 0).Took(5).Took(4*4 + 1).Took(3)
	if a.Want() != cas(4, 17, 18) {
		t.Error("an example:", a.Want())
	}
}
