package audit_test

import (
	"math"
	"slices"
	"testing"

	"gleaning/api"
	"gleaning/audit"
	"gleaning/aword"
	"gleaning/handle"
	"gleaning/hword"
	"gleaning/layout"
	"gleaning/machine"
)

var (
	conf = api.Config{Slots: 9, Threads: 3, Fan: 4, Limbo: 1, Patience: 1}
	l    = layout.New(conf)
)

func load(thread int, marks ...api.Mark) api.Step {
	return api.Step{Thread: thread, Ask: api.Ask{Kind: api.AskLoad}, Marks: marks}
}

func store(thread, at int, w uint64, marks ...api.Mark) api.Step {
	return api.Step{Thread: thread, Ask: api.Ask{Kind: api.AskStore, At: at, New: w}, Marks: marks}
}

// cas is a compare and swap that told such a word.
func cas(thread, at int, w, got uint64, marks ...api.Mark) api.Step {
	return api.Step{Thread: thread, Ask: api.Ask{Kind: api.AskCas, At: at, Old: 12345, New: w}, Got: got, Marks: marks}
}

func mark(kind int, a uint64) api.Mark { return api.Mark{Kind: kind, A: a} }

// h is a handle of a slot.
func h(slot int) uint64 { return handle.Make(5, slot) }

func free(slot uint64) api.Mark     { return mark(api.MarkFree, slot) }
func retire(slot int) api.Mark      { return mark(api.MarkRetire, h(slot)) }
func alloc(slot uint64) api.Mark    { return mark(api.MarkAlloc, slot) }
func firm(h uint64) api.Mark        { return mark(api.MarkFirm, h) }
func begin(h uint64) api.Mark       { return mark(api.MarkBegin, h) }
func check(h uint64) api.Mark       { return mark(api.MarkCheck, h) }
func at(at, kind int) audit.Finding { return audit.Finding{At: at, Kind: kind} }

var (
	again   = mark(api.MarkAgain, 0)
	restart = mark(api.MarkRestart, 0)
	empty   = mark(api.MarkEmpty, 0)
)

// holds holds an audit to its findings.
func holds(t *testing.T, name string, steps []api.Step, want ...audit.Finding) {
	t.Helper()
	if got := audit.Check(conf, steps); !slices.Equal(got, want) {
		t.Errorf("%s: %v, not %v", name, got, want)
	}
	all := audit.All(conf, steps)
	for range 2 {
		if got := slices.Collect(all); !slices.Equal(got, want) {
			t.Errorf("%s: All are %v, not %v", name, got, want)
		}
	}
	for f := range all {
		if f != want[0] {
			t.Errorf("%s: All begins with %v", name, f)
		}
		break
	}
}

func TestNumbers(t *testing.T) { // 35.2
	names := map[int]string{audit.Reached: "reached", audit.Covered: "covered", audit.Announced: "announced", audit.Stale: "stale", audit.Idle: "idle", audit.Empty: "empty"}
	for kind := -2; kind < 10; kind++ {
		if audit.Name(kind) != names[kind] {
			t.Errorf("Name(%d) = %q", kind, audit.Name(kind))
		}
	}
	if audit.Reached != 1 || audit.Empty != 6 || audit.Name(math.MaxInt) != "" || audit.Name(math.MinInt) != "" {
		t.Error("the kinds' numbers")
	}
}

func TestReached(t *testing.T) { // 35.1
	root := l.Value(0, 0)
	holds(t, "in the tree", []api.Step{load(0, free(1)), load(0, free(2)), load(0, free(0)), load(0, free(1<<32+1))}, at(0, audit.Reached))
	holds(t, "behind the access", []api.Step{store(0, root, h(3), free(1)), load(0, free(3)), cas(0, root, h(1), 1, free(1)), cas(0, root, h(3), 0, free(3)), cas(0, root, h(3), 2, free(1))}, at(1, audit.Reached), at(2, audit.Reached), at(4, audit.Reached))
	holds(t, "below the root", []api.Step{store(0, l.Value(1, 0), h(4)), store(0, l.Shape(1), layout.Pack(true, 1)), load(0, free(4)), store(0, l.Shape(1), layout.Pack(false, 1), free(4))}, at(2, audit.Reached))
	holds(t, "a load turns nothing", []api.Step{{Ask: api.Ask{Kind: api.AskLoad, At: root, New: h(3)}, Marks: []api.Mark{free(3)}}, {Ask: api.Ask{Kind: 7, At: root, New: h(3)}, Got: 1, Marks: []api.Mark{free(3)}}, {Marks: []api.Mark{free(1)}}}, at(2, audit.Reached))
	holds(t, "once", []api.Step{load(0, free(1), free(2), free(1))}, at(0, audit.Reached))
	holds(t, "any word", []api.Step{store(0, -1, 5), store(0, 999999, 5), cas(7, math.MaxInt, 5, 1), store(0, math.MinInt, 5, free(1))}, at(3, audit.Reached))
}

func TestCovered(t *testing.T) { // 35.1
	hazard := l.Hazard(1, 1)
	firmed := []api.Step{store(1, hazard, h(4)), load(1, firm(h(4))), load(0, retire(4))}
	with := func(more ...api.Step) []api.Step { return slices.Concat(firmed, more) }
	holds(t, "covered", with(load(0, free(4))), at(3, audit.Covered))
	holds(t, "by its own", with(load(1, free(4))), at(3, audit.Covered))
	holds(t, "another slot", with(load(0, free(5))))
	holds(t, "the hazard is another one", with(store(1, hazard, h(5)), load(0, free(4))))
	holds(t, "it was stored anew", with(store(1, hazard, h(4)), load(0, free(4))))
	holds(t, "it was swapped", with(cas(0, hazard, h(4), 1), load(0, free(4))))
	holds(t, "a swap that missed", with(cas(0, hazard, 0, 0), load(0, free(4))), at(4, audit.Covered))
	holds(t, "firm again", with(store(1, hazard, h(4), firm(h(4))), load(0, free(4))), at(4, audit.Covered))
	holds(t, "not firm", []api.Step{store(1, hazard, h(4)), load(0, retire(4)), load(0, free(4))})
	holds(t, "firm by another thread", []api.Step{store(1, hazard, h(4)), load(0, firm(h(4))), load(0, retire(4)), load(0, free(4))})
	holds(t, "firm of another handle", []api.Step{store(1, hazard, h(4)), load(1, firm(handle.Make(6, 4))), load(0, retire(4)), load(0, free(4))})
	holds(t, "firm ahead of the store", []api.Step{load(1, firm(h(4))), store(1, hazard, h(4)), load(0, retire(4)), load(0, free(4))})
	holds(t, "no record", []api.Step{store(1, hazard, h(4)), load(1, firm(h(4))), load(0, free(4))})
	holds(t, "no record any more", with(load(0, alloc(4)), load(0, free(4))))
	holds(t, "another record", with(load(0, mark(api.MarkRetire, handle.Make(6, 4))), load(0, free(4))))
	holds(t, "twice free", with(load(0, free(4)), load(0, free(4))), at(3, audit.Covered), at(4, audit.Covered))
	holds(t, "in one step", []api.Step{store(1, hazard, h(4), firm(h(4)), retire(4), free(4))}, at(0, audit.Covered))
	holds(t, "in one step, the other way", []api.Step{store(1, hazard, h(4), free(4), firm(h(4)), retire(4))})
	holds(t, "the handle 0", []api.Step{load(1, firm(0)), load(0, mark(api.MarkRetire, 0)), load(0, free(0))}, at(2, audit.Covered))
	holds(t, "a thread that there is not", []api.Step{load(9, firm(0)), load(-1, firm(0)), load(0, mark(api.MarkRetire, 0)), load(0, free(0))})
	holds(t, "a handle with more bits", []api.Step{store(1, hazard, h(4)|1<<50, firm(h(4)|1<<50)), load(0, mark(api.MarkRetire, h(4)|1<<50)), load(0, free(4))}, at(2, audit.Covered))
}

func TestAnnounced(t *testing.T) { // 35.1
	in := func(state int) uint64 { return aword.Make(state, 3, 3) }
	announce := store(1, l.Announce(1), in(aword.Announced))
	behind := []api.Step{load(0, retire(4)), load(0, free(4))}
	with := func(ahead ...api.Step) []api.Step { return slices.Concat(ahead, behind) }
	holds(t, "announced", with(announce), at(2, audit.Announced))
	holds(t, "announced behind", []api.Step{load(0, retire(4)), announce, load(0, free(4))})
	holds(t, "announced in that step", []api.Step{store(1, l.Announce(1), in(aword.Announced), retire(4)), load(0, free(4))})
	holds(t, "its own", []api.Step{announce, load(0, retire(4)), load(1, free(4))})
	holds(t, "announced anew", []api.Step{announce, load(0, retire(4)), announce, load(0, free(4))})
	holds(t, "left", []api.Step{announce, load(0, retire(4)), store(1, l.Announce(1), 0), load(0, free(4))})
	for _, state := range []int{aword.Idle, aword.Evicted, aword.Slow} {
		holds(t, "another state", with(store(1, l.Announce(1), in(state))))
	}
	holds(t, "evicted", with(announce, cas(0, l.Announce(1), in(aword.Evicted), 1)))
	holds(t, "a miss", with(announce, cas(0, l.Announce(1), in(aword.Evicted), 0)), at(3, audit.Announced))
	holds(t, "no store of its own", with(store(0, l.Announce(1), in(aword.Announced))))
	holds(t, "no store", with(cas(1, l.Announce(1), in(aword.Announced), 1)))
	holds(t, "turned by another one", with(announce, store(0, l.Announce(1), in(aword.Announced))))
	holds(t, "another one's word", with(store(1, l.Announce(2), in(aword.Announced))))
	holds(t, "no record", []api.Step{announce, load(0, free(4))})
	holds(t, "no record any more", []api.Step{announce, load(0, retire(4)), load(0, alloc(4)), load(0, free(4))})
	holds(t, "the last record", []api.Step{load(0, retire(4)), announce, load(0, retire(4)), load(0, free(4))}, at(3, audit.Announced))
	holds(t, "a thread that there is not", with(store(9, l.Announce(9), in(aword.Announced))))
}

func TestStale(t *testing.T) { // 35.1
	for _, touch := range []api.Mark{free(4), alloc(4)} {
		holds(t, "touched", []api.Step{load(0, begin(h(4))), load(1, touch), load(0, check(h(4)))}, at(2, audit.Stale))
		holds(t, "by itself", []api.Step{load(0, begin(h(4))), load(0, touch), load(0, check(h(4)))}, at(2, audit.Stale))
		holds(t, "ahead", []api.Step{load(1, touch), load(0, begin(h(4))), load(0, check(h(4)))})
		holds(t, "begun anew", []api.Step{load(0, begin(h(4))), load(1, touch), load(0, begin(h(4))), load(0, check(h(4)))})
		holds(t, "never begun", []api.Step{load(1, touch), load(0, check(h(4)))}, at(1, audit.Stale))
		holds(t, "begun by another one", []api.Step{load(1, touch), load(1, begin(h(4))), load(0, check(h(4)))}, at(2, audit.Stale))
		holds(t, "begun by another handle", []api.Step{load(1, touch), load(0, begin(handle.Make(6, 4))), load(0, check(h(4)))}, at(2, audit.Stale))
		holds(t, "another slot", []api.Step{load(0, begin(h(5))), load(1, touch), load(0, check(h(5)))})
		holds(t, "behind the check", []api.Step{load(0, begin(h(4))), load(0, check(h(4)), touch)})
		holds(t, "ahead of the check", []api.Step{load(0, begin(h(4))), load(0, touch, check(h(4)))}, at(1, audit.Stale))
		holds(t, "in the step in which it began", []api.Step{load(0, begin(h(4)), touch, check(h(4)))})
	}
	holds(t, "untouched", []api.Step{load(0, check(h(4))), load(0, mark(api.MarkMiss, h(4)))})
	holds(t, "the anchor", []api.Step{load(0, begin(0)), load(1, alloc(0)), load(0, check(0))}, at(2, audit.Stale))
	holds(t, "a great slot", []api.Step{load(1, alloc(1<<16+4)), load(0, check(h(4)))})
}

func TestIdle(t *testing.T) { // 35.1
	holds(t, "idle", []api.Step{load(0, again), load(0, restart)}, at(1, audit.Idle))
	holds(t, "a store", []api.Step{load(0, again), store(1, 999, 5), load(0, restart)})
	holds(t, "a swap", []api.Step{load(0, again), cas(1, 9, 5, 1), load(0, restart)})
	holds(t, "a miss", []api.Step{load(0, again), cas(1, 9, 5, 0), load(0, restart)}, at(2, audit.Idle))
	holds(t, "a load", []api.Step{load(0, again), load(1), load(0, restart)}, at(2, audit.Idle))
	holds(t, "its own store", []api.Step{load(0, again), store(0, 9, 5), load(0, restart)}, at(2, audit.Idle))
	holds(t, "ahead", []api.Step{store(1, 9, 5), load(0, again), load(0, restart)}, at(2, audit.Idle))
	holds(t, "anew", []api.Step{load(0, again), store(1, 9, 5), load(0, again), load(0, restart)}, at(3, audit.Idle))
	holds(t, "another one's attempt", []api.Step{load(0, again), store(1, 9, 5), load(1, again), load(0, restart)})
	holds(t, "another one ahead of its own", []api.Step{load(0, again), store(1, 9, 5), store(0, 9, 5), store(0, 9, 5), load(0, restart)})
	holds(t, "three", []api.Step{load(0, again), store(1, 9, 5), load(1, again), store(0, 9, 5), load(1, restart), load(0, restart), load(0, again), store(2, 9, 5), store(0, 9, 5), load(0, restart)})
	holds(t, "in one step", []api.Step{store(1, 9, 5), store(0, 9, 5, again, restart)}, at(1, audit.Idle))
	holds(t, "the mark behind it counts for nothing", []api.Step{load(0, again), store(1, 9, 5), load(0, restart, again), load(0, restart)}, at(3, audit.Idle))
	holds(t, "nothing was turned at all", []api.Step{load(0, restart)}, at(0, audit.Idle))
}

func TestEmpty(t *testing.T) { // 35.1
	holds(t, "not empty", []api.Step{load(0, empty)}, at(0, audit.Empty))
	holds(t, "empty", []api.Step{cas(0, 2, hword.Make(9, 0), 1, empty), store(0, 2, hword.Make(9, 99), empty), cas(0, 2, 0, 0, empty)}, at(1, audit.Empty), at(2, audit.Empty))
}

func TestOrder(t *testing.T) { // 35.1: by their steps, of one step by their kinds
	announce := store(1, l.Announce(1), aword.Make(aword.Announced, 3, 3))
	covers := store(2, l.Hazard(2, 0), h(1), firm(h(1)))
	all := load(0, empty, restart, begin(9), check(h(1)), free(1), check(h(1)), free(1))
	holds(t, "all of them", []api.Step{announce, covers, load(0, again, retire(1)), all, load(0, empty)}, at(3, audit.Reached), at(3, audit.Covered), at(3, audit.Announced), at(3, audit.Stale), at(3, audit.Idle), at(3, audit.Empty), at(4, audit.Empty))
	if len(audit.Check(api.Config{}, []api.Step{all})) != 0 || len(slices.Collect(audit.All(api.Config{Slots: 9}, []api.Step{all}))) != 0 {
		t.Error("of a configuration that may not be")
	}
	holds(t, "nothing", nil)
}

func TestOfMachine(t *testing.T) { // 35.3
	r := uint64(88172645463325252)
	next := func(n int) int {
		r ^= r << 13
		r ^= r >> 7
		r ^= r << 17
		return int(r >> 20 % uint64(n))
	}
	marks := map[int]int{}
	for range 60 {
		c := api.Config{Slots: 2 + next(28), Threads: 1 + next(4), Fan: 4 + next(2), Limbo: 1 + next(2), Patience: 1 + next(4)}
		m := machine.New(c)
		for i := range 5000 {
			thread := next(c.Threads)
			if thread == i/400%c.Threads {
				thread = (thread + 1) % c.Threads
			}
			if m.Queue(thread) == 0 {
				m.Do(api.Entry{Kind: api.Submit, Thread: thread, Op: api.Op{Kind: []int{2 + i/300%2, 1 + next(4)}[next(9)/8], Key: uint64(next(20)), High: uint64(next(30)), Most: 1 + next(9)}})
			}
			if next(10) == 0 {
				m.Do(api.Entry{Kind: api.Tick})
			}
			m.Do(api.Entry{Kind: api.Pick, Thread: thread})
		}
		steps := m.Steps()
		if got := audit.Check(c, steps); len(got) != 0 {
			t.Fatalf("%v: %v", c, got)
		}
		for _, s := range steps {
			for _, x := range s.Marks {
				marks[x.Kind]++
			}
		}
	}
	for kind := api.MarkBegin; kind <= api.MarkEmpty; kind++ {
		if marks[kind] == 0 {
			t.Errorf("no step had a mark of the kind %d", kind)
		}
	}
}

func TestExamples(t *testing.T) {
	holds(t, "an example", []api.Step{load(0, free(1))}, at(0, audit.Reached))
}
