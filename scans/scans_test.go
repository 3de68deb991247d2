package scans_test

import (
	"math"
	"slices"
	"testing"

	"gleaning/api"
	"gleaning/machine"
	"gleaning/scans"
)

func get(k uint64) api.Op    { return api.Op{Kind: api.Get, Key: k} }
func put(k, v uint64) api.Op { return api.Op{Kind: api.Put, Key: k, Value: v} }
func del(k uint64) api.Op    { return api.Op{Kind: api.Delete, Key: k} }
func scan(k, h uint64, most int) api.Op {
	return api.Op{Kind: api.Scan, Key: k, High: h, Most: most}
}

var (
	nothing = api.Result{Kind: api.Nothing}
	full    = api.Result{Kind: api.Full}
)

func found(v uint64) api.Result { return api.Result{Kind: api.Found, Value: v} }

func listed(l ...api.Pair) api.Result { return api.Result{Kind: api.Listed, Pairs: l} }

func pair(k, v uint64) api.Pair { return api.Pair{Key: k, Value: v} }

// call is a call of a history: from a step, to another one (-1: it is not over).
type call struct {
	o        api.Op
	r        api.Result
	from, to int
}

// of is the history of calls, each of a thread of its own; they are in the order in which they begin.
func of(calls ...call) []api.Event {
	var h []api.Event
	for i, c := range calls {
		h = append(h, api.Event{Kind: api.Invoke, Thread: i, Id: i + 1, At: c.from, Op: c.o})
		if c.to >= 0 {
			h = append(h, api.Event{Kind: api.Respond, Thread: i, Id: i + 1, At: c.to, Op: c.o, Result: c.r})
		}
	}
	slices.SortStableFunc(h, func(a, b api.Event) int { return a.At - b.At })
	return h
}

// effects are so many steps, of which those of a map tell of the effect of a thread.
func effects(many int, threads map[int]int) []api.Step {
	steps := make([]api.Step, many)
	for i := range steps {
		steps[i].Thread = 99
		if thread, ok := threads[i]; ok {
			steps[i] = api.Step{Thread: thread, Marks: []api.Mark{{Kind: api.MarkCheck}, {Kind: api.MarkEffect}}}
		}
	}
	return steps
}

func same(a, b scans.State) bool { return a.From == b.From && slices.Equal(a.Pairs, b.Pairs) }

func TestStates(t *testing.T) { // 32.1
	h := of(call{put(1, 5), nothing, 0, 9}, call{put(2, 6), full, 0, 9}, call{get(1), found(5), 1, 9}, call{put(1, 7), api.Result{}, 1, -1}, call{del(1), found(7), 2, 9}, call{scan(0, 9, 9), listed(), 2, 9})
	steps := effects(12, map[int]int{0: 0, 3: 1, 4: 2, 5: 3, 6: 99, 7: 4, 8: 5, 11: 4})
	want := []scans.State{{}, {0, []api.Pair{pair(1, 5)}}, {3, []api.Pair{pair(1, 5)}}, {4, []api.Pair{pair(1, 5)}}, {5, []api.Pair{pair(1, 7)}}, {7, nil}, {8, nil}}
	got := scans.States(h, steps)
	if !slices.EqualFunc(got, want, same) {
		t.Fatal(got)
	}
	got[1].Pairs[0].Key = 77
	if got[2].Pairs[0].Key != 1 || !slices.EqualFunc(scans.States(h, steps), want, same) {
		t.Error("states share their pairs")
	}
	if got := scans.States(nil, steps); !slices.EqualFunc(got, []scans.State{{}}, same) {
		t.Error("of nothing:", got)
	}
	if got := scans.States(h[1:], steps); len(got) != 0 {
		t.Error("of one that is no history:", got)
	}
}

func TestCheck(t *testing.T) { // 32.2
	five := []call{{put(1, 10), nothing, 0, 1}, {put(3, 30), nothing, 0, 2}, {put(5, 50), nothing, 0, 3}, {put(3, 31), found(30), 3, 20}, {del(5), found(50), 3, 21}, {put(7, 70), nothing, 3, 22}, {put(7, 71), full, 3, 23}}
	steps := effects(40, map[int]int{1: 0, 2: 1, 3: 2, 10: 3, 15: 4, 18: 5, 19: 6})
	// Up to 9 there are 1, 3, 5; from 10 on 3 has 31; from 15 on 5 is gone; from 18 on there is 7.
	for _, x := range []struct {
		o        api.Op
		from, to int
		pairs    []api.Pair
		key      uint64
		e        api.Errno
	}{
		{scan(0, 9, 9), 4, 9, []api.Pair{pair(1, 10), pair(3, 30), pair(5, 50)}, 0, api.OK},
		{scan(0, 9, 9), 4, 9, []api.Pair{pair(1, 10), pair(3, 31), pair(5, 50)}, 3, api.ErrState},
		{scan(0, 9, 9), 4, 10, []api.Pair{pair(1, 10), pair(3, 31), pair(5, 50)}, 0, api.OK},
		{scan(0, 9, 9), 4, 10, []api.Pair{pair(1, 10), pair(3, 30), pair(5, 50)}, 0, api.OK},
		{scan(0, 9, 9), 10, 12, []api.Pair{pair(1, 10), pair(3, 30), pair(5, 50)}, 3, api.ErrState},
		{scan(0, 9, 9), 9, 12, []api.Pair{pair(1, 10), pair(3, 30), pair(5, 50)}, 0, api.OK},
		{scan(0, 9, 9), 4, 30, []api.Pair{pair(1, 10), pair(3, 30)}, 0, api.OK},
		{scan(0, 9, 9), 4, 30, []api.Pair{pair(1, 10), pair(3, 30), pair(5, 50), pair(7, 70)}, 0, api.OK},
		{scan(0, 9, 9), 4, 30, []api.Pair{pair(1, 10), pair(7, 70)}, 3, api.ErrShort},
		{scan(0, 9, 9), 4, 30, []api.Pair{pair(7, 70)}, 1, api.ErrShort},
		{scan(0, 9, 9), 4, 30, nil, 1, api.ErrShort},
		{scan(2, 9, 9), 4, 30, nil, 3, api.ErrShort},
		{scan(0, 9, 1), 4, 30, []api.Pair{pair(1, 10)}, 0, api.OK},
		{scan(0, 9, 1), 4, 30, []api.Pair{pair(3, 30)}, 1, api.ErrShort},
		{scan(0, 9, 2), 4, 14, []api.Pair{pair(1, 10), pair(5, 50)}, 3, api.ErrShort},
		{scan(0, 9, 2), 4, 14, []api.Pair{pair(1, 10)}, 3, api.ErrShort},
		{scan(0, 4, 9), 4, 14, []api.Pair{pair(1, 10), pair(3, 30)}, 0, api.OK},
		{scan(4, 6, 9), 4, 14, nil, 5, api.ErrShort},
		{scan(5, 5, 9), 4, 14, nil, 5, api.ErrShort},
		{scan(5, 9, 9), 4, 14, nil, 5, api.ErrShort},
		{scan(4, 5, 9), 4, 14, nil, 5, api.ErrShort},
		{scan(4, 6, 9), 4, 15, nil, 0, api.OK},
		{scan(4, 6, 9), 16, 17, []api.Pair{pair(5, 50)}, 5, api.ErrState},
		{scan(7, 7, 9), 4, 17, []api.Pair{pair(7, 70)}, 7, api.ErrState},
		{scan(7, 7, 9), 19, 30, []api.Pair{pair(7, 71)}, 7, api.ErrState},
		{scan(7, 7, 9), 19, 30, []api.Pair{pair(7, 70)}, 0, api.OK},
		{scan(8, 6, 9), 4, 30, nil, 0, api.OK},
		{scan(8, 9, 9), 4, 30, []api.Pair{pair(8, 80)}, 8, api.ErrState},
		{scan(0, 9, 2), 4, 9, []api.Pair{pair(1, 10), pair(3, 30), pair(5, 50)}, 0, api.ErrFull},
		{scan(2, 9, 9), 4, 9, []api.Pair{pair(1, 10), pair(3, 30)}, 1, api.ErrRange},
		{scan(0, 4, 9), 4, 9, []api.Pair{pair(1, 10), pair(5, 50), pair(3, 30)}, 5, api.ErrRange},
		{scan(0, 4, 9), 4, 9, []api.Pair{pair(3, 30), pair(1, 10), pair(5, 50)}, 1, api.ErrOrder},
		{scan(0, 9, 9), 4, 9, []api.Pair{pair(1, 99), pair(3, 30), pair(3, 30)}, 3, api.ErrOrder},
		{scan(2, 4, 9), 4, 9, []api.Pair{pair(3, 30), pair(1, 10)}, 1, api.ErrRange},
		{scan(0, 9, 9), 4, 9, []api.Pair{pair(3, 99)}, 3, api.ErrState},
	} {
		h := of(append(slices.Clone(five), call{x.o, listed(x.pairs...), x.from, x.to})...)
		if key, e := scans.Check(h, steps, 8); key != x.key || e != x.e {
			t.Errorf("%v from %d to %d, of %v: %d, %d, not %d, %d", x.o, x.from, x.to, x.pairs, key, e, x.key, x.e)
		}
		id := 8
		if x.e == api.OK {
			id = 0
		}
		if got, e := scans.First(h, steps); got != id || e != x.e {
			t.Errorf("First: %d, %d", got, e)
		}
	}
}

func TestValuesThatChange(t *testing.T) { // 32.2: a key that had a value at all steps, if not the same one
	h := of(call{put(1, 10), nothing, 0, 1}, call{put(1, 11), found(10), 2, 6}, call{scan(0, 9, 9), listed(), 3, 9})
	if key, e := scans.Check(h, effects(20, map[int]int{1: 0, 5: 1}), 3); key != 1 || e != api.ErrShort {
		t.Error(key, e)
	}
	h = of(call{put(1, 10), nothing, 0, 1}, call{del(1), found(10), 2, 6}, call{put(1, 11), nothing, 2, 7}, call{scan(0, 9, 9), listed(), 3, 9})
	if key, e := scans.Check(h, effects(20, map[int]int{1: 0, 5: 1, 6: 2}), 4); key != 0 || e != api.OK {
		t.Error(key, e)
	}
}

func TestNone(t *testing.T) { // 32.2, 32.3
	h := of(call{put(1, 10), nothing, 0, 1}, call{scan(0, 9, 9), listed(), 0, 4}, call{scan(0, 9, 9), listed(), 0, -1})
	for _, id := range []int{0, 1, 3, 4, -1, math.MinInt, math.MaxInt} {
		if key, e := scans.Check(h, nil, id); key != 0 || e != api.ErrNone {
			t.Errorf("Check of %d: %d, %d", id, key, e)
		}
	}
	if key, e := scans.Check(h, nil, 2); key != 0 || e != api.OK {
		t.Error(key, e)
	}
	first := of(call{scan(0, 9, 9), listed(pair(3, 4)), 0, 4})
	if key, e := scans.Check(first, nil, 1); key != 3 || e != api.ErrState {
		t.Error(key, e)
	}
	if key, e := scans.Check(h[1:], nil, 2); key != 0 || e != api.ErrForm {
		t.Error(key, e)
	}
	if id, e := scans.First(h[1:], nil); id != 0 || e != api.ErrForm {
		t.Error(id, e)
	}
	if id, e := scans.First(nil, nil); id != 0 || e != api.OK {
		t.Error(id, e)
	}
}

func TestFirst(t *testing.T) { // 32.3
	h := of(call{scan(0, 9, 9), listed(), 0, 1}, call{scan(0, 9, 9), listed(pair(1, 2)), 0, -1}, call{scan(0, 9, 9), listed(pair(1, 2)), 0, 1}, call{scan(0, 9, 1), listed(pair(1, 2), pair(3, 4)), 0, 1})
	if id, e := scans.First(h, nil); id != 3 || e != api.ErrState {
		t.Error(id, e)
	}
}

func TestOfMachine(t *testing.T) { // what a machine's Scans tell is right
	m := machine.New(api.Config{Slots: 20, Threads: 3, Fan: 4, Limbo: 2, Patience: 9})
	r := uint64(88172645463325252)
	next := func(n uint64) uint64 {
		r ^= r << 13
		r ^= r >> 7
		r ^= r << 17
		return r >> 20 % n
	}
	for range 20000 {
		thread := int(next(3))
		if m.Queue(thread) == 0 {
			o := api.Op{Kind: 1 + int(next(4)), Key: next(30), Value: next(9), High: next(40), Most: 1 + int(next(12))}
			m.Do(api.Entry{Kind: api.Submit, Thread: thread, Op: o})
		}
		m.Do(api.Entry{Kind: api.Pick, Thread: thread})
	}
	if id, e := scans.First(m.History(), m.Steps()); id != 0 || e != api.OK {
		t.Error(id, e)
	}
}

func TestExamples(t *testing.T) {
	steps := effects(9, map[int]int{3: 0})
	for _, x := range []struct {
		from int
		key  uint64
		e    api.Errno
	}{{2, 0, api.OK}, {4, 1, api.ErrShort}} {
		h := of(call{put(1, 5), nothing, 0, 3}, call{scan(0, 9, 9), listed(), x.from, 6})
		if key, e := scans.Check(h, steps, 2); key != x.key || e != x.e {
			t.Error("an example:", key, e)
		}
	}
}
