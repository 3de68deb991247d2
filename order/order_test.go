package order_test

import (
	"math"
	"slices"
	"testing"

	"gleaning/api"
	"gleaning/order"
)

func get(k uint64) api.Op    { return api.Op{Kind: api.Get, Key: k} }
func put(k, v uint64) api.Op { return api.Op{Kind: api.Put, Key: k, Value: v} }
func del(k uint64) api.Op    { return api.Op{Kind: api.Delete, Key: k} }

var (
	scan    = api.Op{Kind: api.Scan, High: 9, Most: 9}
	nothing = api.Result{Kind: api.Nothing}
	full    = api.Result{Kind: api.Full}
)

func found(v uint64) api.Result { return api.Result{Kind: api.Found, Value: v} }

// call is a call of a history: from a step, to another one (-1: it is not over).
type call struct {
	o        api.Op
	r        api.Result
	from, to int
}

// of is the history of calls, each of a thread of its own; they are in the order in which they begin.
func of(calls ...call) []api.Event {
	var h []api.Event
	for i, c := range calls {
		h = append(h, api.Event{Kind: api.Invoke, Thread: i, Id: i + 1, At: c.from, Op: c.o})
		if c.to >= 0 {
			h = append(h, api.Event{Kind: api.Respond, Thread: i, Id: i + 1, At: c.to, Op: c.o, Result: c.r})
		}
	}
	slices.SortStableFunc(h, func(a, b api.Event) int { return a.At - b.At })
	return h
}

func TestCheck(t *testing.T) { // 30.1
	one := of(call{put(1, 5), nothing, 0, 9}, call{get(1), nothing, 0, 9}, call{scan, nothing, 1, 9}, call{put(1, 6), api.Result{}, 2, -1}, call{get(1), found(5), 12, 15}, call{scan, nothing, 16, -1})
	for _, x := range []struct {
		h     []api.Event
		order []int
		at    int
		e     api.Errno
	}{
		{one, []int{2, 1, 5}, 0, api.OK}, {one, []int{2, 1, 5, 4}, 0, api.OK}, {one, []int{4, 2, 1, 5}, 1, api.ErrState}, {one, []int{2, 4, 1, 5}, 2, api.ErrState}, {one, []int{2, 1, 4, 5}, 3, api.ErrState}, {one, []int{1, 2, 5}, 1, api.ErrState},
		{one, nil, 1, api.ErrShort}, {one, []int{1}, 2, api.ErrShort}, {one, []int{2, 1}, 5, api.ErrShort}, {one, []int{5, 1}, 2, api.ErrShort}, {one, []int{4}, 1, api.ErrShort},
		{one, []int{2, 3, 1, 5}, 1, api.ErrNone}, {one, []int{6}, 0, api.ErrNone}, {one, []int{2, 1, 5, 7}, 3, api.ErrNone}, {one, []int{0, 2}, 0, api.ErrNone}, {one, []int{-1}, 0, api.ErrNone}, {one, []int{math.MaxInt}, 0, api.ErrNone}, {one, []int{3, 3}, 0, api.ErrNone},
		{one, []int{2, 1, 2}, 2, api.ErrTwice}, {one, []int{2, 2, 9}, 1, api.ErrTwice}, {one, []int{2, 9, 2}, 1, api.ErrNone}, {one, []int{4, 4}, 1, api.ErrTwice},
		{one, []int{5, 2, 1}, 1, api.ErrOrder}, {one, []int{2, 5, 1}, 2, api.ErrOrder}, {one, []int{1, 5, 2}, 2, api.ErrOrder}, {one, []int{4, 5, 1, 2}, 2, api.ErrOrder},
		{nil, nil, 0, api.OK}, {nil, []int{1}, 0, api.ErrNone}, {one[1:], []int{1}, 0, api.ErrForm}, {append(slices.Clone(one), one[0]), []int{2, 1, 5}, 0, api.ErrForm}, {of(call{scan, nothing, 0, 5}), nil, 0, api.OK},
	} {
		given := slices.Clone(x.order)
		if at, e := order.Check(x.h, x.order); at != x.at || e != x.e {
			t.Errorf("Check(%v) = %d, %d, not %d, %d", x.order, at, e, x.at, x.e)
		}
		if !slices.Equal(given, x.order) {
			t.Error("what was handed in is changed")
		}
	}
}

func TestTime(t *testing.T) { // 30.1: of those ahead, the one that began last counts
	h := of(call{get(1), nothing, 0, 3}, call{get(1), nothing, 2, 5}, call{get(1), nothing, 4, 7}, call{get(1), nothing, 6, 9}, call{get(1), nothing, 6, -1})
	for _, x := range []struct {
		order []int
		at    int
		e     api.Errno
	}{
		{[]int{1, 2, 3, 4}, 0, api.OK}, {[]int{2, 1, 3, 4}, 0, api.OK}, {[]int{2, 1, 4, 3}, 0, api.OK}, {[]int{1, 3, 2, 4, 5}, 0, api.OK}, {[]int{3, 2, 1, 4}, 2, api.ErrOrder}, {[]int{4, 3, 2, 1}, 2, api.ErrOrder}, {[]int{3, 2, 4, 1}, 3, api.ErrOrder}, {[]int{5, 1, 2, 3, 4}, 1, api.ErrOrder}, {[]int{1, 2, 5, 4, 3}, 0, api.OK}, {[]int{1, 5, 2, 4, 3}, 2, api.ErrOrder},
	} {
		if at, e := order.Check(h, x.order); at != x.at || e != x.e {
			t.Errorf("Check(%v) = %d, %d, not %d, %d", x.order, at, e, x.at, x.e)
		}
	}
	touch := of(call{put(1, 5), nothing, 0, 3}, call{get(1), nothing, 3, 5})
	if at, e := order.Check(touch, []int{2, 1}); at != 0 || e != api.OK {
		t.Error("to the step from which another one is, neither is before:", at, e)
	}
}

func TestFull(t *testing.T) { // 30.1, 30.2
	h := of(call{put(1, 5), full, 0, 3}, call{get(1), nothing, 4, 5}, call{put(1, 6), nothing, 6, 7}, call{put(1, 7), full, 8, 9}, call{get(1), found(6), 10, 11})
	if at, e := order.Check(h, []int{1, 2, 3, 4, 5}); at != 0 || e != api.OK {
		t.Error("a Put that is Full does something:", at, e)
	}
	if got := order.After(h, []int{1, 3, 4}); !slices.Equal(got, []api.Pair{{Key: 1, Value: 6}}) {
		t.Error(got)
	}
	for _, r := range []api.Result{{Kind: api.Full, Value: 1}, {Kind: api.Full, Pairs: []api.Pair{{}}}} {
		if at, e := order.Check(of(call{put(1, 5), r, 0, 3}), []int{1}); at != 0 || e != api.ErrState {
			t.Error("more than the kind alone:", at, e)
		}
	}
	for _, o := range []api.Op{get(1), del(1)} {
		if at, e := order.Check(of(call{o, full, 0, 3}), []int{1}); at != 0 || e != api.ErrState {
			t.Error("who is no Put is Full:", at, e)
		}
	}
}

func TestAfter(t *testing.T) { // 30.2
	h := of(call{put(3, 30), nothing, 0, 9}, call{put(1, 10), api.Result{}, 0, -1}, call{del(3), found(30), 1, 9}, call{scan, nothing, 1, 9}, call{put(3, 31), found(99), 2, 9})
	for _, x := range []struct {
		order []int
		want  []api.Pair
	}{
		{nil, nil}, {[]int{1, 2}, []api.Pair{{Key: 1, Value: 10}, {Key: 3, Value: 30}}}, {[]int{1, 3}, nil}, {[]int{3, 1}, []api.Pair{{Key: 3, Value: 30}}}, {[]int{1, 5, 9, 0, -1, 4}, []api.Pair{{Key: 3, Value: 31}}}, {[]int{1, 3, 1}, []api.Pair{{Key: 3, Value: 30}}},
	} {
		if got := order.After(h, x.order); !slices.Equal(got, x.want) {
			t.Errorf("After(%v) = %v", x.order, got)
		}
	}
	if len(order.After(h[1:], []int{1})) != 0 {
		t.Error("behind one that is no history")
	}
}

// step is one of a thread, with such marks.
func step(thread int, kinds ...int) api.Step {
	s := api.Step{Thread: thread}
	for _, k := range kinds {
		s.Marks = append(s.Marks, api.Mark{Kind: k})
	}
	return s
}

func TestEffects(t *testing.T) { // 30.3
	effect := api.MarkEffect
	h := []api.Event{
		{Kind: api.Invoke, Thread: 0, Id: 1, At: 1, Op: get(1)}, {Kind: api.Invoke, Thread: 3, Id: 2, At: 2, Op: get(1)}, {Kind: api.Respond, Thread: 0, Id: 1, At: 3, Op: get(1)},
		{Kind: api.Invoke, Thread: 0, Id: 3, At: 3, Op: scan}, {Kind: api.Respond, Thread: 0, Id: 3, At: 5, Op: scan},
		{Kind: api.Invoke, Thread: 0, Id: 4, At: 5, Op: get(1)}, {Kind: api.Invoke, Thread: 5, Id: 5, At: 5, Op: get(1)}, {Kind: api.Respond, Thread: 5, Id: 5, At: 7, Op: get(1)},
	}
	for _, x := range []struct {
		steps []api.Step
		want  []int
	}{
		{nil, nil},
		{[]api.Step{step(0, effect), step(0, effect), step(0, effect), step(0, effect), step(0, effect), step(0, effect), step(0, effect), step(0, effect), step(0, effect)}, []int{1, 1, 1, 3, 3, 4, 4, 4}},
		{[]api.Step{step(3, effect), step(3, effect), step(3, effect), step(3), step(3, effect), step(9, effect), step(-1, effect)}, []int{2, 2}},
		{[]api.Step{step(0), step(0, api.MarkCheck, effect, effect, api.MarkFree), step(3, api.MarkAgain), step(0, effect), step(0, effect, api.MarkAgain)}, []int{1, 1, 3}},
		{[]api.Step{step(0, effect), step(1, effect)}, nil},
		{[]api.Step{step(5), step(5), step(5), step(5), step(5, effect), step(5, effect), step(5, effect), step(5, effect), step(5, effect)}, []int{5, 5, 5}},
	} {
		if got := order.Effects(h, x.steps); !slices.Equal(got, x.want) {
			t.Errorf("%v: %v, not %v", x.steps, got, x.want)
		}
	}
	if len(order.Effects(h[1:], []api.Step{step(3), step(3), step(3, effect)})) != 0 {
		t.Error("of one that is no history")
	}
}

func TestWhy(t *testing.T) { // 30.4
	words := map[api.Errno]string{api.ErrForm: "not a history", api.ErrNone: "no such call", api.ErrTwice: "a call twice", api.ErrShort: "a call lacks", api.ErrOrder: "against time", api.ErrState: "another result"}
	for e := api.Errno(-3); e < 20; e++ {
		if got := order.Why(e); got != words[e] {
			t.Errorf("Why(%d) = %q", e, got)
		}
	}
}

func TestExamples(t *testing.T) {
	h := of(call{put(1, 5), nothing, 0, 9}, call{get(1), nothing, 0, 9})
	if at, e := order.Check(h, []int{1, 2}); at != 1 || e != api.ErrState {
		t.Error("an example:", at, e)
	}
	if at, e := order.Check(h, []int{2, 1}); at != 0 || e != api.OK {
		t.Error("an example:", at, e)
	}
}
