package history_test

import (
	"math"
	"slices"
	"testing"

	"gleaning/api"
	"gleaning/history"
	"gleaning/model"
)

var (
	get  = api.Op{Kind: api.Get, Key: 5}
	put  = api.Op{Kind: api.Put, Key: 5, Value: 6}
	scan = api.Op{Kind: api.Scan, Key: 1, High: 9, Most: 3}

	nothing = api.Result{Kind: api.Nothing}
	listed  = api.Result{Kind: api.Listed, Pairs: []api.Pair{{Key: 5, Value: 6}}}
)

func invoke(id, thread, at int, o api.Op) api.Event {
	return api.Event{Kind: api.Invoke, Thread: thread, Id: id, At: at, Op: o}
}

func respond(id, thread, at int, o api.Op, r api.Result) api.Event {
	return api.Event{Kind: api.Respond, Thread: thread, Id: id, At: at, Op: o, Result: r}
}

// long is a history that may be.
func long() []api.Event {
	return []api.Event{invoke(1, 0, 0, put), invoke(2, 7, 3, get), respond(1, 0, 5, put, nothing), invoke(3, 0, 5, scan), respond(3, 0, 5, scan, listed), respond(2, 7, 8, get, nothing), invoke(4, 7, 9, get)}
}

func calls() []history.Call {
	return []history.Call{
		{Id: 1, Thread: 0, Op: put, From: 0, To: 5, Over: true, Result: nothing},
		{Id: 2, Thread: 7, Op: get, From: 3, To: 8, Over: true, Result: nothing},
		{Id: 3, Thread: 0, Op: scan, From: 5, To: 5, Over: true, Result: listed},
		{Id: 4, Thread: 7, Op: get, From: 9, To: -1},
	}
}

func same(a, b history.Call) bool {
	return a.Id == b.Id && a.Thread == b.Thread && a.Op == b.Op && a.From == b.From && a.To == b.To && a.Over == b.Over && model.Same(a.Result, b.Result)
}

func TestCalls(t *testing.T) { // 29.1
	h := long()
	if !history.Right(h) || !slices.EqualFunc(history.Calls(h), calls(), same) {
		t.Error(history.Calls(h))
	}
	all := history.All(h)
	h[0].Op, h[4].Result.Pairs[0].Key = get, 77
	for range 2 {
		var got []history.Call
		for id, c := range all {
			if id != c.Id {
				t.Error("a call with another Id")
			}
			got = append(got, c)
		}
		if want := calls(); !slices.EqualFunc(got[:2], want[:2], same) || len(got) != 4 {
			t.Error("All:", got)
		}
		got[2].Result.Pairs[0].Value = 77
	}
	for id := range all {
		if id != 1 {
			t.Error("it does not end")
		}
		break
	}
	if !history.Right(nil) || len(history.Calls(nil)) != 0 || len(history.Open(nil)) != 0 {
		t.Error("a history of nothing")
	}
}

func TestToldIsNew(t *testing.T) { // R3
	h := []api.Event{invoke(1, 0, 0, scan), respond(1, 0, 1, scan, api.Result{Kind: api.Listed, Pairs: []api.Pair{{Key: 5}}})}
	history.Calls(h)[0].Result.Pairs[0].Key = 77
	history.Cut(h, 9)[1].Result.Pairs[0].Key = 77
	all := history.All(h)
	for range 2 {
		for _, c := range all {
			if c.Result.Pairs[0].Key != 5 {
				t.Error("All is not new")
			}
			c.Result.Pairs[0].Key = 77
		}
	}
	if h[1].Result.Pairs[0].Key != 5 {
		t.Error("what was handed in is shared")
	}
}

func TestRight(t *testing.T) { // 29.1
	empty := invoke(1, 0, 0, get)
	empty.Result.Pairs = []api.Pair{}
	for i, h := range [][]api.Event{
		{invoke(1, 0, 0, get)}, {invoke(1, math.MaxInt, math.MaxInt, get)}, {empty}, {invoke(1, 0, 5, get), respond(1, 0, 5, get, api.Result{})}, {invoke(1, 0, 5, get), respond(1, 0, 9, get, api.Result{Kind: 99, Value: 5, Pairs: listed.Pairs}), invoke(2, 0, 9, get)},
	} {
		if !history.Right(h) || len(history.Calls(h)) == 0 {
			t.Errorf("%d may not be", i)
		}
	}
	with := func(change func(e *api.Event), events ...api.Event) []api.Event {
		change(&events[len(events)-1])
		return events
	}
	first, second := invoke(1, 0, 4, get), respond(1, 0, 6, get, nothing)
	for i, h := range [][]api.Event{
		with(func(e *api.Event) { e.At = -1 }, first), with(func(e *api.Event) { e.Id = 2 }, first), with(func(e *api.Event) { e.Id = 0 }, first), with(func(e *api.Event) { e.Thread = -1 }, first), with(func(e *api.Event) { e.Op = api.Op{} }, first), with(func(e *api.Event) { e.Op = api.Op{Kind: api.Scan} }, first),
		with(func(e *api.Event) { e.Result.Kind = 1 }, first), with(func(e *api.Event) { e.Result.Value = 1 }, first), with(func(e *api.Event) { e.Result.Pairs = listed.Pairs }, first), with(func(e *api.Event) { e.Kind = 0 }, first), with(func(e *api.Event) { e.Kind = 3 }, first),
		with(func(e *api.Event) { e.At = 3 }, first, second), with(func(e *api.Event) { e.Id = 2 }, first, second), with(func(e *api.Event) { e.Thread = 1 }, first, second), with(func(e *api.Event) { e.Op = put }, first, second), with(func(e *api.Event) { e.Op.Most = 7 }, first, second), with(func(e *api.Event) { e.Kind = 3 }, first, second), {second}, {first, second, second},
		{first, invoke(2, 0, 5, get)}, {first, invoke(1, 1, 5, get)}, {first, invoke(3, 1, 5, get)}, {first, second, invoke(1, 0, 7, get)}, {first, invoke(2, 1, 5, get), respond(2, 0, 6, get, nothing)}, {first, second, invoke(2, 0, 5, get)},
	} {
		if history.Right(h) || len(history.Calls(h)) != 0 || len(history.Open(h)) != 0 {
			t.Errorf("%d may be: %v", i, h)
		}
		for range history.All(h) {
			t.Errorf("%d has a call", i)
		}
	}
}

func TestBefore(t *testing.T) { // 29.2
	for _, x := range []struct {
		a, b history.Call
		want bool
	}{
		{history.Call{Over: true, To: 5}, history.Call{From: 6}, true}, {history.Call{Over: true, To: 5}, history.Call{From: 5}, false}, {history.Call{Over: true, To: 5}, history.Call{From: 4}, false}, {history.Call{To: -1}, history.Call{From: 6}, false}, {history.Call{To: 5}, history.Call{From: 6}, false},
		{history.Call{Over: true, From: 9, To: 5}, history.Call{From: 6, To: -1}, true},
	} {
		if history.Before(x.a, x.b) != x.want {
			t.Errorf("Before(%v, %v) = %v", x.a, x.b, !x.want)
		}
	}
}

func sameEvent(x, y api.Event) bool {
	return x.Kind == y.Kind && x.Thread == y.Thread && x.Id == y.Id && x.At == y.At && x.Op == y.Op && model.Same(x.Result, y.Result)
}

func TestCut(t *testing.T) { // 29.2, 29.3
	h := long()
	for at, many := range map[int]int{0: 0, 1: 1, 3: 1, 4: 2, 5: 2, 6: 5, 8: 5, 9: 6, 10: 7, math.MaxInt: 7, -1: 0, math.MinInt: 0} {
		got := history.Cut(h, at)
		if !slices.EqualFunc(got, h[:many], sameEvent) || !history.Right(got) {
			t.Errorf("Cut at %d: %v", at, got)
		}
		for i, c := range history.Calls(got) {
			want := calls()[i]
			if !want.Over || want.To >= at {
				want.Over, want.To, want.Result = false, -1, api.Result{}
			}
			if !same(c, want) {
				t.Errorf("behind a cut at %d: %v", at, c)
			}
		}
	}
	odd := []api.Event{{At: 5}, {At: 3, Id: 9}, {At: 4}, {At: -7}}
	if got := history.Cut(odd, 4); !slices.EqualFunc(got, []api.Event{odd[1], odd[3]}, sameEvent) {
		t.Error("of one that may not be:", got)
	}
}

func TestOpen(t *testing.T) { // 29.2
	if got := history.Open(long()); !slices.Equal(got, []int{4}) {
		t.Error(got)
	}
	if got := history.Open(long()[:4]); !slices.Equal(got, []int{2, 3}) {
		t.Error(got)
	}
}

func TestExamples(t *testing.T) {
	h := []api.Event{invoke(1, 0, 0, put), invoke(2, 1, 3, get), respond(1, 0, 5, put, nothing)}
	c := history.Calls(h)
	if len(c) != 2 || !slices.Equal(history.Open(h), []int{2}) || history.Before(c[0], c[1]) || history.Before(c[1], c[0]) {
		t.Error("an example")
	}
}
