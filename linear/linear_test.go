package linear_test

import (
	"math"
	"slices"
	"testing"

	"gleaning/api"
	"gleaning/history"
	"gleaning/linear"
	"gleaning/order"
)

func get(k uint64) api.Op    { return api.Op{Kind: api.Get, Key: k} }
func put(k, v uint64) api.Op { return api.Op{Kind: api.Put, Key: k, Value: v} }
func del(k uint64) api.Op    { return api.Op{Kind: api.Delete, Key: k} }

var (
	scan    = api.Op{Kind: api.Scan, Key: 99, High: 9, Most: 9}
	nothing = api.Result{Kind: api.Nothing}
	full    = api.Result{Kind: api.Full}
)

func found(v uint64) api.Result { return api.Result{Kind: api.Found, Value: v} }

// call is a call of a history: from a step, to another one (-1: it is not over).
type call struct {
	o        api.Op
	r        api.Result
	from, to int
}

// of is the history of calls, each of a thread of its own; they are in the order in which they begin.
func of(calls ...call) []api.Event {
	var h []api.Event
	for i, c := range calls {
		h = append(h, api.Event{Kind: api.Invoke, Thread: i, Id: i + 1, At: c.from, Op: c.o})
		if c.to >= 0 {
			h = append(h, api.Event{Kind: api.Respond, Thread: i, Id: i + 1, At: c.to, Op: c.o, Result: c.r})
		}
	}
	slices.SortStableFunc(h, func(a, b api.Event) int { return a.At - b.At })
	return h
}

// many are so many calls that are alike, at one time.
func many(n int, c call) []call {
	return slices.Repeat([]call{c}, n)
}

func TestKeys(t *testing.T) { // 31.1
	h := of(call{put(5, 1), nothing, 0, 9}, call{get(math.MaxUint64), nothing, 0, -1}, call{scan, nothing, 0, 9}, call{del(0), nothing, 1, 9}, call{get(5), nothing, 2, 9})
	if got := linear.Keys(h); !slices.Equal(got, []uint64{0, 5, math.MaxUint64}) {
		t.Error(got)
	}
	if len(linear.Keys(nil)) != 0 || len(linear.Keys(h[1:])) != 0 {
		t.Error("keys of nothing")
	}
}

func TestErrors(t *testing.T) { // 31.2
	open := call{get(1), nothing, 0, -1}
	six := []call{{get(1), nothing, 0, 9}, {get(2), nothing, 0, 9}, {get(3), nothing, 0, 9}, {get(4), nothing, 0, 9}, {get(5), nothing, 0, 9}, {get(6), nothing, 0, 9}}
	for _, x := range []struct {
		h []api.Event
		e api.Errno
	}{
		{of(open)[:0], api.OK}, {[]api.Event{{Kind: api.Respond}}, api.ErrForm}, {of(many(12, open)...), api.OK}, {of(many(13, open)...), api.ErrBound}, {of(append(many(12, open), call{scan, nothing, 0, 5})...), api.OK},
		{of(six...), api.OK}, {of(append(six, call{get(7), nothing, 0, -1})...), api.ErrBound}, {of(append(six, call{scan, nothing, 0, -1})...), api.OK}, {of(append(six, six...)...), api.OK}, {of(append(six, call{get(6), found(1), 0, 9})...), api.ErrNone},
		{append(of(many(13, open)...), api.Event{}), api.ErrForm}, {of(append(many(13, open), call{get(1), found(5), 0, 9})...), api.ErrBound},
		{of(call{get(1), found(5), 0, 9}), api.ErrNone}, {of(call{get(1), full, 0, 9}), api.ErrNone}, {of(call{del(1), full, 0, 9}), api.ErrNone}, {of(call{put(1, 5), nothing, 5, 9}, call{get(1), found(5), 0, 3}), api.ErrForm},
		{of(call{get(1), found(5), 0, 3}, call{put(1, 5), nothing, 5, 9}), api.ErrNone}, {of(call{get(1), found(5), 0, 5}, call{put(1, 5), nothing, 5, 9}), api.OK},
	} {
		got, e := linear.Find(x.h)
		if e != x.e || e != api.OK && len(got) != 0 || linear.Any(x.h) != (e == api.OK) {
			t.Errorf("Find = %v, %d, not %d", got, e, x.e)
		}
	}
}

func TestFind(t *testing.T) { // 31.2
	for _, x := range []struct {
		h    []api.Event
		want []int
	}{
		{nil, nil}, {of(call{get(1), nothing, 0, -1}), nil}, {of(call{scan, nothing, 0, 5}), nil},
		{of(call{put(1, 5), nothing, 0, -1}, call{get(1), found(5), 1, 9}), []int{1, 2}},
		{of(call{put(1, 5), nothing, 0, -1}, call{get(1), nothing, 1, 9}), []int{2}},
		{of(call{put(2, 5), nothing, 0, -1}, call{get(1), nothing, 1, 9}), []int{1, 2}}, // the first one of those that are enough
		{of(call{get(1), nothing, 1, 9}, call{put(2, 5), nothing, 2, -1}), []int{1}},
		{of(call{put(1, 5), full, 0, 9}, call{get(1), nothing, 0, 9}), []int{1, 2}},
		{of(call{put(1, 5), api.Result{Kind: api.Full, Value: 1}, 0, 9}), nil},
		{of(call{put(1, 5), nothing, 0, 9}, call{put(1, 6), nothing, 0, 9}, call{del(1), found(6), 0, 9}), []int{2, 3, 1}},
		{of(call{put(1, 5), found(6), 0, 9}, call{put(1, 6), found(5), 0, -1}, call{put(1, 5), nothing, 0, -1}, call{put(1, 5), nothing, 0, -1}), []int{2, 1}},
	} {
		got, e := linear.Find(x.h)
		if !slices.Equal(got, x.want) || (e == api.ErrNone) != (len(x.want) == 0 && hasOver(x.h)) {
			t.Errorf("Find = %v, %d, not %v", got, e, x.want)
		}
	}
}

// hasOver tells whether a call is over that is no Scan.
func hasOver(h []api.Event) bool {
	for _, c := range history.All(h) {
		if c.Over && c.Op.Kind != api.Scan {
			return true
		}
	}
	return false
}

// byAll finds the first list of Ids, of all that there are, that is enough, and none of whose beginnings is.
func byAll(h []api.Event) ([]int, bool) {
	var ids []int
	for id, c := range history.All(h) {
		if c.Op.Kind != api.Scan {
			ids = append(ids, id)
		}
	}
	var grow func(list []int) ([]int, bool)
	grow = func(list []int) ([]int, bool) {
		switch _, e := order.Check(h, list); e {
		case api.OK:
			return list, true
		case api.ErrShort:
		default:
			return nil, false
		}
		for _, id := range ids {
			if !slices.Contains(list, id) {
				if got, ok := grow(append(slices.Clone(list), id)); ok {
					return got, true
				}
			}
		}
		return nil, false
	}
	return grow(nil)
}

func TestAgainstAll(t *testing.T) { // 31.2, 31.3
	r := uint64(88172645463325252)
	next := func(n uint64) int {
		r ^= r << 13
		r ^= r >> 7
		r ^= r << 17
		return int(r >> 20 % n)
	}
	ok := 0
	for range 3000 {
		var calls []call
		from := 0
		for range 1 + next(5) {
			from += next(3)
			c := call{[]api.Op{get(uint64(next(2))), put(uint64(next(2)), uint64(next(2))), del(uint64(next(2))), scan}[next(8)%4], []api.Result{nothing, nothing, found(uint64(next(2)))}[next(3)], from, from + next(5)}
			if next(4) == 0 {
				c.to = -1
			}
			if next(9) == 0 && c.o.Kind == api.Put {
				c.r = full
			}
			calls = append(calls, c)
		}
		h := of(calls...)
		want, there := byAll(h)
		got, e := linear.Find(h)
		if there != (e == api.OK) || !slices.Equal(got, want) {
			t.Fatalf("of %v it is %v, %d, not %v", calls, got, e, want)
		}
		if there {
			ok++
		}
	}
	if ok < 300 {
		t.Error("only", ok, "have an order")
	}
}

func TestGreatest(t *testing.T) { // it ends soon, too, where there are many orders
	var calls []call
	for i := range uint64(12) {
		calls = append(calls, call{put(i%6, i), nothing, 0, -1})
	}
	calls[11] = call{get(5), found(77), 0, 9}
	if got, e := linear.Find(of(calls...)); e != api.ErrNone || len(got) != 0 {
		t.Error(got, e)
	}
	same := many(11, call{put(1, 5), nothing, 0, -1})
	if _, e := linear.Find(of(append(same, call{get(1), found(6), 0, 9})...)); e != api.ErrNone {
		t.Error(e)
	}
}

func TestExamples(t *testing.T) {
	got, e := linear.Find(of(call{put(1, 5), nothing, 0, 9}, call{get(1), found(5), 0, 9}))
	if !slices.Equal(got, []int{1, 2}) || e != api.OK {
		t.Error("an example:", got, e)
	}
	if got, e = linear.Find(of(call{get(1), found(5), 0, 9})); len(got) != 0 || e != api.ErrNone {
		t.Error("an example:", got, e)
	}
}
