package model_test

import (
	"maps"
	"math"
	"slices"
	"testing"

	"gleaning/api"
	"gleaning/model"
)

func get(k uint64) api.Op    { return api.Op{Kind: api.Get, Key: k} }
func put(k, v uint64) api.Op { return api.Op{Kind: api.Put, Key: k, Value: v} }
func del(k uint64) api.Op    { return api.Op{Kind: api.Delete, Key: k} }
func scan(k, h uint64, most int) api.Op {
	return api.Op{Kind: api.Scan, Key: k, High: h, Most: most}
}
func pair(k, v uint64) api.Pair       { return api.Pair{Key: k, Value: v} }
func found(v uint64) api.Result       { return api.Result{Kind: api.Found, Value: v} }
func listed(l ...api.Pair) api.Result { return api.Result{Kind: api.Listed, Pairs: l} }

var nothing = api.Result{Kind: api.Nothing}

func TestRight(t *testing.T) { // 21.2
	for _, x := range []struct {
		o    api.Op
		want bool
	}{
		{get(5), true}, {put(0, 0), true}, {del(math.MaxUint64), true}, {scan(5, 3, 1), true}, {scan(0, 9, 1000), true}, {scan(0, 9, 1001), false}, {scan(0, 9, 0), false}, {scan(0, 9, -1), false}, {scan(0, 9, math.MaxInt), false}, {scan(0, 9, math.MinInt), false},
		{api.Op{}, false}, {api.Op{Kind: 5}, false}, {api.Op{Kind: -1}, false}, {api.Op{Kind: api.Get, Value: 5, High: 6, Most: -7}, true}, {api.Op{Kind: api.Put, High: 6, Most: 5000}, true}, {api.Op{Kind: api.Delete, Value: 5, Most: -1}, true}, {api.Op{Kind: api.Scan, Value: 5, Most: 4}, true},
	} {
		if model.Right(x.o) != x.want {
			t.Errorf("Right(%v) = %v", x.o, !x.want)
		}
		if got := model.New(pair(1, 1)).Do(x.o); !x.want && !model.Same(got, api.Result{}) {
			t.Errorf("%v told %v", x.o, got)
		}
	}
}

func TestDo(t *testing.T) { // 21.1
	m := model.New()
	for i, x := range []struct {
		o    api.Op
		want api.Result
	}{
		{get(3), nothing}, {del(3), nothing}, {scan(0, math.MaxUint64, 9), listed()}, {put(3, 30), nothing}, {get(3), found(30)}, {put(3, 31), found(30)}, {get(3), found(31)}, {get(2), nothing}, {get(4), nothing},
		{put(math.MaxUint64, 9), nothing}, {put(0, 0), nothing}, {put(0, 1), found(0)}, {put(5, 50), nothing},
		{scan(0, math.MaxUint64, 9), listed(pair(0, 1), pair(3, 31), pair(5, 50), pair(math.MaxUint64, 9))}, {scan(0, 9, 2), listed(pair(0, 1), pair(3, 31))}, {scan(1, 4, 9), listed(pair(3, 31))}, {scan(3, 3, 9), listed(pair(3, 31))}, {scan(3, 5, 9), listed(pair(3, 31), pair(5, 50))},
		{scan(4, 4, 9), listed()}, {scan(5, 3, 9), listed()}, {scan(6, math.MaxUint64, 1), listed(pair(math.MaxUint64, 9))},
		{del(3), found(31)}, {del(3), nothing}, {get(3), nothing}, {api.Op{Kind: 9, Key: 5}, api.Result{}}, {scan(0, 9, 0), api.Result{}},
		{api.Op{Kind: api.Get, Key: 5, Value: 7, High: 8, Most: 9}, found(50)}, {api.Op{Kind: api.Put, Key: 5, Value: 51, High: 8, Most: 9}, found(50)}, {api.Op{Kind: api.Scan, Key: 5, Value: 8, High: 5, Most: 1}, listed(pair(5, 51))}, {api.Op{Kind: api.Delete, Key: 5, Value: 7, High: 8, Most: 9}, found(51)},
	} {
		if got := m.Do(x.o); !model.Same(got, x.want) {
			t.Errorf("%d: %v told %v, not %v", i, x.o, got, x.want)
		}
	}
	if got := m.Pairs(); !slices.Equal(got, []api.Pair{pair(0, 1), pair(math.MaxUint64, 9)}) || m.Len() != 2 {
		t.Error("it is left with", got)
	}
}

func TestAgainstMap(t *testing.T) { // 21.1, 21.3
	m, plain := model.New(), map[uint64]uint64{}
	r := uint64(88172645463325252)
	for i := range 4000 {
		r ^= r << 13
		r ^= r >> 7
		r ^= r << 17
		key, value := r>>20%30, r>>40%5
		o := []api.Op{get(key), put(key, value), put(key, value), del(key)}[r>>50%4]
		old, there := plain[key]
		want := nothing
		if there {
			want = found(old)
		}
		switch o.Kind {
		case api.Put:
			plain[key] = value
		case api.Delete:
			delete(plain, key)
		}
		if got := m.Do(o); !model.Same(got, want) {
			t.Fatalf("%d: %v told %v, not %v", i, o, got, want)
		}
		var all []api.Pair
		for _, k := range slices.Sorted(maps.Keys(plain)) {
			all = append(all, pair(k, plain[k]))
		}
		if !slices.Equal(m.Pairs(), all) || m.Len() != len(all) {
			t.Fatalf("%d: the pairs are %v", i, m.Pairs())
		}
		if got := m.Do(scan(0, math.MaxUint64, max(1, len(all)))); !model.Same(got, listed(all...)) {
			t.Fatalf("%d: a Scan of all tells %v", i, got)
		}
		if v, ok := m.Get(key); ok != (plain[key] != 0 || len(all) > 0 && slices.ContainsFunc(all, func(p api.Pair) bool { return p.Key == key })) || v != plain[key] {
			t.Fatalf("%d: Get tells %d, %v", i, v, ok)
		}
	}
}

func TestNew(t *testing.T) { // 21.1
	given := []api.Pair{pair(5, 1), pair(3, 2), pair(5, 3)}
	m := model.New(given...)
	given[0] = pair(9, 9)
	if got := m.Pairs(); !slices.Equal(got, []api.Pair{pair(3, 2), pair(5, 3)}) {
		t.Error(got)
	}
	m.Pairs()[0] = pair(77, 77)
	r := m.Do(scan(0, 9, 9))
	r.Pairs[0] = pair(77, 77)
	if v, ok := m.Get(3); v != 2 || !ok || m.Len() != 2 || model.New().Len() != 0 {
		t.Error("what is answered shares the map")
	}
}

func TestCopy(t *testing.T) { // 21.2
	m := model.New(pair(3, 30))
	c := m.Copy()
	c.Do(put(4, 40))
	m.Do(put(3, 31))
	m.Do(put(2, 20))
	if !slices.Equal(c.Pairs(), []api.Pair{pair(3, 30), pair(4, 40)}) || !slices.Equal(m.Pairs(), []api.Pair{pair(2, 20), pair(3, 31)}) {
		t.Error("a copy shares its pairs:", c.Pairs(), m.Pairs())
	}
}

func TestFrom(t *testing.T) { // 21.2
	m := model.New(pair(3, 30), pair(5, 50), pair(7, 70))
	from := m.From(4)
	m.Do(put(5, 51))
	m.Do(put(6, 60))
	m.Do(del(7))
	for range 2 {
		if got := slices.Collect(from); !slices.Equal(got, []api.Pair{pair(5, 50), pair(7, 70)}) {
			t.Error("From is not as it was when it was called:", got)
		}
	}
	for p := range m.From(0) {
		if p != pair(3, 30) {
			t.Error("the first one is", p)
		}
		break
	}
	if len(slices.Collect(m.From(7))) != 0 || len(slices.Collect(m.From(6))) != 1 {
		t.Error("From the end")
	}
	for p := range m.From(0) {
		m.Do(del(p.Key)) // who goes through them may turn the map
	}
	if m.Len() != 0 {
		t.Error("it is left with", m.Pairs())
	}
}

func TestSame(t *testing.T) { // 21.2
	all := []api.Result{{}, nothing, found(0), found(1), {Kind: api.Full}, listed(), listed(pair(1, 2)), listed(pair(1, 3)), listed(pair(2, 2)), listed(pair(1, 2), pair(2, 2)), {Kind: api.Listed, Value: 1}}
	for i, a := range all {
		for j, b := range all {
			if model.Same(a, b) != (i == j) {
				t.Errorf("Same(%v, %v) = %v", a, b, i != j)
			}
		}
	}
	if !model.Same(listed(), api.Result{Kind: api.Listed, Pairs: []api.Pair{}}) {
		t.Error("nil and empty are unlike")
	}
}

func TestAll(t *testing.T) { // 21.2
	got := model.All(put(3, 30), get(3), api.Op{}, del(3), get(3))
	want := []api.Result{nothing, found(30), {}, found(30), nothing}
	if !slices.EqualFunc(got, want, model.Same) || len(model.All()) != 0 {
		t.Error(got)
	}
}

func TestNobodyMade(t *testing.T) {
	var m *model.Map
	v, ok := m.Get(0)
	if !model.Same(m.Do(put(1, 2)), api.Result{}) || v != 0 || ok || len(m.Pairs()) != 0 || m.Len() != 0 || m.Copy() != nil || len(slices.Collect(m.From(0))) != 0 {
		t.Error("a nil map has something")
	}
	m = &model.Map{}
	if m.Len() != 0 || m.Copy() == nil || !model.Same(m.Do(put(1, 2)), nothing) || !model.Same(m.Do(get(1)), found(2)) {
		t.Error("one that nobody made is no empty one")
	}
}

func TestExamples(t *testing.T) {
	m := model.New()
	if !model.Same(m.Do(put(3, 30)), nothing) || !model.Same(m.Do(put(3, 31)), found(30)) || !model.Same(m.Do(scan(0, 9, 5)), listed(pair(3, 31))) || !model.Same(m.Do(del(3)), found(31)) {
		t.Error("an example")
	}
}
