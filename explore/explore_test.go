package explore_test

import (
	"math"
	"slices"
	"testing"

	"gleaning/api"
	"gleaning/bound"
	"gleaning/explore"
	"gleaning/machine"
	"gleaning/model"
	"gleaning/shape"
)

func get(k uint64) api.Op    { return api.Op{Kind: api.Get, Key: k} }
func put(k, v uint64) api.Op { return api.Op{Kind: api.Put, Key: k, Value: v} }
func del(k uint64) api.Op    { return api.Op{Kind: api.Delete, Key: k} }
func scan(k, h uint64, most int) api.Op {
	return api.Op{Kind: api.Scan, Key: k, High: h, Most: most}
}

var conf = api.Config{Slots: 12, Threads: 2, Fan: 4, Limbo: 2, Patience: 3}

// puts are Puts of these keys, with ten times each as its value.
func puts(keys ...uint64) []api.Op {
	var out []api.Op
	for _, k := range keys {
		out = append(out, put(k, 10*k))
	}
	return out
}

func sameStep(a, b api.Step) bool {
	return a.Thread == b.Thread && a.Ask == b.Ask && a.Got == b.Got && slices.Equal(a.Marks, b.Marks)
}

func TestRun(t *testing.T) { // 37.1
	for _, x := range [][2]int{{0, 0}, {3, 0}, {0, 4}, {5, 7}, {-1, -9}, {99, 99}, {math.MinInt, 2}, {14, 1}, {8, 99}} {
		m, o := explore.Run(conf, puts(2), put(1, 5), get(2), x[0], x[1])
		want := machine.New(conf)
		pick := func(thread int) bool { return want.Do(api.Entry{Kind: api.Pick, Thread: thread}) }
		want.Do(api.Entry{Kind: api.Submit, Op: put(2, 20)})
		for pick(0) {
		}
		want.All(api.Entry{Kind: api.Submit, Op: put(1, 5)}, api.Entry{Kind: api.Submit, Thread: 1, Op: get(2)})
		for range max(0, x[0]) {
			pick(0)
		}
		for range max(0, x[1]) {
			pick(1)
		}
		for i := 0; !bound.Calm(want); i++ {
			pick(i % 2)
		}
		if got := m.Steps(); !slices.EqualFunc(got, want.Steps(), sameStep) {
			t.Errorf("%v: the steps are %v, not %v", x, got, want.Steps())
		}
		if o != (explore.Outcome{AKind: api.Nothing, BKind: api.Found, BValue: 20, Left: 2}) || !bound.Calm(m) {
			t.Errorf("%v: %+v", x, o)
		}
	}
}

func TestFirst(t *testing.T) { // 37.1
	first := []api.Op{put(1, 10), {}, put(2, 20), {Kind: 9}, scan(0, 9, 0), put(3, 30)}
	m, o := explore.Run(conf, first, del(2), put(3, 31), 2, 2)
	if o != (explore.Outcome{AKind: api.Found, AValue: 20, BKind: api.Found, BValue: 30, Left: 2}) {
		t.Errorf("%+v", o)
	}
	h := m.History()
	if len(h) != 10 || h[6].Op != del(2) || h[7].Op != put(3, 31) || h[7].Thread != 1 {
		t.Error(h)
	}
	for i, e := range h[:6] {
		if e.Id != i/2+1 || e.Thread != 0 {
			t.Error("the first ones are not done one after the other:", h)
		}
	}
	// The first ones alone are done even where they are Scans, and Gets.
	_, o = explore.Run(conf, []api.Op{scan(0, 9, 3), get(5), put(5, 50)}, get(5), scan(0, 9, 4), 0, 0)
	if o != (explore.Outcome{AKind: api.Found, AValue: 50, BKind: api.Listed, Left: 1}) {
		t.Errorf("%+v", o)
	}
}

func TestRefused(t *testing.T) { // 37.1, 37.2
	alone := conf
	alone.Threads = 1
	for i, x := range []struct {
		c    api.Config
		a, b api.Op
	}{{api.Config{}, get(1), get(1)}, {alone, get(1), get(1)}, {conf, api.Op{}, get(1)}, {conf, get(1), scan(0, 9, 0)}, {api.Config{Slots: 3, Threads: 2, Fan: 3, Limbo: 1, Patience: 1}, get(1), get(1)}} {
		m, o := explore.Run(x.c, puts(1), x.a, x.b, 1, 1)
		if m != nil || o != (explore.Outcome{}) || len(explore.Explore(x.c, puts(1), x.a, x.b, 1)) != 0 {
			t.Errorf("%d: it runs", i)
		}
	}
	if explore.Long(api.Config{}, nil, get(1)) != 0 || explore.Long(conf, nil, api.Op{}) != 0 || explore.Long(conf, puts(1), scan(0, 9, 1001)) != 0 {
		t.Error("how long is what is refused")
	}
	for _, stride := range []int{0, -1, math.MinInt} {
		if len(explore.Explore(conf, nil, get(1), get(1), stride)) != 0 {
			t.Error("by strides of", stride)
		}
	}
}

func TestLong(t *testing.T) { // 37.1
	alone := conf
	alone.Threads = 1
	for _, c := range []api.Config{conf, alone} {
		for i, x := range []struct {
			first []api.Op
			o     api.Op
			want  int
		}{{nil, put(1, 5), 15}, {nil, get(1), 11}, {nil, del(1), 11}, {nil, scan(0, 9, 5), 12}, {puts(1), get(1), 14}, {puts(1), put(1, 5), 17}, {[]api.Op{{}, put(1, 5)}, get(1), 14}} {
			if got := explore.Long(c, x.first, x.o); got != x.want {
				t.Errorf("%d: %d picks", i, got)
			}
		}
	}
}

func TestSchedules(t *testing.T) { // 37.2
	for _, x := range []struct {
		long, wide, stride int
		want               [][2]int
	}{
		{0, 0, 1, [][2]int{{0, 0}}}, {1, 2, 1, [][2]int{{0, 0}, {0, 1}, {0, 2}, {1, 0}, {1, 1}, {1, 2}}}, {5, 3, 2, [][2]int{{0, 0}, {0, 2}, {2, 0}, {2, 2}, {4, 0}, {4, 2}}}, {4, 2, 3, [][2]int{{0, 0}, {3, 0}}}, {2, 1, math.MaxInt, [][2]int{{0, 0}}}, {math.MaxInt, 0, math.MaxInt, [][2]int{{0, 0}, {math.MaxInt, 0}}}, {math.MaxInt, 1, math.MaxInt - 1, [][2]int{{0, 0}, {math.MaxInt - 1, 0}}},
		{2, 2, 0, nil}, {2, 2, -1, nil}, {-1, 2, 1, nil}, {2, -1, 1, nil}, {math.MinInt, 2, 1, nil}, {2, 2, math.MinInt, nil},
	} {
		var got [][2]int
		for i, j := range explore.Schedules(x.long, x.wide, x.stride) {
			got = append(got, [2]int{i, j})
		}
		if !slices.Equal(got, x.want) {
			t.Errorf("%d, %d by %d: %v", x.long, x.wide, x.stride, got)
		}
	}
	for i, j := range explore.Schedules(3, 3, 1) {
		if i != 0 || j > 1 {
			t.Fatal("it does not end")
		}
		if j == 1 {
			break
		}
	}
}

func TestExplore(t *testing.T) { // 37.2
	first, a, b := puts(1, 2, 3, 4), put(5, 50), del(4)
	for _, stride := range []int{1, 3, 50} {
		var want []explore.Seen
		for i, j := range explore.Schedules(explore.Long(conf, first, a), explore.Long(conf, first, b), stride) {
			_, o := explore.Run(conf, first, a, b, i, j)
			at := slices.IndexFunc(want, func(s explore.Seen) bool { return s.Outcome == o })
			if at < 0 {
				at = len(want)
				want = append(want, explore.Seen{Outcome: o})
			}
			want[at].Many++
		}
		if got := explore.Explore(conf, first, a, b, stride); !slices.Equal(got, want) {
			t.Errorf("by %d: %v, not %v", stride, got, want)
		}
	}
}

// both are the outcomes of a done ahead of b, and of b ahead of a, as a map does them.
func both(first []api.Op, a, b api.Op) [2]explore.Outcome {
	m := model.New()
	for _, o := range first {
		m.Do(o)
	}
	n := m.Copy()
	x, y := m.Do(a), m.Do(b)
	v, u := n.Do(b), n.Do(a)
	return [...]explore.Outcome{{AKind: x.Kind, AValue: x.Value, BKind: y.Kind, BValue: y.Value, Left: m.Len()}, {AKind: u.Kind, AValue: u.Value, BKind: v.Kind, BValue: v.Value, Left: n.Len()}}
}

func TestAsAMap(t *testing.T) { // 37.3
	wide := api.Config{Slots: 40, Threads: 2, Fan: 4, Limbo: 1, Patience: 2}
	many := puts(1, 2, 3, 4, 5, 6, 7, 8, 9, 10)
	for _, x := range []struct {
		first []api.Op
		a, b  api.Op
	}{
		{nil, put(1, 5), put(1, 6)}, {puts(1), del(1), put(1, 6)}, {puts(1), del(1), del(1)}, {puts(1, 2, 3, 4), put(5, 1), put(6, 1)}, {puts(1, 2, 3, 4), put(5, 1), del(1)}, {many, del(1), del(2)}, {many, del(5), put(5, 9)}, {many, put(11, 1), get(9)}, {many, del(10), get(9)},
		{append(slices.Clone(many), del(1), del(3), del(4)), del(2), get(5)}, {append(slices.Clone(many), del(1), del(3), del(4)), del(2), put(3, 9)},
	} {
		want := both(x.first, x.a, x.b)
		for _, s := range explore.Explore(wide, x.first, x.a, x.b, 3) {
			if !slices.Contains(want[:], s.Outcome) || s.Many < 1 {
				t.Errorf("%v, %v: %+v, not %+v", x.a, x.b, s, want)
			}
		}
	}
}

func TestLeavesATree(t *testing.T) { // 37.1
	for i := range 30 {
		m, o := explore.Run(conf, puts(1, 2, 3, 4, 5, 6), del(1), put(7, 70), 2*i, i)
		if x := m.Memory(); !shape.Check(x).OK() || len(shape.Pairs(x)) != o.Left || o.Left != 6 {
			t.Errorf("%d: %+v", i, o)
		}
	}
}

func TestExamples(t *testing.T) {
	got := explore.Explore(conf, nil, put(1, 5), get(1), 1)
	if len(got) != 2 || got[0].Many+got[1].Many != 16*12 {
		t.Fatal("an example:", got)
	}
	for _, want := range []explore.Outcome{{AKind: api.Nothing, BKind: api.Nothing, Left: 1}, {AKind: api.Nothing, BKind: api.Found, BValue: 5, Left: 1}} {
		if got[0].Outcome != want && got[1].Outcome != want {
			t.Error("an example:", got)
		}
	}
}
