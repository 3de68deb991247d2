package machine_test

import (
	"math"
	"slices"
	"testing"

	"gleaning/api"
	"gleaning/arena"
	"gleaning/machine"
	"gleaning/memory"
	"gleaning/model"
	"gleaning/sweep"
	"gleaning/task"
)

var conf = api.Config{Slots: 3, Threads: 2, Fan: 4, Limbo: 1, Patience: 3}

func get(k uint64) api.Op    { return api.Op{Kind: api.Get, Key: k} }
func put(k, v uint64) api.Op { return api.Op{Kind: api.Put, Key: k, Value: v} }
func del(k uint64) api.Op    { return api.Op{Kind: api.Delete, Key: k} }
func scan(k, h uint64, most int) api.Op {
	return api.Op{Kind: api.Scan, Key: k, High: h, Most: most}
}

var tick = api.Entry{Kind: api.Tick}

func pick(thread int) api.Entry { return api.Entry{Kind: api.Pick, Thread: thread} }

func submit(thread int, o api.Op) api.Entry {
	return api.Entry{Kind: api.Submit, Thread: thread, Op: o}
}

// odd are threads that there are not.
var odd = []int{-1, 2, 3, math.MinInt, math.MaxInt}

func words(m *memory.Memory) []uint64 { return m.Words(0, math.MaxInt) }

// done picks a thread till it has no task.
func done(m *machine.Machine, thread int) int {
	picks := 0
	for m.Do(pick(thread)) {
		if picks++; !m.Busy(thread) {
			break
		}
	}
	return picks
}

func TestNew(t *testing.T) { // 27.1
	m := machine.New(conf)
	if m == nil || m.Config() != conf || !slices.Equal(words(m.Memory()), words(arena.New(conf))) {
		t.Fatal("it begins otherwise")
	}
	for thread := range 2 {
		if m.Busy(thread) || m.Queue(thread) != 0 || len(m.Own(thread)) != 0 || len(m.Held(thread)) != 0 || m.Slow(thread) || len(m.Lists(thread).Slots()) != 0 {
			t.Error("a thread has something")
		}
	}
	if len(m.Steps()) != 0 || len(m.History()) != 0 {
		t.Error("something was done")
	}
	for _, c := range []api.Config{{}, {Slots: 3, Threads: 2, Fan: 3, Limbo: 1, Patience: 3}} {
		if machine.New(c) != nil {
			t.Errorf("%v begins", c)
		}
	}
}

func TestTick(t *testing.T) { // 27.1
	m := machine.New(conf)
	for i := range uint64(5) {
		if m.Memory().Word(1) != i || !m.Do(api.Entry{Kind: api.Tick, Thread: -7, Op: get(3)}) {
			t.Error("the clock stands")
		}
	}
	if len(m.Steps()) != 0 {
		t.Error("a tick is no step")
	}
}

func TestSubmit(t *testing.T) { // 27.1
	m := machine.New(conf)
	for i := range 64 {
		if m.Queue(1) != i || !m.Do(submit(1, put(uint64(i), 5))) {
			t.Fatal("a queue of", i)
		}
	}
	if m.Do(submit(1, get(5))) || m.Queue(1) != 64 || m.Queue(0) != 0 || m.Busy(1) {
		t.Error("more than it may have")
	}
	for _, thread := range odd {
		if m.Do(submit(thread, get(5))) || m.Queue(thread) != 0 {
			t.Error("a thread that there is not")
		}
	}
	for _, o := range []api.Op{{}, {Kind: 5}, scan(0, 9, 0), scan(0, 9, 1001), {Kind: -1}} {
		if m.Do(submit(0, o)) || m.Queue(0) != 0 {
			t.Errorf("%v is not right", o)
		}
	}
	m.Do(pick(1))
	if m.Queue(1) != 63 || !m.Do(submit(1, get(5))) || m.Do(submit(1, get(5))) {
		t.Error("there is room for one more")
	}
}

func TestNothingToDo(t *testing.T) { // 27.1
	m := machine.New(conf)
	was := words(m.Memory())
	for _, e := range []api.Entry{pick(0), pick(1), {}, {Kind: 4}, {Kind: -1}, {Kind: 4, Thread: 1, Op: get(3)}, {Thread: 1}} {
		if m.Do(e) {
			t.Errorf("%v did something", e)
		}
	}
	for _, thread := range odd {
		if m.Do(pick(thread)) {
			t.Error("a thread that there is not is picked")
		}
	}
	if !slices.Equal(words(m.Memory()), was) || len(m.Steps()) != 0 || len(m.History()) != 0 {
		t.Error("something was done")
	}
	if got := m.All(tick, pick(0), submit(0, get(1)), submit(9, get(1)), pick(0), pick(1), api.Entry{}); got != 3 {
		t.Error("All did", got)
	}
	if m.All() != 0 {
		t.Error("All of nothing")
	}
}

func sameEvents(a, b []api.Event) bool {
	return slices.EqualFunc(a, b, func(x, y api.Event) bool {
		return x.Kind == y.Kind && x.Thread == y.Thread && x.Id == y.Id && x.At == y.At && x.Op == y.Op && model.Same(x.Result, y.Result)
	})
}

func TestHistory(t *testing.T) { // 27.2
	m := machine.New(conf)
	odd := api.Op{Kind: api.Get, Key: 5, Value: 7, High: 8, Most: -9}
	m.All(submit(0, put(5, 50)), submit(1, odd), submit(0, scan(0, 9, 3)), pick(1), pick(0))
	want := []api.Event{{Kind: api.Invoke, Thread: 1, Id: 1, At: 0, Op: odd}, {Kind: api.Invoke, Thread: 0, Id: 2, At: 1, Op: put(5, 50)}}
	if got := m.History(); !sameEvents(got, want) {
		t.Fatal(got)
	}
	n := 2 + done(m, 0)
	want = append(want, api.Event{Kind: api.Respond, Thread: 0, Id: 2, At: n - 1, Op: put(5, 50), Result: api.Result{Kind: api.Nothing}})
	want = append(want, api.Event{Kind: api.Invoke, Thread: 0, Id: 3, At: n, Op: scan(0, 9, 3)})
	n += done(m, 0)
	want = append(want, api.Event{Kind: api.Respond, Thread: 0, Id: 3, At: n - 1, Op: scan(0, 9, 3), Result: api.Result{Kind: api.Listed, Pairs: []api.Pair{{Key: 5, Value: 50}}}})
	if got := m.History(); !sameEvents(got, want) {
		t.Fatal(got)
	}
	n += done(m, 1)
	got := m.History()
	if len(got) != 6 || got[5].Id != 1 || got[5].At != n-1 || got[5].Thread != 1 {
		t.Error(got)
	}
	got[4].Result.Pairs[0].Key = 77
	if m.History()[4].Result.Pairs[0].Key != 5 {
		t.Error("History is not new")
	}
}

// next is a number that nobody can tell.
type next uint64

func (r *next) of(n uint64) int {
	x := uint64(*r)
	x ^= x << 13
	x ^= x >> 7
	x ^= x << 17
	*r = next(x)
	return int(x >> 20 % n)
}

// entry is any entry of a machine, most of them picks.
func (r *next) entry(c api.Config) api.Entry {
	thread := r.of(uint64(c.Threads))
	switch r.of(40) {
	case 0:
		return tick
	case 1, 2:
		return submit(thread, api.Op{Kind: 1 + r.of(4), Key: uint64(r.of(30)), Value: uint64(r.of(9)), High: uint64(r.of(40)), Most: 1 + r.of(9)})
	}
	return pick(thread)
}

// mirror is threads that are told by tasks what a machine should do.
type mirror struct {
	m      *memory.Memory
	queue  [][]api.Op
	tasks  []*task.Task
	lists  []sweep.Lists
	picked int
}

func (x *mirror) pick(thread int) (api.Step, bool) {
	if x.tasks[thread] == nil {
		if len(x.queue[thread]) == 0 {
			return api.Step{}, false
		}
		y := task.New(x.m.Layout, thread, x.queue[thread][0], x.lists[thread])
		x.queue[thread], x.tasks[thread] = x.queue[thread][1:], &y
	}
	y := x.tasks[thread]
	a := y.Want()
	got := x.m.Do(a)
	*y = y.Took(got)
	s := api.Step{Thread: thread, Ask: a, Got: got, Marks: y.Marks()}
	if _, ok := y.Done(); ok {
		x.lists[thread], x.tasks[thread] = y.Lists(), nil
	}
	return s, true
}

func sameStep(a, b api.Step) bool {
	return a.Thread == b.Thread && a.Ask == b.Ask && a.Got == b.Got && slices.Equal(a.Marks, b.Marks)
}

func TestSteps(t *testing.T) { // 27.1, 27.2, 27.3, 27.4
	for seed := range 25 {
		r := next(seed*7919 + 1)
		c := api.Config{Slots: 1 + r.of(12), Threads: 1 + r.of(4), Fan: 4 + r.of(3), Limbo: 1 + r.of(3), Patience: 1 + r.of(9)}
		m := machine.New(c)
		x := &mirror{m: arena.New(c), queue: make([][]api.Op, c.Threads), tasks: make([]*task.Task, c.Threads), lists: make([]sweep.Lists, c.Threads)}
		var steps []api.Step
		for range 3000 {
			e := r.entry(c)
			did := m.Do(e)
			switch e.Kind {
			case api.Tick:
				x.m.Write(api.Write{At: 1, Word: x.m.Word(1) + 1})
			case api.Submit:
				if did {
					x.queue[e.Thread] = append(x.queue[e.Thread], e.Op)
				}
			case api.Pick:
				s, ok := x.pick(e.Thread)
				if ok {
					steps = append(steps, s)
				}
				if ok != did {
					t.Fatalf("%v: %v", e, did)
				}
			}
			x.holds(t, m, c)
		}
		if !slices.EqualFunc(m.Steps(), steps, sameStep) || !slices.Equal(words(m.Memory()), words(x.m)) {
			t.Fatalf("seed %d: the steps, or the memory, are others", seed)
		}
	}
}

// holds holds what a machine tells of its threads to what the mirror has.
func (x *mirror) holds(t *testing.T, m *machine.Machine, c api.Config) {
	t.Helper()
	var threads []int
	var asks []api.Ask
	for thread := range c.Threads {
		y := x.tasks[thread]
		want := task.Task{}
		lists := x.lists[thread]
		if y != nil {
			want, lists = *y, y.Lists()
			threads, asks = append(threads, thread), append(asks, y.Want())
		}
		got := m.Lists(thread)
		if m.Busy(thread) != (y != nil) || m.Queue(thread) != len(x.queue[thread]) || !slices.Equal(m.Own(thread), want.Own()) || !slices.Equal(m.Held(thread), want.Held()) || m.Slow(thread) != want.Slow() || !slices.Equal(got.Limbo, lists.Limbo) || !slices.Equal(got.Kept, lists.Kept) {
			t.Fatalf("thread %d is another one", thread)
		}
	}
	i := 0
	for thread, a := range m.Wants() {
		if i >= len(threads) || thread != threads[i] || a != asks[i] {
			t.Fatalf("thread %d wants %v", thread, a)
		}
		i++
	}
	if i != len(threads) {
		t.Fatal("Wants lacks a thread")
	}
}

func TestWants(t *testing.T) { // 27.3: as they were when it was called
	m := machine.New(conf)
	m.All(submit(0, get(3)), submit(1, get(3)), pick(0), pick(1), pick(1))
	all := m.Wants()
	m.Do(pick(0))
	var got []api.Ask
	for thread, a := range all {
		if thread != len(got) {
			t.Error("thread", thread)
		}
		got = append(got, a)
	}
	if !slices.Equal(got, []api.Ask{{Kind: api.AskLoad, At: 0}, {Kind: api.AskLoad, At: 1}}) {
		t.Error(got)
	}
	for thread := range all {
		if thread != 0 {
			t.Error("it does not end")
		}
		break
	}
}

func TestToldIsNew(t *testing.T) { // 27.3
	m := machine.New(conf)
	m.Do(submit(0, get(3)))
	done(m, 0)
	m.Memory().Write(api.Write{At: 0, Word: 99})
	s := m.Steps()
	s[0].Got = 99
	for i := range s {
		for j := range s[i].Marks {
			s[i].Marks[j].Kind = 99
		}
	}
	if m.Memory().Word(0) == 99 || m.Steps()[0].Got == 99 {
		t.Error("what is told is not new")
	}
	for _, s := range m.Steps() {
		for _, x := range s.Marks {
			if x.Kind == 99 {
				t.Fatal("marks are not new")
			}
		}
	}
}

func TestOneAfterAnother(t *testing.T) { // 27.5
	for seed := range 40 {
		r := next(seed*104729 + 1)
		c := api.Config{Slots: 1 + r.of(40), Threads: 1 + r.of(4), Fan: 4 + r.of(4), Limbo: 1 + r.of(4), Patience: 1 + r.of(9)}
		m, plain := machine.New(c), model.New()
		for range 150 {
			thread := r.of(uint64(c.Threads))
			o := []api.Op{get(uint64(r.of(60))), put(uint64(r.of(60)), uint64(r.of(99))), put(uint64(r.of(60)), 7), del(uint64(r.of(60))), scan(uint64(r.of(60)), uint64(r.of(80)), 1+r.of(20))}[r.of(5)]
			m.Do(submit(thread, o))
			done(m, thread)
			h := m.History()
			got := h[len(h)-1]
			full := got.Result.Kind == api.Full && o.Kind == api.Put
			if _, there := plain.Get(o.Key); full && there {
				t.Fatal("full, though the key is there")
			}
			if !full && !model.Same(got.Result, plain.Do(o)) || got.Op != o || got.Kind != api.Respond {
				t.Fatalf("seed %d: %v tells %v", seed, o, got.Result)
			}
		}
	}
}

func TestNobodyMade(t *testing.T) {
	for _, m := range []*machine.Machine{nil, {}} {
		if m.All(tick, submit(0, get(3)), pick(0), api.Entry{}) != 0 || m.Config() != (api.Config{}) || m.Memory() != nil || len(m.History()) != 0 || len(m.Steps()) != 0 {
			t.Error("there is something")
		}
		for _, thread := range append(odd, 0) {
			if m.Busy(thread) || m.Queue(thread) != 0 || len(m.Lists(thread).Slots()) != 0 || len(m.Own(thread)) != 0 || len(m.Held(thread)) != 0 || m.Slow(thread) {
				t.Error("there is a thread", thread)
			}
		}
		for thread := range m.Wants() {
			t.Error("there wants thread", thread)
		}
	}
	m := machine.New(conf)
	m.All(submit(0, get(3)), pick(0))
	for _, thread := range odd {
		if m.Busy(thread) || m.Queue(thread) != 0 || len(m.Lists(thread).Slots()) != 0 || len(m.Own(thread)) != 0 || len(m.Held(thread)) != 0 || m.Slow(thread) {
			t.Error("there is a thread", thread)
		}
	}
}

func TestExamples(t *testing.T) {
	m := machine.New(conf)
	m.Do(submit(0, put(5, 50)))
	for range 15 {
		m.Do(pick(0))
	}
	want := []api.Event{{Kind: api.Invoke, Id: 1, Op: put(5, 50)}, {Kind: api.Respond, Id: 1, At: 14, Op: put(5, 50), Result: api.Result{Kind: api.Nothing}}}
	if got := m.History(); !sameEvents(got, want) {
		t.Error("an example:", got)
	}
}
