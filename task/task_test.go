package task_test

import (
	"math"
	"slices"
	"testing"

	"gleaning/advance"
	"gleaning/api"
	"gleaning/arena"
	"gleaning/aword"
	"gleaning/enter"
	"gleaning/handle"
	"gleaning/hword"
	"gleaning/layout"
	"gleaning/memory"
	"gleaning/model"
	"gleaning/read"
	"gleaning/stack"
	"gleaning/sweep"
	"gleaning/task"
	"gleaning/vword"
	"gleaning/write"
)

// h is the handle of a slot, of the generation that is ten more, and v the version word.
func h(slot int) uint64 { return handle.Make(uint64(slot+10), slot) }

func v(slot int) uint64 { return vword.Make(uint64(slot+10), 5, false, false) }

type keys = []uint64

func in(keys []uint64, vals ...uint64) api.Node { return api.Node{Inner: true, Keys: keys, Vals: vals} }

// of is a leaf whose values are ten times its keys.
func of(link uint64, keys ...uint64) api.Node {
	n := api.Node{Link: link}
	for _, k := range keys {
		n.Keys = append(n.Keys, k)
		n.Vals = append(n.Vals, 10*k)
	}
	return n
}

// conf is a configuration of three threads, whose limbos may have so many records.
func conf(limbo int) api.Config {
	return api.Config{Slots: 25, Threads: 3, Fan: 4, Limbo: limbo, Patience: 5}
}

// grown is a memory with a tree of these nodes, by slots, whose root is in the slot 1, and with a list of free slots; the epoch is 9, the clock 100.
func grown(c api.Config, nodes map[int]api.Node, free ...int) *memory.Memory {
	m := memory.New(c)
	m.Write(arena.Words(m.Layout, 0, in(nil, h(1)))...)
	for slot := 1; slot <= c.Slots; slot++ {
		m.Write(api.Write{At: m.Version(slot), Word: vword.Kill(v(slot))})
	}
	for slot, n := range nodes {
		m.Write(arena.Words(m.Layout, slot, n)...)
		m.Write(api.Write{At: m.Version(slot), Word: v(slot)})
	}
	next := 0
	for _, slot := range slices.Backward(free) {
		m.Write(api.Write{At: m.Link(slot), Word: uint64(next)})
		next = slot
	}
	m.Write(api.Write{At: 2, Word: hword.Make(77, next)}, api.Write{At: 0, Word: 9}, api.Write{At: 1, Word: 100})
	return m
}

var trees = []map[int]api.Node{
	{1: of(0)},
	{1: of(0, 10, 20, 30, 40)},
	{1: in(keys{30}, h(2), h(3)), 2: of(h(3), 10, 20), 3: of(0, 30)},
	{1: in(keys{30, 50, 70}, h(2), h(3), h(4), h(5)), 2: of(h(3), 5, 10, 20, 25), 3: of(h(4), 30, 40), 4: of(h(5), 50), 5: of(0, 70, 80, 90)},
	{1: in(keys{50}, h(2), h(3)), 2: in(keys{20}, h(4), h(5)), 3: in(keys{70}, h(7), h(8)), 4: of(h(5), 5, 10), 5: of(h(7), 20), 7: of(h(8), 50, 55, 60, 65), 8: of(0, 70, 80)},
}

// turn is what another thread does ahead of an access.
type turn struct {
	ahead  int
	writes [2]api.Write
}

// one is a turn of one word.
func one(ahead int, w api.Write) turn { return turn{ahead, [2]api.Write{w, w}} }

// state is how a task is behind an access.
type state struct {
	own      []int
	lists    sweep.Lists
	held     []int
	slow     bool
	restarts int
	marks    []api.Mark
}

func clone(x sweep.Lists) sweep.Lists {
	return sweep.Lists{Limbo: slices.Clone(x.Limbo), Kept: slices.Clone(x.Kept)}
}

func same(a, b state) bool {
	return slices.Equal(a.own, b.own) && slices.Equal(a.lists.Limbo, b.lists.Limbo) && slices.Equal(a.lists.Kept, b.lists.Kept) && slices.Equal(a.held, b.held) && a.slow == b.slow && a.restarts == b.restarts && slices.Equal(a.marks, b.marks)
}

// byWords does a task as the chapter's words say, one thing after the other.
type byWords struct {
	l      layout.Layout
	m      *memory.Memory
	by     turn
	thread int
	op     api.Op

	asks   []api.Ask
	states []state
	now    state

	plain, reclaimed bool
	spares           []int
	fixes            int
	scan             *read.Scan
}

// most is how many accesses a test lets a task do.
const most = 3000

func (w *byWords) do(a api.Ask) uint64 {
	w.close()
	if len(w.asks) == w.by.ahead {
		w.m.Write(w.by.writes[:]...)
	}
	w.asks = append(w.asks, a)
	w.now.marks, w.now.held = nil, nil
	return w.m.Do(a)
}

// close keeps how things are behind the last access.
func (w *byWords) close() {
	if len(w.asks) > len(w.states) {
		s := w.now
		s.own, s.lists, s.marks = slices.Clone(s.own), clone(s.lists), slices.Clone(s.marks)
		w.states = append(w.states, s)
	}
}

func (w *byWords) mark(kind int, a, b uint64) {
	w.now.marks = append(w.now.marks, api.Mark{Kind: kind, A: a, B: b})
}

type automaton[T any] interface {
	Want() api.Ask
	Took(got uint64) T
}

// run runs an automaton to its end; behind each access it is looked at.
func run[T automaton[T]](w *byWords, a T, look func(a T)) T {
	for len(w.asks) < most && a.Want() != (api.Ask{}) {
		a = a.Took(w.do(a.Want()))
		if look != nil {
			look(a)
		}
	}
	return a
}

func (w *byWords) enter() {
	w.now.slow, _ = run(w, enter.New(w.l, w.thread, w.now.slow), nil).Done()
}

func (w *byWords) leave() { run(w, enter.NewLeave(w.l, w.thread, w.now.slow), nil) }

func (w *byWords) reclaim() {
	w.reclaimed = true
	w.leave()
	a := run(w, advance.New(w.l, w.thread), func(a advance.Advance) {
		if a.Just() >= 0 {
			w.mark(api.MarkEvict, uint64(a.Just()), 0)
		}
	})
	if o, _ := a.Done(); o == advance.Gone {
		w.mark(api.MarkAdvance, a.Epoch()+1, 0)
	}
	run(w, sweep.New(w.l, w.now.lists), func(s sweep.Sweep) {
		w.now.lists = s.Now()
		if s.Just() != 0 {
			w.mark(api.MarkFree, uint64(s.Just()), 0)
		}
	})
	w.enter()
}

// attempt runs one attempt.
func (w *byWords) attempt() (int, api.Result, uint64) {
	w.mark(api.MarkAgain, 0, 0)
	switch w.op.Kind {
	case api.Get:
		g := run(w, read.NewGet(w.l, w.thread, w.op.Key, w.now.slow), func(g read.Get) { w.now.marks = g.Marks() })
		o, r := g.Done()
		return o, r, 0
	case api.Scan:
		s := read.NewScan(w.l, w.thread, w.op, w.now.slow)
		if w.scan != nil {
			s = w.scan.Anew(w.now.slow)
		}
		s = run(w, s, func(s read.Scan) { w.now.marks = s.Marks() })
		w.scan = &s
		o, r := s.Done()
		return o, r, 0
	}
	x := write.NewDelete(w.l, w.thread, w.op.Key, w.now.slow, w.plain, w.spares...)
	if w.op.Kind == api.Put {
		x = write.NewPut(w.l, w.thread, w.op.Key, w.op.Value, w.now.slow, w.plain, w.spares...)
	}
	x = run(w, x, func(x write.Write) {
		w.now.marks, w.now.held, w.now.own = x.Marks(), x.Held(), x.Spares()
		if x.Victim() != 0 {
			w.now.own = append(w.now.own, handle.Slot(x.Victim()))
		}
	})
	w.spares = x.Spares()
	o, r := x.Done()
	return o, r, x.Victim()
}

// reclaimOnce tells whether it has reclaimed now; if it has ahead, it is plain.
func (w *byWords) reclaimOnce() {
	if !w.reclaimed {
		w.reclaim()
	} else {
		w.plain = true
	}
}

func (w *byWords) task() api.Result {
	w.enter()
	for {
		for w.op.Kind == api.Delete && !w.plain && len(w.now.lists.Limbo) >= w.l.Config().Limbo {
			w.reclaimOnce()
		}
		o, r, victim := w.attempt()
		switch o {
		case write.Over:
			w.leave()
			for len(w.spares) > 0 {
				run(w, stack.NewPush(w.l, w.spares[0]), nil)
				w.mark(api.MarkFree, uint64(w.spares[0]), 0)
				w.spares = w.spares[1:]
				w.now.own = w.spares
			}
			w.close()
			return r
		case write.Restart:
			w.now.restarts++
			w.mark(api.MarkRestart, 0, 0)
			w.enter()
		case write.Empty:
			w.reclaimOnce()
		case write.Again:
			if victim != 0 {
				r := api.Record{Handle: victim, Epoch: w.do(api.Ask{Kind: api.AskLoad})}
				w.now.lists.Limbo = append(slices.Clone(w.now.lists.Limbo), r)
				w.now.own = w.spares
				w.mark(api.MarkRetire, r.Handle, r.Epoch)
			}
			if w.op.Kind == api.Delete {
				w.fixes++
				w.plain = w.plain || w.fixes == 8
			}
		}
		if len(w.asks) >= most {
			w.close()
			return api.Result{}
		}
	}
}

// stateOf is how a task is.
func stateOf(t task.Task) state {
	return state{t.Own(), t.Lists(), t.Held(), t.Slow(), t.Restarts(), t.Marks()}
}

// holds runs a task, and holds it to the chapter's words.
func holds(t *testing.T, m *memory.Memory, o api.Op, x sweep.Lists, by turn) *byWords {
	t.Helper()
	w := &byWords{l: m.Layout, m: m.Copy(), by: by, thread: 1, op: o, now: state{lists: clone(x)}}
	result := w.task()
	given := clone(x)
	y := task.New(m.Layout, 1, o, given)
	for i := range given.Limbo {
		given.Limbo[i] = api.Record{Handle: 99}
	}
	mine := m.Copy()
	i := 0
	for ; i < most; i++ {
		r, ok := y.Done()
		if ok {
			break
		}
		if !model.Same(r, api.Result{}) {
			t.Error("a result ahead of the end")
		}
		if i >= len(w.asks) || y.Want() != w.asks[i] {
			t.Fatalf("%v, %+v: access %d is %v, not %v", o, by, i, y.Want(), w.asks[min(i, len(w.asks)-1)])
		}
		if i == by.ahead {
			mine.Write(by.writes[:]...)
		}
		got := mine.Do(y.Want())
		y.Took(got + 1) // it is a value: this one counts for nothing
		y = y.Took(got)
		if s := stateOf(y); !same(s, w.states[i]) {
			t.Fatalf("%v, %+v: behind access %d it is %+v, not %+v", o, by, i, s, w.states[i])
		}
	}
	if i != len(w.asks) {
		t.Fatalf("%v, %+v: it has ended behind %d accesses, not %d", o, by, i, len(w.asks))
	}
	if len(w.asks) >= most {
		return w
	}
	if r, ok := y.Done(); !ok || !model.Same(r, result) || y.Want() != (api.Ask{}) {
		t.Errorf("%v, %+v: it tells %v, %v, not %v", o, by, r, ok, result)
	}
	if y = y.Took(1); len(y.Marks()) != 0 || y.Want() != (api.Ask{}) {
		t.Errorf("%v: it goes on", o)
	}
	return w
}

func ops() []api.Op {
	var out []api.Op
	for _, key := range []uint64{5, 15, 20, 30, 50, 55, 57, 90} {
		out = append(out, api.Op{Kind: api.Get, Key: key}, api.Op{Kind: api.Put, Key: key, Value: 99}, api.Op{Kind: api.Delete, Key: key}, api.Op{Kind: api.Scan, Key: key, High: key + 25, Most: 3})
	}
	return out
}

// lists are some of a thread: none, ripe ones, and ones that are not; their slots are in no tree.
func lists() []sweep.Lists {
	return []sweep.Lists{{}, {Limbo: []api.Record{{Handle: h(20), Epoch: 7}}}, {Limbo: []api.Record{{Handle: h(20), Epoch: 9}}, Kept: []uint64{h(21)}}, {Limbo: []api.Record{{Handle: h(20), Epoch: 8}, {Handle: h(22), Epoch: 7}}, Kept: []uint64{h(21)}}}
}

// marksOf counts the marks of a kind.
func marksOf(w *byWords, kind int) int {
	n := 0
	for _, s := range w.states {
		for _, x := range s.marks {
			if x.Kind == kind {
				n++
			}
		}
	}
	return n
}

func TestTasks(t *testing.T) { // 26.1 to 26.6
	seen := map[int]int{}
	for _, nodes := range trees {
		for _, limbo := range []int{1, 2, 8} {
			for _, free := range [][]int{nil, {15}, {15, 16, 17}} {
				for _, x := range lists() {
					m := grown(conf(limbo), nodes, free...)
					m.Write(api.Write{At: m.Hazard(2, 1), Word: h(22)})
					for _, o := range ops() {
						w := holds(t, m, o, x, turn{ahead: -1})
						for kind := api.MarkBegin; kind <= api.MarkEmpty; kind++ {
							seen[kind] += marksOf(w, kind)
						}
					}
				}
			}
		}
	}
	for kind := api.MarkBegin; kind <= api.MarkEmpty; kind++ {
		if alone := kind == api.MarkMiss || kind == api.MarkFirm || kind == api.MarkRestart || kind == api.MarkEvict; (seen[kind] == 0) != alone {
			t.Errorf("%d marks of the kind %d", seen[kind], kind)
		}
	}
}

func TestDisturbed(t *testing.T) { // 26.3: others turn a word ahead of any access
	seen := map[int]int{}
	for i, nodes := range trees {
		m := grown(conf(2), nodes, 15)
		for _, o := range []api.Op{{Kind: api.Get, Key: 20}, {Kind: api.Put, Key: 15, Value: 99}, {Kind: api.Put, Key: 57, Value: 99}, {Kind: api.Delete, Key: 20}, {Kind: api.Delete, Key: 10}, {Kind: api.Scan, Key: 5, High: 60, Most: 9}} {
			x := lists()[i%4]
			many := len(holds(t, m, o, x, turn{ahead: -1}).asks)
			for ahead := range many {
				var writes []api.Write
				for slot := range 6 {
					writes = append(writes, api.Write{At: m.Version(slot), Word: vword.Bump(m.Word(m.Version(slot)))})
				}
				writes = append(writes, api.Write{At: 2, Word: 0}, api.Write{At: m.Announce(1), Word: aword.Make(aword.Evicted, 9, 3)}, api.Write{At: m.Announce(0), Word: aword.Make(aword.Announced, 8, 97)}, api.Write{At: m.Announce(0), Word: aword.Make(aword.Announced, 8, 90)}, api.Write{At: m.Announce(2), Word: aword.Make(aword.Announced, 8, 95)}, api.Write{At: 0, Word: 10})
				for _, y := range writes {
					w := holds(t, m, o, x, one(ahead, y))
					for kind := api.MarkBegin; kind <= api.MarkEmpty; kind++ {
						seen[kind] += marksOf(w, kind)
					}
				}
			}
		}
	}
	for kind := api.MarkBegin; kind <= api.MarkEmpty; kind++ {
		if seen[kind] == 0 {
			t.Errorf("no marks of the kind %d", kind)
		}
	}
}

func TestEvicted(t *testing.T) { // 26.1: who was evicted is slow
	for _, o := range ops() {
		m := grown(conf(2), trees[4], 15, 16)
		m.Write(api.Write{At: m.Announce(1), Word: aword.Make(aword.Evicted, 3, 3)})
		w := holds(t, m, o, sweep.Lists{}, turn{ahead: -1})
		if !w.states[len(w.states)-1].slow || w.states[0].slow || marksOf(w, api.MarkFirm) == 0 {
			t.Errorf("%v is not slow", o)
		}
	}
}

func TestMaxFixes(t *testing.T) { // 26.3: behind eight fixes a Delete is plain
	nodes := map[int]api.Node{12: of(0, 10, 20)}
	for slot := 1; slot < 12; slot++ {
		nodes[slot] = in(nil, h(slot+1))
	}
	m := grown(conf(64), nodes, 15)
	w := holds(t, m, api.Op{Kind: api.Delete, Key: 10}, sweep.Lists{}, turn{ahead: -1})
	if got := marksOf(w, api.MarkRetire); got != 8 || !w.plain || w.reclaimed {
		t.Errorf("it retired %d", got)
	}
	w = holds(t, grown(conf(3), nodes, 15), api.Op{Kind: api.Delete, Key: 10}, sweep.Lists{}, turn{ahead: -1})
	if got := marksOf(w, api.MarkRetire); got != 3 || !w.plain || !w.reclaimed {
		t.Errorf("with a limbo of three it retired %d", got)
	}
}

func TestFull(t *testing.T) { // 26.3: a Put is Full only behind having reclaimed
	m := grown(conf(2), trees[1])
	w := holds(t, m, api.Op{Kind: api.Put, Key: 15, Value: 9}, sweep.Lists{}, turn{ahead: -1})
	if marksOf(w, api.MarkEmpty) != 2 || !w.reclaimed || marksOf(w, api.MarkAgain) != 3 {
		t.Error("Full without having found none twice")
	}
	w = holds(t, m, api.Op{Kind: api.Put, Key: 15, Value: 9}, sweep.Lists{Limbo: []api.Record{{Handle: h(20), Epoch: 3}, {Handle: h(21), Epoch: 3}}}, turn{ahead: -1})
	if marksOf(w, api.MarkFree) != 2 || marksOf(w, api.MarkEmpty) != 1 {
		t.Error("it is full though slots were made free")
	}
}

func TestSparesGoBack(t *testing.T) { // 26.4: what it did not need
	m := grown(conf(2), trees[1], 15, 16)
	// The leaf has room when the fix would lock it: another one has made that, while this one took both slots.
	version := api.Write{At: m.Version(1), Word: vword.Bump(v(1))}
	back := 0
	for ahead := range 25 {
		w := holds(t, m, api.Op{Kind: api.Put, Key: 45, Value: 9}, sweep.Lists{}, turn{ahead, [2]api.Write{version, {At: m.Shape(1), Word: layout.Pack(false, 3)}}})
		free, sound := arena.Free(w.m)
		if got := len(free) + len(arena.Tree(w.m)); !sound || got != 3 {
			t.Errorf("ahead of %d: free are %v, the tree is %v", ahead, free, arena.Tree(w.m))
		}
		back = max(back, marksOf(w, api.MarkFree))
	}
	if back != 2 {
		t.Error("at most so many went back:", back)
	}
}

func TestCannotBegin(t *testing.T) {
	l := layout.New(conf(2))
	x := lists()[2]
	good := api.Op{Kind: api.Get, Key: 5}
	tasks := []task.Task{task.New(layout.Layout{}, 0, good, x), task.New(l, 0, api.Op{}, x), task.New(l, 0, api.Op{Kind: api.Scan}, x), task.New(l, 0, api.Op{Kind: 9}, x)}
	for _, thread := range []int{-1, 3, math.MinInt, math.MaxInt} {
		tasks = append(tasks, task.New(l, thread, good, x))
	}
	for _, y := range append(tasks, task.Task{}) {
		for range 2 {
			if r, ok := y.Done(); !ok || !model.Same(r, api.Result{}) || y.Want() != (api.Ask{}) || len(y.Own()) != 0 || len(y.Held()) != 0 || len(y.Marks()) != 0 || y.Slow() || y.Restarts() != 0 {
				t.Errorf("it is not over: %v, %v", r, ok)
			}
			y = y.Took(1)
		}
	}
	if got := tasks[0].Lists(); !slices.Equal(got.Limbo, x.Limbo) || !slices.Equal(got.Kept, x.Kept) {
		t.Error("its lists are", got)
	}
}

func TestWhatIsTold(t *testing.T) { // R3
	m := grown(conf(2), trees[2], 15)
	y := task.New(m.Layout, 0, api.Op{Kind: api.Scan, High: 99, Most: 9}, lists()[2])
	for _, ok := y.Done(); !ok; _, ok = y.Done() {
		y = y.Took(m.Do(y.Want()))
	}
	r, _ := y.Done()
	r.Pairs[0].Key = 77
	y.Lists().Limbo[0].Epoch = 77
	y.Lists().Kept[0] = 77
	if r, _ = y.Done(); r.Pairs[0].Key == 77 || y.Lists().Limbo[0].Epoch == 77 || y.Lists().Kept[0] == 77 {
		t.Error("what is told is not new")
	}
}

func TestExamples(t *testing.T) {
	m := arena.New(conf(2))
	y := task.New(m.Layout, 0, api.Op{Kind: api.Put, Key: 5, Value: 50}, sweep.Lists{})
	steps := 0
	for _, ok := y.Done(); !ok; _, ok = y.Done() {
		y = y.Took(m.Do(y.Want()))
		steps++
	}
	if r, _ := y.Done(); r.Kind != api.Nothing || steps != 15 {
		t.Error("an example:", r, steps)
	}
}
