package whole

import (
	"math"
	"testing"

	"gleaning/advance"
	"gleaning/api"
	"gleaning/arena"
	"gleaning/audit"
	"gleaning/census"
	"gleaning/console"
	"gleaning/dump"
	"gleaning/edit"
	"gleaning/enter"
	"gleaning/explore"
	"gleaning/fix"
	"gleaning/handle"
	"gleaning/history"
	"gleaning/inner"
	"gleaning/layout"
	"gleaning/leaf"
	"gleaning/linear"
	"gleaning/machine"
	"gleaning/memory"
	"gleaning/order"
	"gleaning/plan"
	"gleaning/read"
	"gleaning/scans"
	"gleaning/script"
	"gleaning/shape"
	"gleaning/stack"
	"gleaning/sweep"
	"gleaning/task"
	"gleaning/vword"
	"gleaning/walk"
	"gleaning/write"
)

// int is any int, most of them small.
func (r *next) int() int {
	if r.of(6) == 0 {
		return []int{math.MinInt, -1, 65535, 65536, 1 << 32, math.MaxInt}[r.of(6)]
	}
	return r.of(12) - 1
}

// word is any word, many of them handles, version words, shapes.
func (r *next) word() uint64 {
	switch r.of(8) {
	case 0:
		return uint64(*r)
	case 1:
		return math.MaxUint64 - uint64(r.of(3))
	case 2:
		return vword.Make(uint64(r.of(3)), uint64(r.of(3)), r.of(4) == 0, r.of(3) == 0)
	case 3, 4:
		return handle.Make(uint64(r.of(3)), 1+r.of(10))
	case 5:
		return layout.Pack(r.of(2) == 0, r.of(6))
	}
	return uint64(r.of(9))
}

func (r *next) words() []uint64 {
	var out []uint64
	for range r.of(7) {
		out = append(out, r.word())
	}
	return out
}

func (r *next) ints() []int {
	var out []int
	for range r.of(5) {
		out = append(out, r.int())
	}
	return out
}

func (r *next) bool() bool { return r.of(2) == 0 }

// layout is any layout, also one of no words.
func (r *next) layout() layout.Layout {
	return layout.New(api.Config{Slots: r.of(10), Threads: 1 + r.of(3), Fan: 4 + r.of(3), Limbo: 1 + r.of(3), Patience: 1 + r.of(3)})
}

func (r *next) node() api.Node {
	n := api.Node{Inner: r.bool(), Keys: r.words(), Vals: r.words(), Link: r.word()}
	if r.of(4) == 0 {
		return n
	}
	// One that may be.
	n.Keys, n.Vals = nil, nil
	for i := range uint64(r.of(5)) {
		n.Keys, n.Vals = append(n.Keys, i*uint64(1+r.of(3))), append(n.Vals, r.word())
	}
	if n.Inner {
		n.Vals = append(n.Vals, r.word())
	}
	return n
}

func (r *next) part() plan.Part { return plan.Part{Slot: r.int(), Version: r.word(), Node: r.node()} }

func (r *next) spot() walk.Spot {
	return walk.Spot{P: r.word(), PV: r.word(), PN: r.int(), I: r.int(), H: r.word(), V: r.word(), N: r.int(), Inner: r.bool(), Depth: r.int()}
}

func (r *next) lists() sweep.Lists {
	x := sweep.Lists{Kept: r.words()}
	for _, h := range r.words() {
		x.Limbo = append(x.Limbo, api.Record{Handle: h, Epoch: uint64(r.of(5))})
	}
	return x
}

func (r *next) anyOp() api.Op {
	return api.Op{Kind: r.of(6), Key: r.word(), Value: r.word(), High: r.word(), Most: r.int()}
}

func (r *next) result() api.Result {
	out := api.Result{Kind: r.of(6), Value: r.word()}
	for range r.of(3) {
		out.Pairs = append(out.Pairs, api.Pair{Key: r.word(), Value: r.word()})
	}
	return out
}

func (r *next) ask() api.Ask {
	return api.Ask{Kind: r.of(5), At: r.of(200) - 1, Old: r.word(), New: r.word()}
}

func (r *next) steps() []api.Step {
	var out []api.Step
	for range r.of(40) {
		s := api.Step{Thread: r.of(5), Ask: r.ask(), Got: uint64(r.of(2))}
		for range r.of(3) {
			s.Marks = append(s.Marks, api.Mark{Kind: r.of(15), A: r.word(), B: r.word()})
		}
		out = append(out, s)
	}
	return out
}

// events are those of a history that may be, or, at times, any.
func (r *next) events() []api.Event {
	var out []api.Event
	open := map[int]api.Event{}
	id, at := 0, 0
	for range r.of(14) {
		thread := r.of(3)
		at += r.of(3)
		if e, is := open[thread]; is {
			e.Kind, e.At, e.Result = api.Respond, at, r.result()
			out = append(out, e)
			delete(open, thread)
			continue
		}
		id++
		e := api.Event{Kind: api.Invoke, Thread: thread, Id: id, At: at, Op: api.Op{Kind: 1 + r.of(4), Key: uint64(r.of(4)), High: uint64(r.of(9)), Most: 1 + r.of(3)}}
		open[thread] = e
		out = append(out, e)
	}
	if len(out) > 0 && r.of(5) == 0 {
		out[r.of(len(out))] = api.Event{Kind: r.int(), Thread: r.int(), Id: r.int(), At: r.int(), Op: r.anyOp(), Result: r.result()}
	}
	return out
}

func (r *next) text() string {
	words := []string{"tick", "pick", "submit", "get", "put", "delete", "scan", "config", "slots=9 threads=2 fan=4 limbo=2 patience=3", "run", "finish", "steps", "check", "tree", "history", "pairs", "count", "0", "1", "5", "99", "-1", "01", "\n", "\n", "\n", "\n", "\xff"}
	out := ""
	for range r.of(60) {
		out += words[r.of(len(words))] + []string{" ", " ", "\n"}[r.of(3)]
	}
	return out
}

type automaton[T any] interface {
	Want() api.Ask
	Took(got uint64) T
}

// told tells an automaton any words, and looks at it.
func told[T automaton[T]](r *next, a T, look func(a T)) {
	for range 40 {
		look(a)
		got := r.word()
		if a.Want().Kind == api.AskCas && r.of(3) > 0 {
			got = 1
		}
		a = a.Took(got)
	}
}

const rounds = 4000

func TestAnyAutomata(t *testing.T) { // P1: no call panics, whatever an automaton is told
	r := next(88172645463325252)
	for range rounds {
		l := r.layout()
		told(&r, stack.NewPop(l), func(a stack.Pop) { a.Done(); a.Tries() })
		told(&r, stack.NewPush(l, r.int()), func(a stack.Push) { a.Done(); a.Tries() })
		told(&r, enter.New(l, r.int(), r.bool()), func(a enter.Enter) { a.Done() })
		told(&r, enter.NewLeave(l, r.int(), r.bool()), func(a enter.Leave) { a.Done() })
		told(&r, advance.New(l, r.int()), func(a advance.Advance) { a.Done(); a.Epoch(); a.Evicted(); a.Just() })
		told(&r, sweep.New(l, r.lists()), func(a sweep.Sweep) { a.Done(); a.Now(); a.Freed(); a.Just(); a.Slots() })
		told(&r, walk.New(l, r.int(), r.int(), r.word(), r.bool()), func(a walk.Walk) { a.Done(); a.Marks(); a.GoOn().Want(); a.Next(r.word()).Want(); a.Still() })
		told(&r, read.NewGet(l, r.int(), r.word(), r.bool()), func(a read.Get) { a.Done(); a.Marks() })
		told(&r, read.NewScan(l, r.int(), r.anyOp(), r.bool()), func(a read.Scan) { a.Done(); a.Marks(); a.Anew(r.bool()).Want() })
		told(&r, edit.New(l, r.spot(), edit.Change{Kind: r.of(5), I: r.int(), Key: r.word(), Value: r.word()}), func(a edit.Edit) { a.Done(); a.Marks(); a.Held() })
		told(&r, fix.New(l, r.spot(), r.of(6), r.ints()...), func(a fix.Fix) { a.Done(); a.Marks(); a.Held(); a.Victim() })
		told(&r, write.NewPut(l, r.int(), r.word(), r.word(), r.bool(), r.bool(), r.ints()...), func(a write.Write) { a.Done(); a.Marks(); a.Held(); a.Victim(); a.Spares() })
		told(&r, write.NewDelete(l, r.int(), r.word(), r.bool(), r.bool(), r.ints()...), func(a write.Write) { a.Done(); a.Marks(); a.Held(); a.Victim(); a.Spares() })
		told(&r, task.New(l, r.int(), r.anyOp(), r.lists()), func(a task.Task) {
			a.Done()
			a.Lists()
			a.Own()
			a.Held()
			a.Marks()
			a.Slow()
			a.Restarts()
		})
	}
}

func TestAnyNodes(t *testing.T) { // P1
	r := next(362436069)
	for range 10 * rounds {
		l, a, b, i := r.layout(), r.node(), r.node(), r.int()
		leaf.Find(a, r.word())
		leaf.Put(a, r.word(), 5)
		leaf.Drop(a, r.word())
		leaf.Split(a)
		leaf.Merge(a, b)
		leaf.FromLeft(a, b)
		leaf.FromRight(a, b)
		inner.Child(a, r.word())
		inner.Add(a, i, r.word(), 5)
		inner.Drop(a, i)
		inner.Split(a)
		inner.Merge(a, r.word(), b)
		inner.FromLeft(a, r.word(), b)
		inner.FromRight(a, r.word(), b)
		arena.Words(l, i, a)
		p, x, y, z := r.part(), r.part(), r.part(), r.part()
		plan.Set(l, p, i, 5)
		plan.Insert(l, p, i, r.word(), 5)
		plan.Remove(l, p, i)
		plan.Split(l, p, i, x, y)
		plan.Root(l, p, x, y, z)
		plan.Merge(l, p, i, x, y)
		plan.FromLeft(l, p, i, x, y)
		plan.FromRight(l, p, i, x, y)
		plan.Shrink(l, p, x)
	}
}

func TestAnyMemory(t *testing.T) { // P1
	r := next(521288629)
	for range rounds {
		m := memory.New(r.layout().Config())
		for i := range 200 {
			m.Write(api.Write{At: i, Word: r.word()})
		}
		arena.Tree(m)
		arena.Free(m)
		shape.Check(m)
		shape.Leaves(m)
		shape.Pairs(m)
		shape.Depth(m)
		dump.Tree(m)
		for slot := -1; slot < 12; slot++ {
			arena.Node(m, slot)
			dump.Node(m, slot)
		}
		m.Do(r.ask())
		m.Words(r.int(), r.int())
	}
}

func TestAnyHistory(t *testing.T) { // P1
	r := next(5783321)
	for range rounds {
		h, steps, ids := r.events(), r.steps(), r.ints()
		history.Calls(h)
		history.Open(h)
		history.Cut(h, r.int())
		order.Check(h, ids)
		order.After(h, ids)
		linear.Find(h)
		linear.Keys(h)
		for _, id := range append(ids, order.Effects(h, steps)...) {
			scans.Check(h, steps, id)
		}
		scans.States(h, steps)
		scans.First(h, steps)
		audit.Check(r.layout().Config(), steps)
		dump.Events(h...)
		dump.Steps(steps...)
	}
}

func TestAnyScript(t *testing.T) { // P1
	r := next(6615241)
	for range rounds {
		m := machine.New(r.layout().Config())
		for range 60 {
			m.Do(api.Entry{Kind: r.of(5), Thread: r.int(), Op: r.anyOp()})
		}
		census.Of(m).Place(r.int())
		text := r.text()
		console.Run(text)
		script.Parse(text)
		script.Decode([]byte(text), r.int())
		script.Line(api.Entry{Kind: r.int(), Thread: r.int(), Op: r.anyOp()})
	}
	for range 30 {
		explore.Explore(r.layout().Config(), []api.Op{r.anyOp(), {Kind: api.Put}}, r.anyOp(), r.anyOp(), 1+r.of(40))
		explore.Run(r.layout().Config(), []api.Op{r.anyOp()}, r.anyOp(), r.anyOp(), r.of(50)-1, r.of(50)-1)
	}
}
