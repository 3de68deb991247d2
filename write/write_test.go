package write_test

import (
	"math"
	"slices"
	"testing"

	"gleaning/api"
	"gleaning/arena"
	"gleaning/edit"
	"gleaning/fix"
	"gleaning/handle"
	"gleaning/hword"
	"gleaning/layout"
	"gleaning/memory"
	"gleaning/model"
	"gleaning/seek"
	"gleaning/stack"
	"gleaning/vword"
	"gleaning/walk"
	"gleaning/write"
)

var (
	conf = api.Config{Slots: 20, Threads: 2, Fan: 4, Limbo: 1, Patience: 1}
	l    = layout.New(conf)
)

// h is the handle of a slot, of the generation that is ten more, and v the version word.
func h(slot int) uint64 { return handle.Make(uint64(slot+10), slot) }

func v(slot int) uint64 { return vword.Make(uint64(slot+10), 5, false, false) }

type keys = []uint64

func in(keys []uint64, vals ...uint64) api.Node { return api.Node{Inner: true, Keys: keys, Vals: vals} }

// of is a leaf whose values are ten times its keys.
func of(link uint64, keys ...uint64) api.Node {
	n := api.Node{Link: link}
	for _, k := range keys {
		n.Keys = append(n.Keys, k)
		n.Vals = append(n.Vals, 10*k)
	}
	return n
}

// grown is a memory with a tree of these nodes, by slots, whose root is in the slot 1, and with a list of free slots.
func grown(nodes map[int]api.Node, free ...int) *memory.Memory {
	m := memory.New(conf)
	m.Write(arena.Words(l, 0, in(nil, h(1)))...)
	for slot := 1; slot <= conf.Slots; slot++ {
		m.Write(api.Write{At: l.Version(slot), Word: vword.Kill(v(slot))})
	}
	for slot, n := range nodes {
		m.Write(arena.Words(l, slot, n)...)
		m.Write(api.Write{At: l.Version(slot), Word: v(slot)})
	}
	next := 0
	for _, slot := range slices.Backward(free) {
		m.Write(api.Write{At: l.Link(slot), Word: uint64(next)})
		next = slot
	}
	m.Write(api.Write{At: 2, Word: hword.Make(77, next)})
	return m
}

// turn is what another thread does ahead of an access.
type turn struct {
	ahead int
	write api.Write
}

// tape is a memory, and what was done to it.
type tape struct {
	m     *memory.Memory
	by    turn
	asks  []api.Ask
	marks [][]api.Mark
}

// do does an access, and tells what it tells.
func (t *tape) do(a api.Ask) uint64 {
	if len(t.asks) == t.by.ahead {
		t.m.Write(t.by.write)
	}
	t.asks = append(t.asks, a)
	t.marks = append(t.marks, nil)
	return t.m.Do(a)
}

// means sets the marks of the last access.
func (t *tape) means(marks ...api.Mark) { t.marks[len(t.marks)-1] = marks }

type automaton[T any] interface {
	Want() api.Ask
	Took(got uint64) T
}

// run runs an automaton to its end; marks are told, if it has any.
func run[T automaton[T]](t *tape, a T, marks func(a T) []api.Mark) T {
	for len(t.asks) < 500 && a.Want() != (api.Ask{}) {
		a = a.Took(t.do(a.Want()))
		if marks != nil {
			t.means(marks(a)...)
		}
	}
	return a
}

// args are an attempt's.
type args struct {
	puts, slow, plain bool
	key               uint64
	spares            []int
}

// end is what an attempt comes to.
type end struct {
	outcome int
	result  api.Result
	spares  []int
	victim  uint64
}

func (x args) attempt() write.Write {
	if x.puts {
		return write.NewPut(l, 1, x.key, 99, x.slow, x.plain, x.spares...)
	}
	return write.NewDelete(l, 1, x.key, x.slow, x.plain, x.spares...)
}

// byWords does an attempt as the chapter's words say, one thing after the other.
func byWords(t *tape, x args) end {
	e := end{spares: slices.Clone(x.spares)}
	mode := walk.Thin
	if x.puts {
		mode = walk.Grow
	} else if x.plain {
		mode = walk.Read
	}
	w := run(t, walk.New(l, 1, mode, x.key, x.slow), walk.Walk.Marks)
	o, _ := w.Done()
	for ; o == walk.Stop && x.puts && x.plain; o, _ = w.Done() {
		w = run(t, w.GoOn(), walk.Walk.Marks)
	}
	if o == walk.Restart {
		e.outcome = write.Restart
		return e
	}
	if o == walk.Stop {
		switch {
		case x.puts:
			return e.room(t, w.Spot)
		case w.P == 0:
			return e.fix(t, w.Spot, fix.Shrink)
		}
		return e.fix(t, w.Spot, fix.Thin)
	}
	slot := handle.Slot(w.H)
	key := func(i int) uint64 { return t.do(api.Ask{Kind: api.AskLoad, At: l.Key(slot, i)}) }
	s := seek.New(seek.First, w.N, x.key)
	for s.Want() >= 0 {
		s = s.Took(key(s.Want()))
	}
	found := s.At() < w.N && key(s.At()) == x.key
	switch {
	case found && x.puts:
		return e.edit(t, w.Spot, edit.Change{Kind: edit.Set, I: s.At(), Key: x.key, Value: 99})
	case x.puts && w.N < 4:
		return e.edit(t, w.Spot, edit.Change{Kind: edit.Insert, I: s.At(), Key: x.key, Value: 99})
	case x.puts && x.plain:
		return e.check(t, w.Spot, api.Full)
	case x.puts:
		return e.room(t, w.Spot)
	case !found:
		return e.check(t, w.Spot, api.Nothing)
	case !x.plain && w.P != 0 && w.N <= 2 && w.PN >= 2:
		return e.fix(t, w.Spot, fix.Thin)
	}
	return e.edit(t, w.Spot, edit.Change{Kind: edit.Remove, I: s.At(), Key: x.key})
}

func (e end) check(t *tape, s walk.Spot, kind int) end {
	if t.do(api.Ask{Kind: api.AskLoad, At: l.Version(handle.Slot(s.H))}) != s.V {
		t.means(api.Mark{Kind: api.MarkMiss, A: s.H})
		e.outcome = write.Restart
		return e
	}
	t.means(api.Mark{Kind: api.MarkCheck, A: s.H}, api.Mark{Kind: api.MarkEffect})
	e.outcome, e.result = write.Over, api.Result{Kind: kind}
	return e
}

func (e end) edit(t *tape, s walk.Spot, x edit.Change) end {
	o, old := run(t, edit.New(l, s, x), edit.Edit.Marks).Done()
	if e.outcome = write.Restart; o == edit.Over {
		e.outcome, e.result = write.Over, api.Result{Kind: api.Found, Value: old}
		if x.Kind == edit.Insert {
			e.result.Kind = api.Nothing
		}
	}
	return e
}

func (e end) fix(t *tape, s walk.Spot, kind int) end {
	f := run(t, fix.New(l, s, kind, e.spares...), fix.Fix.Marks)
	if e.outcome = write.Restart; f.Done() == fix.Over {
		e.outcome, e.spares, e.victim = write.Again, e.spares[fix.Need(kind):], f.Victim()
	}
	return e
}

func (e end) room(t *tape, s walk.Spot) end {
	kind := fix.Split
	if s.P == 0 {
		kind = fix.Root
	}
	for len(e.spares) < fix.Need(kind) {
		slot, _ := run(t, stack.NewPop(l), nil).Done()
		if slot == 0 {
			t.means(api.Mark{Kind: api.MarkEmpty})
			e.outcome = write.Empty
			return e
		}
		t.means(api.Mark{Kind: api.MarkAlloc, A: uint64(slot)})
		e.spares = append(e.spares, slot)
	}
	return e.fix(t, s, kind)
}

// holds runs an attempt, and holds it to the chapter's words.
func holds(t *testing.T, m *memory.Memory, x args, by turn) (end, int) {
	t.Helper()
	want := &tape{m: m.Copy(), by: by}
	e := byWords(want, x)
	got := &tape{m: m.Copy(), by: by}
	given := slices.Clone(x.spares)
	w := args{x.puts, x.slow, x.plain, x.key, given}.attempt()
	for i := range given {
		given[i] = 19
	}
	for len(got.asks) < 500 {
		o, r := w.Done()
		if o != 0 {
			break
		}
		if !model.Same(r, api.Result{}) {
			t.Errorf("%+v: a result ahead of its end", x)
		}
		a := w.Want()
		told := got.do(a)
		w.Took(told + 1) // it is a value: this one counts for nothing
		w = w.Took(told)
		got.means(w.Marks()...)
		if s := w.Spares(); len(s) > 0 {
			s[0] = 77
		}
	}
	if !slices.Equal(got.asks, want.asks) {
		t.Fatalf("%+v, %+v: its accesses are\n%v, not\n%v", x, by, got.asks, want.asks)
	}
	for i := range want.marks {
		if !slices.Equal(got.marks[i], want.marks[i]) {
			t.Errorf("%+v, %+v: access %d means %v, not %v", x, by, i, got.marks[i], want.marks[i])
		}
	}
	o, r := w.Done()
	if o != e.outcome || !model.Same(r, e.result) || !slices.Equal(w.Spares(), e.spares) || w.Victim() != e.victim || len(w.Held()) != 0 || w.Want() != (api.Ask{}) {
		t.Errorf("%+v, %+v: it comes to %d, %v, spares %v, victim %x, holds %v, not %+v", x, by, o, r, w.Spares(), w.Victim(), w.Held(), e)
	}
	if w = w.Took(1); len(w.Marks()) != 0 {
		t.Errorf("%+v: there are marks behind its end", x)
	}
	return e, len(want.asks)
}

// trees are some, by what they are.
var trees = map[string]map[int]api.Node{
	"empty":       {1: of(0)},
	"a leaf":      {1: of(0, 10, 20)},
	"a full leaf": {1: of(0, 10, 20, 30, 40)},
	"two leaves":  {1: in(keys{30}, h(2), h(3)), 2: of(h(3), 10, 20), 3: of(0, 30, 40, 50)},
	"full leaves": {1: in(keys{30}, h(2), h(3)), 2: of(h(3), 5, 10, 20, 25), 3: of(0, 30, 40, 50, 60)},
	"a full root": {1: in(keys{30, 50, 70}, h(2), h(3), h(4), h(5)), 2: of(h(3), 5, 10, 20, 25), 3: of(h(4), 30, 40), 4: of(h(5), 50), 5: of(0, 70, 80, 90)},
	"a thin root": {1: in(nil, h(2)), 2: of(0, 10, 20, 30)},
	"three":       {1: in(keys{50}, h(2), h(3)), 2: in(keys{20, 30}, h(4), h(5), h(6)), 3: in(keys{70, 90, 100}, h(7), h(8), h(9), h(10)), 4: of(h(5), 5, 10), 5: of(h(6), 20), 6: of(h(7), 30, 40, 45), 7: of(h(8), 50, 55, 60, 65), 8: of(h(9), 70, 80), 9: of(h(10), 90), 10: of(0, 100)},
	"a thin node": {1: in(keys{50}, h(2), h(3)), 2: in(keys{20}, h(4), h(5)), 3: in(keys{70}, h(7), h(8)), 4: of(h(5), 5, 10), 5: of(h(7), 20), 7: of(h(8), 50, 55, 60, 65), 8: of(0, 70, 80)},
	"one below":   {1: in(keys{50}, h(2), h(3)), 2: in(nil, h(4)), 3: in(keys{70, 90}, h(7), h(8), h(9)), 4: of(h(7), 5, 10), 7: of(h(8), 50, 55, 60, 65), 8: of(h(9), 70, 80), 9: of(0, 90)},
}

// all hands on all kinds of attempts of all trees.
func all(do func(name string, m *memory.Memory, x args)) {
	for name, nodes := range trees {
		for _, free := range [][]int{nil, {15}, {15, 16, 17}} {
			for _, key := range []uint64{0, 10, 15, 20, 30, 40, 55, 57, 100, 200} {
				for i := range 8 {
					for _, spares := range [][]int{nil, {11}, {11, 12, 13}} {
						do(name, grown(nodes, free...), args{i&1 == 0, i&2 == 0, i&4 == 0, key, spares})
					}
				}
			}
		}
	}
}

func TestNumbers(t *testing.T) {
	if write.Over != 1 || write.Again != 2 || write.Restart != 3 || write.Empty != 4 {
		t.Error("the outcomes' numbers")
	}
}

func TestAttempts(t *testing.T) { // 25.1 to 25.5
	seen := map[int]int{}
	results := map[int]int{}
	all(func(name string, m *memory.Memory, x args) {
		e, _ := holds(t, m, x, turn{ahead: -1})
		seen[e.outcome]++
		results[e.result.Kind]++
	})
	for _, o := range []int{write.Over, write.Again, write.Empty} {
		if seen[o] == 0 {
			t.Errorf("none comes to %d", o)
		}
	}
	if seen[write.Restart] != 0 || results[api.Full] == 0 || results[api.Found] == 0 || results[api.Nothing] == 0 {
		t.Error("outcomes", seen, "results", results)
	}
}

func TestDisturbed(t *testing.T) { // 25.1, 25.5: others turn a word ahead of any access
	seen := map[int]int{}
	for _, nodes := range trees {
		for _, x := range []args{{true, false, false, 15, nil}, {true, false, true, 57, nil}, {true, true, false, 57, []int{11}}, {false, false, false, 20, nil}, {false, true, false, 5, nil}, {false, false, true, 55, nil}, {false, false, false, 95, nil}} {
			m := grown(nodes, 15, 16, 17)
			_, many := holds(t, m, x, turn{ahead: -1})
			for ahead := range many {
				for slot := range 11 {
					was := m.Word(l.Version(slot))
					for _, w := range []uint64{vword.Bump(was), vword.Kill(was), vword.Undo(vword.Renew(was))} {
						e, _ := holds(t, m, x, turn{ahead, api.Write{At: l.Version(slot), Word: w}})
						seen[e.outcome]++
					}
				}
				holds(t, m, x, turn{ahead, api.Write{At: 2, Word: hword.Make(99, 17)}})
			}
		}
	}
	if seen[write.Restart] == 0 || seen[write.Over] == 0 || seen[write.Again] == 0 {
		t.Error("outcomes", seen)
	}
}

func TestOddSpares(t *testing.T) { // a fix that cannot begin: Restart at once
	for _, spares := range [][]int{{0}, {-1}, {99}, {1}, {2}, {11, 11}} {
		m := grown(trees["full leaves"], 15)
		e, _ := holds(t, m, args{true, false, false, 7, spares}, turn{ahead: -1})
		if want := map[bool]int{true: write.Again, false: write.Restart}[len(spares) == 2]; e.outcome != want {
			t.Errorf("spares %v: %d", spares, e.outcome)
		}
	}
}

func TestHeld(t *testing.T) { // 25.5
	m := grown(trees["full leaves"], 15)
	w := write.NewPut(l, 0, 7, 99, false, false)
	most, edits := []int(nil), false
	for o, _ := w.Done(); o == 0; o, _ = w.Done() {
		if most = w.Held(); len(most) == 2 && !slices.Equal(most, []int{1, 2}) {
			t.Error("it holds", most)
		}
		edits = edits || len(most) == 2
		w = w.Took(m.Do(w.Want()))
	}
	if !edits {
		t.Error("its fix holds nothing")
	}
	m = grown(trees["two leaves"])
	w = write.NewPut(l, 0, 7, 99, false, false)
	edits = false
	for o, _ := w.Done(); o == 0; o, _ = w.Done() {
		if most = w.Held(); len(most) > 0 && !slices.Equal(most, []int{2}) {
			t.Error("it holds", most)
		}
		edits = edits || len(most) == 1
		w = w.Took(m.Do(w.Want()))
	}
	if !edits {
		t.Error("its edit holds nothing")
	}
}

func TestVictim(t *testing.T) { // 25.5
	m := grown(trees["two leaves"])
	m.Write(arena.Words(l, 3, of(0, 30))...)
	w := write.NewDelete(l, 0, 10, false, false)
	last := uint64(0)
	for o, _ := w.Done(); o == 0; o, _ = w.Done() {
		if last != 0 && w.Victim() != last {
			t.Error("the victim changes")
		}
		last = w.Victim()
		w = w.Took(m.Do(w.Want()))
	}
	if o, _ := w.Done(); o != write.Again || w.Victim() != h(3) || last != h(3) {
		t.Errorf("it comes to %d, its victim is %x", o, w.Victim())
	}
}

func TestNobodyMade(t *testing.T) {
	attempts := []write.Write{{}, write.NewPut(layout.Layout{}, 0, 5, 6, false, false), write.NewDelete(layout.Layout{}, 0, 5, false, false)}
	for _, thread := range []int{-1, 2, math.MinInt, math.MaxInt} {
		attempts = append(attempts, write.NewPut(l, thread, 5, 6, true, true), write.NewDelete(l, thread, 5, true, true))
	}
	for _, w := range attempts {
		for range 2 {
			if o, r := w.Done(); o != write.Restart || !model.Same(r, api.Result{}) || w.Want() != (api.Ask{}) || len(w.Held()) != 0 || len(w.Marks()) != 0 || w.Victim() != 0 || len(w.Spares()) != 0 {
				t.Errorf("%d, %v", o, r)
			}
			w = w.Took(1)
		}
	}
}

func TestExamples(t *testing.T) {
	for want, w := range map[int]write.Write{10: write.NewPut(l, 0, 5, 50, false, false), 6: write.NewDelete(l, 0, 7, false, false)} {
		m, steps := arena.New(conf), 0
		for o, _ := w.Done(); o == 0; o, _ = w.Done() {
			w = w.Took(m.Do(w.Want()))
			steps++
		}
		if o, r := w.Done(); o != write.Over || r.Kind != api.Nothing || steps != want {
			t.Error("an example:", o, r, steps)
		}
	}
}
