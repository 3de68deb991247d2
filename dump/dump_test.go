package dump_test

import (
	"math"
	"strings"
	"testing"

	"gleaning/api"
	"gleaning/arena"
	"gleaning/dump"
	"gleaning/handle"
	"gleaning/layout"
	"gleaning/machine"
	"gleaning/memory"
	"gleaning/vword"
)

var conf = api.Config{Slots: 6, Threads: 2, Fan: 4, Limbo: 1, Patience: 1}

// h is the handle of a slot, of the generation that is ten more, and v the version word.
func h(slot int) uint64 { return handle.Make(uint64(slot+10), slot) }

func v(slot int) uint64 { return vword.Make(uint64(slot+10), 5, false, false) }

// grown is a memory with a tree.
func grown() *memory.Memory {
	m := memory.New(conf)
	m.Write(arena.Words(m.Layout, 0, api.Node{Inner: true, Vals: []uint64{h(1)}})...)
	for slot, n := range map[int]api.Node{
		1: {Inner: true, Keys: []uint64{30, 50}, Vals: []uint64{h(3), h(2), h(5)}, Link: 99},
		3: {Keys: []uint64{10, 20}, Vals: []uint64{0, math.MaxUint64}, Link: h(2)},
		2: {Link: h(5)},
		5: {Keys: []uint64{50}, Vals: []uint64{5}},
	} {
		m.Write(arena.Words(m.Layout, slot, n)...)
		m.Write(api.Write{At: m.Version(slot), Word: v(slot)})
	}
	return m
}

func says(t *testing.T, name, got, want string) {
	t.Helper()
	if got != want {
		t.Errorf("%s: %q, not %q", name, got, want)
	}
}

func TestNode(t *testing.T) { // 38.1
	m := grown()
	says(t, "anchor", dump.Node(m, 0), "anchor inner 1:11")
	says(t, "inner", dump.Node(m, 1), "1:11 inner 3:13 30 2:12 50 5:15")
	says(t, "leaf", dump.Node(m, 3), "3:13 leaf 10=0 20=18446744073709551615 next 2:12")
	says(t, "without entries", dump.Node(m, 2), "2:12 leaf next 5:15")
	says(t, "the last leaf", dump.Node(m, 5), "5:15 leaf 50=5")
	says(t, "a slot of nothing", dump.Node(m, 4), "4:0 leaf")
	m.Write(api.Write{At: m.Version(3), Word: vword.Lock(v(3))}, api.Write{At: m.Version(2), Word: vword.Kill(v(2))}, api.Write{At: m.Version(1), Word: vword.Lock(vword.Kill(v(1)))}, api.Write{At: m.Version(0), Word: vword.Make(7, 7, true, true)})
	says(t, "locked", dump.Node(m, 3), "3:13 leaf locked 10=0 20=18446744073709551615 next 2:12")
	says(t, "dead", dump.Node(m, 2), "2:12 leaf dead next 5:15")
	says(t, "both", dump.Node(m, 1), "1:11 inner locked dead 3:13 30 2:12 50 5:15")
	says(t, "the anchor", dump.Node(m, 0), "anchor inner locked dead 1:11")
	m.Write(api.Write{At: m.Shape(1), Word: layout.Pack(true, 0)}, api.Write{At: m.Value(0, 0), Word: 0})
	says(t, "no children", dump.Node(m, 1), "1:11 inner locked dead")
	says(t, "no root", dump.Node(m, 0), "anchor inner locked dead 0:0")
	for _, slot := range []int{-1, 7, math.MinInt, math.MaxInt} {
		says(t, "no slot", dump.Node(m, slot), "")
	}
}

func TestTree(t *testing.T) { // 38.1
	says(t, "a tree", dump.Tree(grown()), "anchor inner 1:11\n1:11 inner 3:13 30 2:12 50 5:15\n3:13 leaf 10=0 20=18446744073709551615 next 2:12\n2:12 leaf next 5:15\n5:15 leaf 50=5\n")
	for _, m := range []*memory.Memory{nil, {}} {
		says(t, "no memory", dump.Tree(m), "")
		says(t, "no memory", dump.Node(m, 0), "")
	}
}

func TestResult(t *testing.T) { // 38.2
	for want, r := range map[string]api.Result{
		"nothing": {Kind: api.Nothing, Value: 7}, "found 0": {Kind: api.Found}, "found 18446744073709551615": {Kind: api.Found, Value: math.MaxUint64}, "full": {Kind: api.Full, Value: 7}, "listed": {Kind: api.Listed, Value: 7}, "listed 0=1 5=6": {Kind: api.Listed, Pairs: []api.Pair{{Key: 0, Value: 1}, {Key: 5, Value: 6}}}, "none": {},
	} {
		says(t, "a result", dump.Result(r), want)
	}
	for _, kind := range []int{-1, 5, math.MaxInt} {
		says(t, "no kind", dump.Result(api.Result{Kind: kind, Value: 5}), "none")
	}
}

func TestEvent(t *testing.T) { // 38.2, 38.4
	put := api.Op{Kind: api.Put, Key: 5, Value: 50}
	events := []api.Event{
		{Kind: api.Invoke, Thread: 1, Id: 7, At: 0, Op: put, Result: api.Result{Kind: api.Found}},
		{Kind: api.Respond, Thread: 1, Id: 7, At: 14, Op: put, Result: api.Result{Kind: api.Found, Value: 3}},
		{Kind: api.Respond, Thread: -1, Id: -2, At: -3, Op: api.Op{Kind: api.Scan, Key: 1, High: 9, Most: 3}, Result: api.Result{Kind: api.Listed, Pairs: []api.Pair{{Key: 5, Value: 6}}}},
		{Kind: api.Invoke, Id: 1, Op: api.Op{Kind: api.Get, Value: 1}}, {Kind: api.Respond, Id: 1}, {Kind: 3, Id: 1, Op: put, Result: api.Result{Kind: api.Full}}, {},
	}
	want := []string{"invoke 7 thread 1 at 0 put 5 50", "respond 7 thread 1 at 14 put 5 50 found 3", "respond -2 thread -1 at -3 scan 1 9 3 listed 5=6", "invoke 1 thread 0 at 0 none", "respond 1 thread 0 at 0 none none", "none 1 thread 0 at 0 put 5 50", "none 0 thread 0 at 0 none"}
	for i, e := range events {
		says(t, "an event", dump.Event(e), want[i])
	}
	says(t, "events", dump.Events(events...), strings.Join(want, "\n")+"\n")
	says(t, "no events", dump.Events(), "")
}

func TestEventWithoutWords(t *testing.T) { // 38.2: where the operation has no words, none stands
	full := api.Result{Kind: api.Full}
	wrong := []api.Op{
		{}, {Key: 5}, {Kind: -1, Key: 5}, {Kind: 5, Key: 5}, {Kind: math.MinInt}, {Kind: math.MaxInt},
		{Kind: api.Get, Value: 1}, {Kind: api.Get, Most: 1}, {Kind: api.Put, High: 1}, {Kind: api.Delete, Value: 1},
		{Kind: api.Scan, High: 9}, {Kind: api.Scan, High: 9, Most: -1}, {Kind: api.Scan, High: 9, Most: api.MaxPairs + 1}, {Kind: api.Scan, Key: 1, High: 9, Most: 1, Value: 1},
	}
	for _, o := range wrong {
		says(t, "an Invoke", dump.Event(api.Event{Kind: api.Invoke, Id: 2, Thread: 1, At: 7, Op: o, Result: full}), "invoke 2 thread 1 at 7 none")
		says(t, "a Respond", dump.Event(api.Event{Kind: api.Respond, Id: 2, Thread: 1, At: 7, Op: o, Result: full}), "respond 2 thread 1 at 7 none full")
		says(t, "no kind", dump.Event(api.Event{Kind: 3, Id: 2, Thread: 1, At: 7, Op: o, Result: full}), "none 2 thread 1 at 7 none")
		says(t, "events", dump.Events(api.Event{Op: o}, api.Event{Kind: api.Respond, Op: o}), "none 0 thread 0 at 0 none\nrespond 0 thread 0 at 0 none none\n")
	}
}

func TestMark(t *testing.T) { // 38.3
	names := []string{"begin", "check", "miss", "firm", "again", "restart", "alloc", "retire", "free", "advance", "evict", "effect", "empty"}
	for i, name := range names {
		says(t, "alone", dump.Mark(api.Mark{Kind: i + 1}), name)
		says(t, "with A", dump.Mark(api.Mark{Kind: i + 1, A: 5}), name+":5")
		says(t, "with B", dump.Mark(api.Mark{Kind: i + 1, B: math.MaxUint64}), name+":0:18446744073709551615")
		says(t, "with both", dump.Mark(api.Mark{Kind: i + 1, A: 5, B: 6}), name+":5:6")
	}
	for _, kind := range []int{-1, 0, 14, math.MinInt, math.MaxInt} {
		says(t, "no kind", dump.Mark(api.Mark{Kind: kind, B: 6}), "none:0:6")
	}
}

func TestStep(t *testing.T) { // 38.3, 38.4
	steps := []api.Step{
		{Thread: 1, Ask: api.Ask{Kind: api.AskLoad, At: 7, Old: 8, New: 9}, Got: 5},
		{Thread: 0, Ask: api.Ask{Kind: api.AskStore, At: 7, Old: 8, New: 9}},
		{Thread: 2, Ask: api.Ask{Kind: api.AskCas, At: 7, Old: 8, New: 9}, Got: 1, Marks: []api.Mark{{Kind: api.MarkAdvance, A: 6}, {Kind: api.MarkRetire, A: 3, B: 4}}},
		{Thread: -1, Ask: api.Ask{Kind: 4, At: -7, Old: 8, New: 9}, Got: math.MaxUint64, Marks: []api.Mark{{}}}, {},
	}
	want := []string{"1 load 7 = 5", "0 store 7 9 = 0", "2 cas 7 8 9 = 1 advance:6 retire:3:4", "-1 none -7 = 18446744073709551615 none", "0 none 0 = 0"}
	for i, s := range steps {
		says(t, "a step", dump.Step(s), want[i])
	}
	says(t, "steps", dump.Steps(steps...), strings.Join(want, "\n")+"\n")
	says(t, "no steps", dump.Steps(), "")
}

func TestOfMachine(t *testing.T) { // 38.1 to 38.4, of what a machine tells
	m := machine.New(conf)
	m.Do(api.Entry{Kind: api.Submit, Thread: 1, Op: api.Op{Kind: api.Put, Key: 5, Value: 50}})
	for m.Do(api.Entry{Kind: api.Pick, Thread: 1}) {
	}
	says(t, "the tree", dump.Tree(m.Memory()), "anchor inner 1:1\n1:1 leaf 5=50\n")
	says(t, "the history", dump.Events(m.History()...), "invoke 1 thread 1 at 0 put 5 50\nrespond 1 thread 1 at 14 put 5 50 nothing\n")
	says(t, "the steps", dump.Steps(m.Steps()...), `1 load 4 = 0
1 load 0 = 0
1 load 1 = 0
1 store 4 1 = 0 again
1 load 9 = 0 begin
1 load 16 = 65537
1 load 20 = 1099511627776 begin:65537:1099511627776
1 load 9 = 0 check
1 load 21 = 0
1 cas 20 1099511627776 1099511627777 = 1
1 store 23 5 = 0
1 store 27 50 = 0
1 store 21 2 = 0
1 store 20 1099511627780 = 0 effect
1 store 4 0 = 0
`)
}

func TestExamples(t *testing.T) {
	says(t, "an example", dump.Tree(arena.New(conf)), "anchor inner 1:1\n1:1 leaf\n")
	says(t, "an example", dump.Step(api.Step{Thread: 2, Ask: api.Ask{Kind: api.AskLoad}, Got: 5, Marks: []api.Mark{{Kind: api.MarkAgain}}}), "2 load 0 = 5 again")
}
