// Package whole tests the promises V1 to V8: those that hold of the whole machine, whatever a script lets its threads do.
package whole

import (
	"maps"
	"math"
	"slices"
	"testing"

	"gleaning/api"
	"gleaning/arena"
	"gleaning/audit"
	"gleaning/aword"
	"gleaning/bound"
	"gleaning/census"
	"gleaning/history"
	"gleaning/linear"
	"gleaning/machine"
	"gleaning/order"
	"gleaning/scans"
	"gleaning/script"
	"gleaning/shape"
)

// next is a number that nobody can tell.
type next uint64

func (r *next) of(n int) int {
	x := uint64(*r)
	x ^= x << 13
	x ^= x >> 7
	x ^= x << 17
	*r = next(x)
	return int(x >> 20 % uint64(n))
}

// config is that of a small machine, so that slots are soon used anew.
func (r *next) config() api.Config {
	return api.Config{Slots: 1 + r.of(30), Threads: 1 + r.of(4), Fan: 4 + r.of(2), Limbo: 1 + r.of(2), Patience: 1 + r.of(4)}
}

// op is any operation; for a while more is put than is deleted.
func (r *next) op(at int) api.Op {
	o := api.Op{Kind: 2 + at/300%2, Key: uint64(r.of(24)), Value: uint64(r.of(9))}
	switch r.of(9) {
	case 0:
		o = api.Op{Kind: api.Get, Key: o.Key}
	case 1:
		o = api.Op{Kind: api.Scan, Key: o.Key, High: o.Key + uint64(r.of(20)), Most: 1 + r.of(12)}
	case 2:
		o.Kind = 2 + r.of(2)
	}
	return o
}

// plays plays a script of so many picks on a machine: threads are picked by bursts, and for a while one is left where it stands. Behind each entry it is looked at.
func plays(r *next, m *machine.Machine, picks int, look func(e api.Entry)) {
	threads := m.Config().Threads
	thread, burst := 0, 0
	do := func(e api.Entry) {
		if m.Do(e) {
			look(e)
		}
	}
	for at := range picks {
		if burst--; burst < 0 {
			thread, burst = r.of(threads), r.of(1+r.of(60))
			if thread == at/400%threads {
				thread = (thread + 1) % threads
			}
		}
		if m.Queue(thread) == 0 {
			do(api.Entry{Kind: api.Submit, Thread: thread, Op: r.op(at)})
		}
		if r.of(10) == 0 {
			do(api.Entry{Kind: api.Tick})
		}
		do(api.Entry{Kind: api.Pick, Thread: thread})
	}
}

// played is a machine behind a script, by its seed.
func played(seed, picks int) *machine.Machine {
	r := next(seed*7919 + 1)
	m := machine.New(r.config())
	plays(&r, m, picks, func(api.Entry) {})
	return m
}

// effects are the calls whose effects a history's steps tell of, but those Puts that are Full, and not over yet: they do nothing, but their results do not tell so yet.
func effects(h []api.Event, steps []api.Step) []int {
	return order.Effects(h, settled(h, steps))
}

// settled are steps without the effects of such Puts: those that come with a load.
func settled(h []api.Event, steps []api.Step) []api.Step {
	out := slices.Clone(steps)
	for _, c := range history.All(h) {
		for at := c.From; !c.Over && c.Op.Kind == api.Put && at < len(out); at++ {
			if out[at].Thread == c.Thread && out[at].Ask.Kind == api.AskLoad {
				out[at].Marks = nil
			}
		}
	}
	return out
}

// seeds are those of the scripts that most tests play.
const seeds = 120

func TestOneAfterTheOther(t *testing.T) { // V1
	many := 0
	for seed := range seeds {
		m := played(seed, 3000)
		h, steps := m.History(), m.Steps()
		if !history.Right(h) {
			t.Fatal(seed, "is no history")
		}
		for at := len(steps); at > 0; at -= 97 {
			ids := effects(history.Cut(h, at), steps[:at])
			many += len(ids)
			if place, e := order.Check(history.Cut(h, at), ids); e != api.OK {
				t.Fatalf("seed %d, %d steps: at %d: %s", seed, at, place, order.Why(e))
			}
		}
	}
	if many == 0 {
		t.Error("nothing had an effect")
	}
}

func TestAnOrderIsFound(t *testing.T) { // V1: told by the results alone
	for seed := range 400 {
		r := next(seed*104729 + 1)
		m := machine.New(api.Config{Slots: 1 + r.of(6), Threads: 3, Fan: 4, Limbo: 1, Patience: 2})
		for thread := range 3 {
			for range 4 {
				m.Do(api.Entry{Kind: api.Submit, Thread: thread, Op: api.Op{Kind: 1 + r.of(3), Key: uint64(r.of(6)), Value: uint64(r.of(9))}})
			}
		}
		for range r.of(700) {
			m.Do(api.Entry{Kind: api.Pick, Thread: r.of(3)})
		}
		if list, e := linear.Find(m.History()); e != api.OK {
			t.Fatalf("seed %d: %v, %d", seed, list, e)
		}
	}
}

func TestScans(t *testing.T) { // V2
	over := 0
	for seed := range seeds {
		m := played(seed, 3000)
		h := m.History()
		if id, e := scans.First(h, settled(h, m.Steps())); e != api.OK {
			t.Fatalf("seed %d: the Scan %d: %d", seed, id, e)
		}
		for _, c := range history.All(h) {
			if c.Over && c.Op.Kind == api.Scan && len(c.Result.Pairs) > 0 {
				over++
			}
		}
	}
	if over < 100 {
		t.Error("only so many Scans told something:", over)
	}
}

func TestUsedAnew(t *testing.T) { // V3
	marks := map[int]int{}
	for seed := range seeds {
		m := played(seed, 3000)
		steps := m.Steps()
		if got := audit.Check(m.Config(), steps); len(got) != 0 {
			t.Fatalf("seed %d: %s at %d", seed, audit.Name(got[0].Kind), got[0].At)
		}
		for _, s := range steps {
			for _, x := range s.Marks {
				marks[x.Kind]++
			}
		}
	}
	for kind := api.MarkBegin; kind <= api.MarkEmpty; kind++ {
		if marks[kind] < 5 {
			t.Errorf("only %d marks of the kind %d", marks[kind], kind)
		}
	}
}

func TestEachSlot(t *testing.T) { // V4
	places := map[int]int{}
	for seed := range seeds / 3 {
		r := next(seed*7919 + 1)
		c := r.config()
		m := machine.New(c)
		plays(&r, m, 2500, func(api.Entry) {
			told := census.Of(m)
			if !told.Right(c.Slots) || !census.Room(m) {
				t.Fatalf("seed %d: %+v", seed, told)
			}
			for thread := range c.Threads {
				if kept := m.Lists(thread).Kept; !m.Busy(thread) && len(kept) > api.Hazards*c.Threads {
					t.Fatalf("seed %d: thread %d keeps %v", seed, thread, kept)
				}
			}
			for slot := 1; slot <= c.Slots; slot++ {
				places[told.Place(slot)]++
			}
		})
	}
	if len(places) < 4 || places[0] != 0 {
		t.Error("places", places)
	}
}

func TestFull(t *testing.T) { // V4: a Put is Full only if it has found no free slot, twice, and has tried to make some free between
	full := 0
	for seed := range seeds {
		m := played(seed, 3000)
		steps := m.Steps()
		for _, c := range history.All(m.History()) {
			if c.Result.Kind != api.Full {
				continue
			}
			full++
			empty, left := 0, false
			for _, s := range steps[c.From : c.To+1] {
				if s.Thread != c.Thread {
					continue
				}
				if slices.ContainsFunc(s.Marks, func(x api.Mark) bool { return x.Kind == api.MarkEmpty }) {
					empty++
				}
				// Behind having left, the hazards, or at least the epoch, are loaded.
				left = left || empty == 1 && s.Ask.Kind == api.AskStore && s.Ask.New == 0 && s.Ask.At == 3+c.Thread
			}
			if empty != 2 || !left {
				t.Fatalf("seed %d: the call %d is Full behind %d", seed, c.Id, empty)
			}
		}
	}
	if full < 10 {
		t.Error("only so many were Full:", full)
	}
}

func TestWords(t *testing.T) { // V5
	for seed := range seeds {
		r := next(seed*7919 + 1)
		m := machine.New(r.config())
		x := arena.New(m.Config())
		var entries []api.Entry
		plays(&r, m, 3000, func(e api.Entry) { entries = append(entries, e) })
		steps := m.Steps()
		for _, e := range entries {
			switch e.Kind {
			case api.Tick:
				x.Write(api.Write{At: 1, Word: x.Word(1) + 1})
			case api.Pick:
				s := steps[0]
				steps = steps[1:]
				if kind := s.Ask.Kind; s.Thread != e.Thread || kind < api.AskLoad || kind > api.AskCas || s.Ask.At < 0 || s.Ask.At >= x.Size() {
					t.Fatalf("seed %d: %v is no access", seed, s)
				}
				if got := x.Do(s.Ask); got != s.Got {
					t.Fatalf("seed %d: %v told %d", seed, s, got)
				}
			}
		}
		if len(steps) != 0 || !slices.Equal(x.Words(0, math.MaxInt), m.Memory().Words(0, math.MaxInt)) {
			t.Fatalf("seed %d: something else has turned a word", seed)
		}
	}
}

func TestEnds(t *testing.T) { // V6
	alone, most := 0, 0.0
	for seed := range 2000 {
		r := next(seed*7919 + 1)
		m := machine.New(r.config())
		plays(&r, m, 50+r.of(1200), func(api.Entry) {})
		thread := r.of(m.Config().Threads)
		if !bound.Alone(m, thread) {
			continue
		}
		alone++
		n, ok := bound.Solo(m, thread, bound.Most(m.Config()))
		if !ok {
			t.Fatalf("seed %d: it has not ended behind %d", seed, n)
		}
		most = max(most, float64(n)/float64(bound.Most(m.Config())))
	}
	if alone < 500 {
		t.Error("only so many were alone:", alone)
	}
	t.Log("at most so much of the bound:", most)
}

func TestTree(t *testing.T) { // V7
	looked := 0
	for seed := range seeds {
		r := next(seed*7919 + 1)
		m := machine.New(r.config())
		at := 0
		plays(&r, m, 3000, func(api.Entry) {
			locked := false
			for thread := range m.Config().Threads {
				locked = locked || len(m.Held(thread)) > 0
			}
			if at++; locked || at%17 != 0 {
				return
			}
			looked++
			memory := m.Memory()
			if told := shape.Check(memory); !told.OK() {
				t.Fatalf("seed %d: %+v", seed, told)
			}
			if at%(17*8) == 0 {
				h := m.History()
				if want := order.After(h, effects(h, m.Steps())); !slices.Equal(shape.Pairs(memory), want) {
					t.Fatalf("seed %d: the pairs are %v, not %v", seed, shape.Pairs(memory), want)
				}
			}
		})
	}
	if looked < 1000 {
		t.Error("only looked so often:", looked)
	}
}

func TestScripts(t *testing.T) { // V8
	did := map[int]int{}
	for seed := range 60 {
		r := next(seed*7919 + 1)
		c := r.config()
		var b []byte
		for range 3000 {
			b = append(b, byte(r.of(256)))
		}
		entries := script.Decode(b, c.Threads)
		back, _, e := script.Parse(script.Lines(entries...))
		if e != api.OK || !slices.Equal(back, entries) {
			t.Fatalf("seed %d: its lines are another script", seed)
		}
		m, x := machine.New(c), machine.New(c)
		for _, y := range entries {
			if m.Do(y) {
				did[y.Kind]++
			}
		}
		x.All(back...)
		if !slices.Equal(m.Memory().Words(0, math.MaxInt), x.Memory().Words(0, math.MaxInt)) || len(m.Steps()) != len(x.Steps()) {
			t.Fatalf("seed %d: its lines do another thing", seed)
		}
		h, steps := m.History(), m.Steps()
		if _, e := order.Check(h, order.Effects(h, steps)); e != api.OK || len(audit.Check(c, steps)) != 0 || !census.Of(m).Right(c.Slots) {
			t.Fatalf("seed %d: not sound", seed)
		}
	}
	if len(did) != 3 {
		t.Error("done was", slices.Sorted(maps.Keys(did)))
	}
}

func TestStalledReader(t *testing.T) { // V3: a thread that stalls is evicted, goes on by hazards, and what it covers is kept
	m := machine.New(api.Config{Slots: 20, Threads: 2, Fan: 4, Limbo: 1, Patience: 2})
	do := func(thread int, ops ...api.Op) {
		for _, o := range ops {
			m.Do(api.Entry{Kind: api.Submit, Thread: thread, Op: o})
			for m.Do(api.Entry{Kind: api.Pick, Thread: thread}) {
			}
		}
	}
	for k := range uint64(12) {
		do(0, api.Op{Kind: api.Put, Key: k})
	}
	m.Do(api.Entry{Kind: api.Submit, Thread: 1, Op: api.Op{Kind: api.Get, Key: 5}})
	for range 7 {
		m.Do(api.Entry{Kind: api.Pick, Thread: 1})
	}
	m.All(api.Entry{Kind: api.Tick}, api.Entry{Kind: api.Tick}, api.Entry{Kind: api.Tick})
	// While it stands, nodes are merged, and slots made free: it is evicted.
	for k := range uint64(5) {
		do(0, api.Op{Kind: api.Delete, Key: k})
	}
	evicted := func(a uint64) bool { return aword.State(a) == aword.Evicted }
	if !evicted(m.Memory().Word(m.Memory().Announce(1))) {
		t.Fatal("it is not evicted")
	}
	for !m.Slow(1) && m.Busy(1) {
		m.Do(api.Entry{Kind: api.Pick, Thread: 1})
	}
	if !m.Slow(1) {
		t.Fatal("it is not slow")
	}
	firm := func() bool {
		s := m.Steps()
		return slices.ContainsFunc(s[len(s)-1].Marks, func(x api.Mark) bool { return x.Kind == api.MarkFirm })
	}
	for range 2 {
		for m.Do(api.Entry{Kind: api.Pick, Thread: 1}); !firm(); {
			m.Do(api.Entry{Kind: api.Pick, Thread: 1})
		}
	}
	kept := 0
	for k := range uint64(12) {
		do(0, api.Op{Kind: api.Delete, Key: k})
		kept = max(kept, len(census.Of(m).Covered))
	}
	if kept == 0 {
		t.Error("nothing was kept")
	}
	for m.Do(api.Entry{Kind: api.Pick, Thread: 1}) {
	}
	if got := audit.Check(m.Config(), m.Steps()); len(got) != 0 || !census.Of(m).Right(20) {
		t.Error(got)
	}
}
