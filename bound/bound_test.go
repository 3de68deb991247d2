package bound_test

import (
	"math"
	"testing"

	"gleaning/api"
	"gleaning/bound"
	"gleaning/machine"
)

func pick(thread int) api.Entry { return api.Entry{Kind: api.Pick, Thread: thread} }

func submit(thread int, o api.Op) api.Entry {
	return api.Entry{Kind: api.Submit, Thread: thread, Op: o}
}

var (
	conf = api.Config{Slots: 9, Threads: 3, Fan: 4, Limbo: 1, Patience: 1}
	put  = api.Op{Kind: api.Put, Key: 5, Value: 6}
)

func TestMost(t *testing.T) { // 36.1
	small := api.Config{Slots: 4, Threads: 2, Fan: 4, Limbo: 1, Patience: 1}
	great := api.Config{Slots: 1000, Threads: 64, Fan: 64, Limbo: 64, Patience: 1048576}
	wrong := api.Config{Slots: 1000, Threads: 64, Fan: 65, Limbo: 64, Patience: 1048576}
	for _, x := range []struct {
		c    api.Config
		want int
	}{{small, 15552}, {great, 32*1016*1080 + 32*1064}, {api.Config{Slots: 1, Threads: 1, Fan: 4, Limbo: 1, Patience: 1}, 32*17*21 + 64}, {api.Config{Slots: 7, Threads: 3, Fan: 9, Limbo: 2, Patience: 5}, 32*23*32 + 320}, {wrong, 0}, {api.Config{}, 0}} {
		if got := bound.Most(x.c); got != x.want {
			t.Errorf("Most(%v) = %d", x.c, got)
		}
	}
	if bound.Greatest() != 0 || bound.Greatest(wrong) != 0 || bound.Greatest(small, great, wrong) != bound.Most(great) || bound.Greatest(small, conf, small) != bound.Most(conf) {
		t.Error("Greatest")
	}
}

func TestAlone(t *testing.T) { // 36.2
	m := machine.New(conf)
	if bound.Alone(m, 0) {
		t.Error("without a task")
	}
	m.All(submit(0, put), submit(1, put))
	if bound.Alone(m, 0) {
		t.Error("with a queue alone")
	}
	m.All(pick(0), pick(1))
	if !bound.Alone(m, 0) || !bound.Alone(m, 1) || bound.Alone(m, 2) {
		t.Error("two that hold nothing")
	}
	for len(m.Held(0)) == 0 {
		m.Do(pick(0))
	}
	if !bound.Alone(m, 0) || bound.Alone(m, 1) {
		t.Error("another one holds a lock")
	}
	for _, thread := range []int{-1, 3, math.MinInt, math.MaxInt} {
		if bound.Alone(m, thread) {
			t.Error("a thread that there is not")
		}
	}
}

func TestCalm(t *testing.T) { // 36.2
	m := machine.New(conf)
	if !bound.Calm(m) {
		t.Error("a machine that begins")
	}
	m.Do(submit(2, put))
	if bound.Calm(m) {
		t.Error("with a queue")
	}
	for m.Do(pick(2)); m.Busy(2); m.Do(pick(2)) {
		if bound.Calm(m) {
			t.Error("with a task")
		}
	}
	if !bound.Calm(m) {
		t.Error("when all is done")
	}
}

func TestSolo(t *testing.T) { // 36.2
	m := machine.New(conf)
	m.All(submit(0, put), submit(0, put), submit(1, put))
	if n, ok := bound.Solo(m, 0, 99); n != 0 || !ok || m.Queue(0) != 2 {
		t.Error("without a task:", n, ok)
	}
	m.Do(pick(0))
	for most, want := range map[int]int{0: 0, -1: 0, math.MinInt: 0} {
		if n, ok := bound.Solo(m, 0, most); n != want || ok {
			t.Error("at most", most, n, ok)
		}
	}
	if n, ok := bound.Solo(m, 0, 4); n != 4 || ok || len(m.Steps()) != 5 {
		t.Error("at most four:", n, ok)
	}
	if n, ok := bound.Solo(m, 0, 10); n != 10 || !ok {
		t.Error("just to its end:", n, ok)
	}
	m.Do(pick(0))
	if n, ok := bound.Solo(m, 0, math.MaxInt); n < 5 || !ok || m.Queue(0) != 0 || m.Busy(0) || m.Busy(1) {
		t.Error("to its end:", n, ok)
	}
	for _, thread := range []int{-1, 3, math.MinInt, math.MaxInt} {
		if n, ok := bound.Solo(m, thread, 9); n != 0 || !ok {
			t.Error("a thread that there is not:", n, ok)
		}
	}
}

func TestNobodyMade(t *testing.T) {
	for _, m := range []*machine.Machine{nil, {}} {
		n, ok := bound.Solo(m, 0, 9)
		if bound.Alone(m, 0) || !bound.Calm(m) || n != 0 || !ok {
			t.Error("there is something")
		}
	}
}

func TestWithinBound(t *testing.T) { // 36.3
	r := uint64(88172645463325252)
	next := func(n int) int {
		r ^= r << 13
		r ^= r >> 7
		r ^= r << 17
		return int(r >> 20 % uint64(n))
	}
	alone, held := 0, 0
	for round := range 1500 {
		c := api.Config{Slots: 1 + next(20), Threads: 1 + next(4), Fan: 4 + next(3), Limbo: 1 + next(3), Patience: 1 + next(9)}
		m := machine.New(c)
		for i := range 100 + next(1500) {
			thread := next(c.Threads)
			if m.Queue(thread) == 0 {
				m.Do(submit(thread, api.Op{Kind: []int{2 + i/200%2, 1 + next(4)}[next(9)/6], Key: uint64(next(20)), High: uint64(next(30)), Most: 1 + next(9)}))
			}
			if next(10) == 0 {
				m.Do(api.Entry{Kind: api.Tick})
			}
			m.Do(pick(thread))
		}
		thread := round % c.Threads
		if !bound.Alone(m, thread) {
			held++
			continue
		}
		alone++
		if n, ok := bound.Solo(m, thread, bound.Most(c)); !ok {
			t.Fatalf("%v: it has not ended behind %d", c, n)
		}
	}
	if alone < 500 || held == 0 {
		t.Error("alone were", alone, "not", held)
	}
}

func TestExamples(t *testing.T) {
	if got := bound.Most(api.Config{Slots: 4, Threads: 2, Fan: 4, Limbo: 1, Patience: 1}); got != 15552 {
		t.Error("an example:", got)
	}
}
