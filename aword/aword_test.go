package aword_test

import (
	"math"
	"testing"

	"gleaning/aword"
)

const (
	epochs = uint64(1) << 30
	ticks  = uint64(1) << 32
)

var (
	states = []int{aword.Idle, aword.Announced, aword.Evicted, aword.Slow}
	some   = []uint64{0, 1, 2, 5, epochs - 1, epochs, epochs + 5, ticks - 1, ticks, ticks + 9, 1 << 63, ^uint64(0)}
)

func TestMake(t *testing.T) { // 5.1
	if aword.Idle != 0 || aword.Announced != 1 || aword.Evicted != 2 || aword.Slow != 3 {
		t.Error("the states' numbers")
	}
	for _, s := range states {
		for _, e := range some {
			for _, c := range some {
				a := aword.Make(s, e, c)
				if a != uint64(s)+e%epochs*4+c%ticks<<32 {
					t.Errorf("Make(%d, %d, %d) = %x", s, e, c, a)
				}
				if aword.State(a) != s || aword.Epoch(a) != e%epochs || aword.Tick(a) != c%ticks {
					t.Errorf("%x tells %d %d %d", a, aword.State(a), aword.Epoch(a), aword.Tick(a))
				}
				if aword.Evict(a) != aword.Make(aword.Evicted, e, c) {
					t.Errorf("Evict(%x) = %x", a, aword.Evict(a))
				}
			}
		}
	}
	for _, s := range []int{-1, 4, 5, math.MinInt, math.MaxInt, 1 << 32} {
		if aword.Make(s, 5, 9) != 0 {
			t.Errorf("Make of the state %d is no 0", s)
		}
	}
}

func TestName(t *testing.T) { // 5.1
	for s, want := range map[int]string{0: "idle", 1: "announced", 2: "evicted", 3: "slow", -1: "", 4: "", math.MinInt: "", math.MaxInt: ""} {
		if got := aword.Name(s); got != want {
			t.Errorf("Name(%d) = %q", s, got)
		}
	}
}

func TestBlocks(t *testing.T) { // 5.2, 5.4
	for _, s := range states {
		for _, e := range some {
			a := aword.Make(s, e, 7)
			for _, now := range append(some, e, e+1, e-1, e+epochs) {
				want := s == aword.Announced && e%epochs != now%epochs
				if aword.Blocks(a, now) != want {
					t.Errorf("Blocks(%x, %d) = %v", a, now, !want)
				}
				if aword.Blocks(aword.Evict(a), now) {
					t.Errorf("who was evicted blocks %d", now)
				}
			}
		}
	}
}

func TestStalled(t *testing.T) { // 5.3
	for _, x := range []struct {
		tick, clock uint64
		patience    int
		want        bool
	}{
		{9, 12, 3, true}, {9, 12, 4, false}, {9, 12, 2, true}, {9, 9, 1, false}, {9, 10, 1, true}, {9, 12, 0, false}, {9, 12, -1, false}, {9, 12, math.MinInt, false},
		{9, 8, 1048576, true}, {ticks - 1, ticks + 1, 2, true}, {ticks - 1, 1, 2, true}, {ticks - 1, 1, 3, false}, {9, ticks + 8, 1, true}, {9, ticks + 9, 1, false}, {9, 9 + 5*ticks, 1, false},
		{0, ticks - 1, int(ticks) - 1, true}, {0, ticks - 1, int(ticks), false}, {0, ticks - 1, math.MaxInt, false},
	} {
		for _, s := range states {
			if got := aword.Stalled(aword.Make(s, 5, x.tick), x.clock, x.patience); got != x.want {
				t.Errorf("Stalled(tick %d, %d, %d) = %v", x.tick, x.clock, x.patience, got)
			}
		}
	}
}

func TestExamples(t *testing.T) {
	a := aword.Make(aword.Announced, 5, 9)
	if a != 9<<32+21 || !aword.Blocks(a, 6) || aword.Blocks(a, 5) || !aword.Stalled(a, 12, 3) || aword.Stalled(a, 12, 4) {
		t.Error("an example")
	}
}
