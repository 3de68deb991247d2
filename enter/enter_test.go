package enter_test

import (
	"math"
	"slices"
	"testing"

	"gleaning/api"
	"gleaning/aword"
	"gleaning/enter"
	"gleaning/layout"
)

var l = layout.New(api.Config{Slots: 3, Threads: 2, Fan: 4, Limbo: 1, Patience: 1})

func load(at int) api.Ask { return api.Ask{Kind: api.AskLoad, At: at} }

func store(at int, w uint64) api.Ask { return api.Ask{Kind: api.AskStore, At: at, New: w} }

// odd are threads that there are not.
var odd = []int{-1, 2, 3, math.MinInt, math.MaxInt}

func TestEnter(t *testing.T) { // 17.1
	for _, thread := range []int{0, 1} {
		for state := range 4 {
			for _, slow := range []bool{false, true} {
				for _, epoch := range []uint64{0, 7, math.MaxUint64} {
					word := aword.Make(state, 3, 4)
					isSlow := slow || state == aword.Evicted
					last := aword.Make(aword.Announced, epoch, epoch+9)
					if isSlow {
						last = aword.Make(aword.Slow, epoch, epoch+9)
					}
					e := enter.New(l, thread, slow)
					for i, x := range []struct {
						want api.Ask
						got  uint64
					}{{load(3 + thread), word}, {load(0), epoch}, {load(1), epoch + 9}, {store(3+thread, last), 5}} {
						if s, ok := e.Done(); s || ok {
							t.Fatalf("it has come ahead of access %d", i)
						}
						if e.Want() != x.want {
							t.Fatalf("access %d is %v, not %v", i, e.Want(), x.want)
						}
						was, next := e, e.Took(x.got)
						if was != e || e.Took(x.got) != next {
							t.Fatal("it is no value")
						}
						e = next
					}
					if s, ok := e.Done(); s != isSlow || !ok || e.Want() != (api.Ask{}) || e.Took(2) != e {
						t.Errorf("it has come: %v, slow: %v", ok, s)
					}
				}
			}
		}
	}
}

func TestLeave(t *testing.T) { // 17.2
	for _, thread := range []int{0, 1} {
		for _, slow := range []bool{false, true} {
			want := []api.Ask{store(3+thread, 0)}
			if slow {
				want = append(want, store(5+2*thread, 0), store(6+2*thread, 0))
			}
			x := enter.NewLeave(l, thread, slow)
			for i, a := range want {
				if x.Done() || x.Want() != a {
					t.Fatalf("access %d is %v, not %v", i, x.Want(), a)
				}
				was, next := x, x.Took(uint64(i))
				if was != x || next != x.Took(uint64(i)) {
					t.Fatal("it is no value")
				}
				x = next
			}
			if !x.Done() || x.Want() != (api.Ask{}) || x.Took(1) != x {
				t.Error("it goes on")
			}
			if got := slices.Collect(enter.Leaves(l, thread, slow)); !slices.Equal(got, want) {
				t.Errorf("Leaves: %v", got)
			}
			for a := range enter.Leaves(l, thread, slow) {
				if a != want[0] {
					t.Error("Leaves begins with", a)
				}
				break
			}
		}
	}
}

func TestNoThread(t *testing.T) {
	all := []enter.Enter{{}, enter.New(layout.Layout{}, 0, true)}
	gone := []enter.Leave{{}, enter.NewLeave(layout.Layout{}, 0, true)}
	for _, thread := range odd {
		for _, slow := range []bool{false, true} {
			all = append(all, enter.New(l, thread, slow))
			gone = append(gone, enter.NewLeave(l, thread, slow))
			for a := range enter.Leaves(l, thread, slow) {
				t.Error("a thread that there is not wants", a)
			}
		}
	}
	for _, e := range all {
		if slow, ok := e.Done(); slow || !ok || e.Want() != (api.Ask{}) || e.Took(2) != e {
			t.Error("a thread that there is not has not come")
		}
	}
	for _, x := range gone {
		if !x.Done() || x.Want() != (api.Ask{}) || x.Took(2) != x {
			t.Error("a thread that there is not has not left")
		}
	}
}

func TestExamples(t *testing.T) {
	e := enter.New(l, 1, false).Took(2).Took(7).Took(9)
	if e.Want() != store(4, 9<<32+31) {
		t.Error("an example:", e.Want())
	}
}
