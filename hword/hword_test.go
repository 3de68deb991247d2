package hword_test

import (
	"math"
	"slices"
	"testing"

	"gleaning/hword"
)

const tags = uint64(1) << 48

var someTags = []uint64{0, 1, 3, tags - 1, tags, tags + 4, ^uint64(0)}

func TestMake(t *testing.T) { // 6.1
	for _, tag := range someTags {
		for slot, want := range map[int]int{0: 0, 1: 1, 5: 5, 65535: 65535, 65536: 0, 65537: 0, -1: 0, math.MinInt: 0, math.MaxInt: 0} {
			w := hword.Make(tag, slot)
			if w != tag%tags<<16+uint64(want) {
				t.Errorf("Make(%d, %d) = %x", tag, slot, w)
			}
			if hword.Slot(w) != want || hword.Tag(w) != tag%tags || hword.Of(w) != (hword.Head{Tag: tag % tags, Slot: want}) {
				t.Errorf("%x tells %v", w, hword.Of(w))
			}
		}
	}
}

func TestTurn(t *testing.T) { // 6.2
	for _, tag := range someTags {
		for _, slot := range []int{0, 1, 7, 65535, 65536, -3} {
			w := hword.Make(tag, 9)
			if got := hword.Turn(w, slot); got != hword.Make(tag+1, slot) {
				t.Errorf("Turn(%x, %d) = %x", w, slot, got)
			}
		}
	}
}

func TestTurns(t *testing.T) { // 6.2
	slots := []int{7, 0, 65535, -1, 7}
	w := hword.Make(tags-2, 3)
	var want []uint64
	for x, i := w, 0; i < len(slots); i++ {
		x = hword.Turn(x, slots[i])
		want = append(want, x)
	}
	all := hword.Turns(w, slots...)
	for range 2 {
		if got := slices.Collect(all); !slices.Equal(got, want) {
			t.Errorf("Turns = %x, not %x", got, want)
		}
	}
	for n := range len(want) {
		var got []uint64
		for x := range all {
			if got = append(got, x); len(got) > n {
				break
			}
		}
		if !slices.Equal(got, want[:n+1]) {
			t.Errorf("the first %d of Turns = %x", n+1, got)
		}
	}
	slots[0] = 1
	if got := slices.Collect(all); !slices.Equal(got, want) {
		t.Error("Turns keeps what was handed in")
	}
	for range hword.Turns(w) {
		t.Error("Turns to no slot")
	}
}

func TestNoTurnBack(t *testing.T) { // 6.3
	for _, first := range []uint64{0, hword.Make(tags-50, 4), ^uint64(0)} {
		was := map[uint64]bool{first: true}
		for w := range hword.Turns(first, make([]int, 200)...) {
			if was[w] {
				t.Fatalf("%x comes back", w)
			}
			was[w] = true
		}
	}
}

func TestExamples(t *testing.T) {
	if hword.Make(3, 5) != 196613 || hword.Turn(196613, 7) != 262151 || hword.Of(262151) != (hword.Head{Tag: 4, Slot: 7}) {
		t.Error("an example")
	}
}
