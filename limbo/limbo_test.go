package limbo_test

import (
	"math"
	"slices"
	"testing"

	"gleaning/api"
	"gleaning/handle"
	"gleaning/limbo"
)

func rec(h, epoch uint64) api.Record { return api.Record{Handle: h, Epoch: epoch} }

func TestRipe(t *testing.T) { // 16.1, 16.4
	for _, x := range []struct {
		of, in uint64
		want   bool
	}{
		{4, 6, true}, {4, 5, false}, {4, 4, false}, {4, 3, false}, {4, 0, false}, {4, 7, true}, {0, 2, true}, {0, 1, false}, {0, math.MaxUint64, true}, {math.MaxUint64, math.MaxUint64, false},
		{math.MaxUint64, 0, false}, {math.MaxUint64, 1, false}, {math.MaxUint64, 5, false}, {math.MaxUint64 - 1, math.MaxUint64, false}, {math.MaxUint64 - 2, math.MaxUint64, true}, {1 << 63, 0, false},
	} {
		if got := limbo.Ripe(rec(9, x.of), x.in); got != x.want {
			t.Errorf("of %d in %d: %v", x.of, x.in, got)
		}
	}
}

func TestPart(t *testing.T) { // 16.1
	l := []api.Record{rec(5, 9), rec(1, 4), rec(2, 8), rec(3, 7), rec(1, 4), rec(4, 6)}
	was := slices.Clone(l)
	ripe, others := limbo.Part(l, 9)
	if !slices.Equal(ripe, []api.Record{rec(1, 4), rec(3, 7), rec(1, 4), rec(4, 6)}) || !slices.Equal(others, []api.Record{rec(5, 9), rec(2, 8)}) {
		t.Error(ripe, others)
	}
	ripe[0], others[0] = rec(77, 7), rec(77, 7)
	if !slices.Equal(l, was) {
		t.Error("Part shares what was handed in")
	}
	if ripe, others = limbo.Part(nil, 9); len(ripe) != 0 || len(others) != 0 {
		t.Error("Part of nothing")
	}
	if ripe, others = limbo.Part(l, 3); len(ripe) != 0 || !slices.Equal(others, l) {
		t.Error("ripe ahead of its epoch:", ripe)
	}
}

func TestCovered(t *testing.T) { // 16.2
	for _, x := range []struct{ handles, hazards, covered, others []uint64 }{
		{[]uint64{5, 3, 5, 9, 0}, []uint64{0, 9, 5}, []uint64{5, 5, 9}, []uint64{3, 0}},
		{[]uint64{0, 0}, []uint64{0}, nil, []uint64{0, 0}},
		{[]uint64{5, 3}, nil, nil, []uint64{5, 3}},
		{[]uint64{handle.Make(1, 5), handle.Make(2, 5), handle.Make(1, 5) | 1<<60}, []uint64{handle.Make(1, 5)}, []uint64{handle.Make(1, 5)}, []uint64{handle.Make(2, 5), handle.Make(1, 5) | 1<<60}},
		{nil, []uint64{5}, nil, nil},
	} {
		was := slices.Clone(x.handles)
		covered, others := limbo.Covered(x.handles, x.hazards)
		if !slices.Equal(covered, x.covered) || !slices.Equal(others, x.others) {
			t.Errorf("Covered(%x, %x) = %x, %x", x.handles, x.hazards, covered, others)
		}
		for _, l := range [][]uint64{covered, others} {
			for i := range l {
				l[i] = 77
			}
		}
		if !slices.Equal(x.handles, was) {
			t.Error("Covered shares what was handed in")
		}
	}
}

func TestBags(t *testing.T) { // 16.3
	l := []api.Record{rec(5, 9), rec(1, 4), rec(2, 8), rec(3, 7), rec(4, 0), rec(6, math.MaxUint64)}
	got := limbo.Bags(l)
	want := [3][]api.Record{{rec(5, 9), rec(4, 0), rec(6, math.MaxUint64)}, {rec(1, 4), rec(3, 7)}, {rec(2, 8)}}
	for i := range want {
		if !slices.Equal(got[i], want[i]) {
			t.Errorf("bag %d: %v", i, got[i])
		}
	}
	for _, b := range limbo.Bags(nil) {
		if len(b) != 0 {
			t.Error("a bag of nothing")
		}
	}
}

func TestHandles(t *testing.T) { // 16.1
	if got := limbo.Handles([]api.Record{rec(5, 9), rec(1, 4), rec(5, 9)}); !slices.Equal(got, []uint64{5, 1, 5}) {
		t.Error(got)
	}
	if len(limbo.Handles(nil)) != 0 {
		t.Error("handles of nothing")
	}
}

func TestWithout(t *testing.T) { // 16.3
	l := []api.Record{rec(handle.Make(1, 5), 9), rec(handle.Make(1, 6), 4), rec(handle.Make(2, 5), 4), rec(handle.Make(2, 5)|1<<60, 4), rec(0, 3)}
	was := slices.Clone(l)
	for slot, want := range map[int][]api.Record{5: {l[1], l[4]}, 6: {l[0], l[2], l[3], l[4]}, 0: l[:4], 9: l, -1: l, 65541: l} {
		got := limbo.Without(l, slot)
		if !slices.Equal(got, want) {
			t.Errorf("Without(%d) = %v", slot, got)
		}
		if got[0] = rec(7, 7); !slices.Equal(l, was) {
			t.Fatal("Without shares what was handed in")
		}
	}
}

func TestRoom(t *testing.T) { // 16.3
	l := make([]api.Record, 3)
	for most, want := range map[int]bool{4: true, 3: false, 2: false, 0: false, -1: false, 64: true} {
		if got := limbo.Room(l, api.Config{Limbo: most}); got != want {
			t.Errorf("room of %d: %v", most, got)
		}
	}
	if !limbo.Room(nil, api.Config{Limbo: 1}) || limbo.Room(nil, api.Config{}) {
		t.Error("room of nothing")
	}
}
