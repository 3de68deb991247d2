package handle_test

import (
	"math"
	"slices"
	"testing"

	"gleaning/api"
	"gleaning/handle"
)

var all = ^uint64(0)

func TestMake(t *testing.T) { // 3.1, 3.4
	for _, slot := range []int{1, 2, 5, 999, 65534, 65535} {
		for _, gen := range []uint64{0, 1, 2, 1<<24 - 1, 1 << 24, 1<<24 + 7, all} {
			h := handle.Make(gen, slot)
			if h != uint64(slot)+gen%(1<<24)*65536 {
				t.Errorf("Make(%d, %d) = %d", gen, slot, h)
			}
			if handle.Slot(h) != slot || handle.Gen(h) != gen%(1<<24) {
				t.Errorf("Make(%d, %d) tells %d, %d", gen, slot, handle.Slot(h), handle.Gen(h))
			}
		}
	}
	for _, slot := range []int{0, -1, 65536, 65537, math.MinInt, math.MaxInt, 1 << 32} {
		if handle.Make(3, slot) != 0 {
			t.Errorf("Make(3, %d) is no 0", slot)
		}
	}
	if handle.Make(2, 5) != 131077 {
		t.Error("the example")
	}
}

func TestSlotAndGen(t *testing.T) { // 3.1
	for _, x := range []struct {
		h    uint64
		slot int
		gen  uint64
	}{{0, 0, 0}, {all, 65535, 1<<24 - 1}, {all << 40, 0, 0}, {all<<40 + 9, 9, 0}, {5 << 16, 0, 5}, {1<<40 - 1<<16, 0, 1<<24 - 1}, {1 << 15, 1 << 15, 0}} {
		if handle.Slot(x.h) != x.slot || handle.Gen(x.h) != x.gen {
			t.Errorf("%x tells %d, %d", x.h, handle.Slot(x.h), handle.Gen(x.h))
		}
	}
}

func TestRight(t *testing.T) { // 3.1
	for _, x := range []struct {
		h     uint64
		slots int
		want  bool
	}{
		{0, 5, false}, {handle.Make(0, 1), 1, true}, {handle.Make(9, 5), 5, true}, {handle.Make(9, 5), 4, false}, {handle.Make(9, 5), 0, false}, {handle.Make(9, 5), -1, false},
		{handle.Make(9, 5), math.MinInt, false}, {handle.Make(1<<24-1, 65535), math.MaxInt, true}, {handle.Make(1, 1) | 1<<40, 5, false}, {handle.Make(1, 1) | 1<<63, 5, false}, {3 << 16, 5, false}, {all, math.MaxInt, false},
	} {
		if handle.Right(x.h, x.slots) != x.want {
			t.Errorf("Right(%x, %d) = %v", x.h, x.slots, !x.want)
		}
	}
}

func TestText(t *testing.T) { // 3.2
	for h, want := range map[uint64]string{0: "0:0", 131077: "5:2", 65537: "1:1", all: "65535:16777215", 1 << 40: "0:0", 7: "7:0"} {
		if got := handle.Text(h); got != want {
			t.Errorf("Text(%x) = %q", h, got)
		}
	}
}

func TestParse(t *testing.T) { // 3.2
	for _, s := range []string{"5:2", "1:0", "65535:16777215", "10:100"} {
		if h, e := handle.Parse(s); e != api.OK || handle.Text(h) != s {
			t.Errorf("Parse(%q) = %x, %d", s, h, e)
		}
	}
	for s, want := range map[string]api.Errno{
		"": api.ErrForm, "5": api.ErrForm, ":": api.ErrForm, "5:": api.ErrForm, ":5": api.ErrForm, "5:x": api.ErrForm, "x:5": api.ErrForm, "1:2:3": api.ErrForm, "1::2": api.ErrForm, "01:2": api.ErrForm, "1:02": api.ErrForm,
		"-1:2": api.ErrForm, "1: 2": api.ErrForm, "::": api.ErrForm, "18446744073709551616:2:1": api.ErrForm,
		"0:1": api.ErrRange, "0:0": api.ErrRange, "65536:1": api.ErrRange, "1:16777216": api.ErrRange, "1:18446744073709551616": api.ErrRange, "18446744073709551616:1": api.ErrRange,
		"18446744073709551616:x": api.ErrRange, "0:x": api.ErrForm, "x:18446744073709551616": api.ErrForm, "65536:01": api.ErrForm,
	} {
		if h, e := handle.Parse(s); e != want || h != 0 {
			t.Errorf("Parse(%q) = %x, %d, not %d", s, h, e, want)
		}
	}
}

func TestOnce(t *testing.T) { // 3.3
	a, b, c := handle.Make(1, 5), handle.Make(2, 5), handle.Make(1, 6)
	far := a | 1<<50
	given := []uint64{a, b, a, c, far, 0, 1 << 40, b, 0}
	kept := slices.Clone(given)
	if got := handle.Once(given); !slices.Equal(got, []uint64{a, b, c, 0}) {
		t.Errorf("Once = %x", got)
	}
	if got := handle.Once([]uint64{far, a}); !slices.Equal(got, []uint64{far}) {
		t.Errorf("Once keeps %x, not the word that stood ahead", got)
	}
	if len(handle.Once(nil)) != 0 {
		t.Error("Once of nothing")
	}
	got := handle.Once(given)
	got[0] = 7
	if !slices.Equal(given, kept) {
		t.Error("Once shares what was handed in")
	}
}

func TestTextsAreUnlike(t *testing.T) { // 3.4
	seen := map[string]uint64{}
	for _, slot := range []int{1, 2, 11, 12, 111, 65535} {
		for _, gen := range []uint64{0, 1, 2, 11, 12, 111, 1<<24 - 1} {
			h := handle.Make(gen, slot)
			s := handle.Text(h)
			if x, ok := seen[s]; ok && x != h {
				t.Errorf("%x and %x are both %q", x, h, s)
			}
			seen[s] = h
			if back, e := handle.Parse(s); e != api.OK || back != h {
				t.Errorf("%q is %x, %d", s, back, e)
			}
		}
	}
}
