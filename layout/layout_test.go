package layout_test

import (
	"math"
	"testing"

	"gleaning/api"
	"gleaning/layout"
)

var (
	small   = api.Config{Slots: 3, Threads: 2, Fan: 4, Limbo: 1, Patience: 1}
	configs = []api.Config{small, {Slots: 1, Threads: 1, Fan: 4, Limbo: 1, Patience: 1}, {Slots: 1000, Threads: 64, Fan: 64, Limbo: 64, Patience: 1048576}, {Slots: 17, Threads: 5, Fan: 9, Limbo: 2, Patience: 3}}
	odd     = []int{math.MinInt, -1, 0, 1, 2, 3, 4, 5, 6, 7, 8, 9, 10, 11, math.MaxInt}
)

// places are all places of a configuration's words, in their order.
func places(c api.Config) []layout.Place {
	out := []layout.Place{{Kind: layout.AtEpoch}, {Kind: layout.AtClock}, {Kind: layout.AtHead}}
	for i := range c.Threads {
		out = append(out, layout.Place{Kind: layout.AtAnnounce, Of: i})
	}
	for i := range c.Threads {
		out = append(out, layout.Place{Kind: layout.AtHazard, Of: i}, layout.Place{Kind: layout.AtHazard, Of: i, I: 1})
	}
	for s := range c.Slots + 1 {
		out = append(out, layout.Place{Kind: layout.AtVersion, Of: s}, layout.Place{Kind: layout.AtShape, Of: s}, layout.Place{Kind: layout.AtLink, Of: s})
		for i := range c.Fan {
			out = append(out, layout.Place{Kind: layout.AtKey, Of: s, I: i})
		}
		for i := range c.Fan {
			out = append(out, layout.Place{Kind: layout.AtValue, Of: s, I: i})
		}
	}
	return out
}

func TestKinds(t *testing.T) {
	for i, k := range []int{layout.AtEpoch, layout.AtClock, layout.AtHead, layout.AtAnnounce, layout.AtHazard, layout.AtVersion, layout.AtShape, layout.AtLink, layout.AtKey, layout.AtValue} {
		if k != i+1 {
			t.Errorf("kind %d has the number %d", i+1, k)
		}
	}
}

func TestNew(t *testing.T) { // 8.1
	for _, c := range configs {
		l := layout.New(c)
		if l.Config() != c || l.Size() != len(places(c)) {
			t.Errorf("%v: %v, %d", c, l.Config(), l.Size())
		}
		if l != layout.New(c) {
			t.Errorf("%v: two layouts are unlike", c)
		}
		for _, d := range configs {
			if c != d && l == layout.New(d) {
				t.Errorf("%v and %v have one layout", c, d)
			}
		}
		d := c
		d.Patience = 7
		if l == layout.New(d) {
			t.Error("layouts of unlike patience are the same")
		}
	}
	for _, c := range []api.Config{{}, {Slots: 3, Threads: 2, Fan: 3, Limbo: 1, Patience: 1}, {Slots: 3, Threads: 2, Fan: 4, Limbo: 1}, {Slots: 1001, Threads: 2, Fan: 4, Limbo: 1, Patience: 1}} {
		if l := layout.New(c); l != (layout.Layout{}) || l.Size() != 0 || l.Config() != (api.Config{}) {
			t.Errorf("%v has a layout", c)
		}
	}
}

func TestAtAndWhat(t *testing.T) { // 8.2, 8.3, 8.5
	for _, c := range configs {
		l := layout.New(c)
		for at, p := range places(c) {
			if l.At(p) != at {
				t.Fatalf("%v: At(%v) = %d, not %d", c, p, l.At(p), at)
			}
			if l.What(at) != p {
				t.Fatalf("%v: What(%d) = %v, not %v", c, at, l.What(at), p)
			}
		}
		for _, at := range []int{-1, l.Size(), l.Size() + 1, math.MinInt, math.MaxInt} {
			if l.What(at) != (layout.Place{}) {
				t.Errorf("%v: there is a word %d", c, at)
			}
		}
	}
}

func TestNoPlace(t *testing.T) { // 8.2
	is := map[layout.Place]bool{}
	for _, p := range places(small) {
		is[p] = true
	}
	l := layout.New(small)
	for _, kind := range odd {
		for _, of := range odd {
			for _, i := range odd {
				p := layout.Place{Kind: kind, Of: of, I: i}
				if !is[p] && l.At(p) != -1 {
					t.Errorf("At(%v) = %d", p, l.At(p))
				}
				if (layout.Layout{}).At(p) != -1 {
					t.Errorf("of no words At(%v) = %d", p, l.At(p))
				}
			}
		}
	}
	if (layout.Layout{}).What(0) != (layout.Place{}) {
		t.Error("of no words there is a word 0")
	}
}

func TestShortForms(t *testing.T) { // 8.2
	for _, l := range []layout.Layout{layout.New(small), {}} {
		for _, of := range odd {
			for name, x := range map[string][2]int{
				"Announce": {l.Announce(of), l.At(layout.Place{Kind: layout.AtAnnounce, Of: of})},
				"Version":  {l.Version(of), l.At(layout.Place{Kind: layout.AtVersion, Of: of})},
				"Shape":    {l.Shape(of), l.At(layout.Place{Kind: layout.AtShape, Of: of})},
				"Link":     {l.Link(of), l.At(layout.Place{Kind: layout.AtLink, Of: of})},
			} {
				if x[0] != x[1] {
					t.Errorf("%s(%d) = %d, not %d", name, of, x[0], x[1])
				}
			}
			for _, i := range odd {
				for name, x := range map[string][2]int{
					"Hazard": {l.Hazard(of, i), l.At(layout.Place{Kind: layout.AtHazard, Of: of, I: i})},
					"Key":    {l.Key(of, i), l.At(layout.Place{Kind: layout.AtKey, Of: of, I: i})},
					"Value":  {l.Value(of, i), l.At(layout.Place{Kind: layout.AtValue, Of: of, I: i})},
				} {
					if x[0] != x[1] {
						t.Errorf("%s(%d, %d) = %d, not %d", name, of, i, x[0], x[1])
					}
				}
			}
		}
	}
}

func TestShapes(t *testing.T) { // 8.4
	for n, want := range map[int]uint64{0: 0, 1: 2, 4: 8, 64: 128, 255: 510, 256: 0, 257: 0, 300: 0, 511: 0, 517: 0, 1 << 32: 0, 1<<32 + 3: 0, -1: 0, math.MinInt: 0, math.MaxInt: 0} {
		if got := layout.Pack(false, n); got != want || layout.Inner(got) {
			t.Errorf("Pack(false, %d) = %d", n, got)
		}
		if got := layout.Pack(true, n); got != want+1 || !layout.Inner(got) {
			t.Errorf("Pack(true, %d) = %d", n, got)
		}
	}
	for _, n := range []int{0, 1, 3, 4, 5, 63, 64, 65, 254, 255} {
		for _, fan := range []int{math.MinInt, -1, 0, 1, 4, 64, 255, 256, math.MaxInt} {
			for _, high := range []uint64{0, 1, 1 << 9, 1 << 63, ^uint64(511)} {
				want := max(0, min(n, fan))
				if got := layout.Entries(layout.Pack(false, n)|high, fan); got != want {
					t.Errorf("Entries of %d and %x, fan %d = %d", n, high, fan, got)
				}
			}
		}
	}
	if layout.Inner(2) || !layout.Inner(3) || layout.Inner(1<<63) {
		t.Error("Inner")
	}
}

func TestExamples(t *testing.T) {
	l := layout.New(small)
	if l.Announce(1) != 4 || l.Hazard(1, 0) != 7 || l.Version(0) != 9 || l.Key(1, 2) != 25 || l.Size() != 53 {
		t.Error("an example")
	}
}
