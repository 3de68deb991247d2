package vword_test

import (
	"testing"

	"gleaning/handle"
	"gleaning/vword"
)

const (
	counts = uint64(1) << 38
	gens   = uint64(1) << 24
)

var (
	someCounts = []uint64{0, 1, 2, counts / 2, counts - 2, counts - 1}
	someGens   = []uint64{0, 1, 5, gens - 1}
)

// each hands on words of many kinds, with what they are.
func each(do func(gen, count uint64, dead, locked bool)) {
	for _, g := range someGens {
		for _, c := range someCounts {
			for i := range 4 {
				do(g, c, i&1 == 1, i&2 == 2)
			}
		}
	}
}

func TestKinds(t *testing.T) {
	if vword.Stale != 1 || vword.Wait != 2 || vword.Go != 3 {
		t.Error("the kinds' numbers")
	}
}

func TestMake(t *testing.T) { // 4.1
	each(func(g, c uint64, dead, locked bool) {
		want := g<<40 + c*4
		if dead {
			want += 2
		}
		if locked {
			want++
		}
		for _, over := range []uint64{0, 1, 7} {
			if got := vword.Make(g+over*gens, c+over*counts, dead, locked); got != want {
				t.Errorf("Make(%d, %d, %v, %v) = %x, not %x", g, c, dead, locked, got, want)
			}
		}
		if vword.Gen(want) != g || vword.Count(want) != c || vword.Dead(want) != dead || vword.Locked(want) != locked {
			t.Errorf("%x tells %d %d %v %v", want, vword.Gen(want), vword.Count(want), vword.Dead(want), vword.Locked(want))
		}
	})
}

func TestTurns(t *testing.T) { // 4.2
	each(func(g, c uint64, dead, locked bool) {
		w := vword.Make(g, c, dead, locked)
		for _, x := range []struct {
			name      string
			got, want uint64
		}{
			{"Lock", vword.Lock(w), vword.Make(g, c, dead, true)},
			{"Undo", vword.Undo(w), vword.Make(g, c, dead, false)},
			{"Bump", vword.Bump(w), vword.Make(g, c+1, dead, false)},
			{"Kill", vword.Kill(w), vword.Make(g, c+1, true, false)},
			{"Renew", vword.Renew(w), vword.Make(g+1, c+1, false, true)},
		} {
			if x.got != x.want {
				t.Errorf("%s of %x = %x, not %x", x.name, w, x.got, x.want)
			}
		}
	})
}

func TestBegin(t *testing.T) { // 4.3
	each(func(g, c uint64, dead, locked bool) {
		w := vword.Make(g, c, dead, locked)
		want := vword.Go
		if dead {
			want = vword.Stale
		} else if locked {
			want = vword.Wait
		}
		for _, h := range []uint64{handle.Make(g, 7), handle.Make(g, 65535), handle.Make(g, 1) | 1<<63, g << 16} {
			if got := vword.Begin(h, w); got != want {
				t.Errorf("Begin(%x, %x) = %d, not %d", h, w, got, want)
			}
		}
		for _, other := range []uint64{g + 1, g + gens - 1, g ^ gens>>1} {
			if got := vword.Begin(handle.Make(other, 7), w); got != vword.Stale {
				t.Errorf("Begin of another generation is %d", got)
			}
		}
	})
}

func TestNoTurnBack(t *testing.T) { // 4.4
	for _, first := range []uint64{0, vword.Make(gens-1, counts-30, false, false), ^uint64(0)} {
		was := map[uint64]bool{}
		w := first
		for i := range 300 {
			for _, x := range []uint64{w, vword.Lock(w), vword.Undo(w)} {
				was[x] = true
			}
			turns := []func(uint64) uint64{vword.Bump, vword.Kill, vword.Renew}
			w = turns[(i+i/7)%3](vword.Undo(vword.Lock(w)))
			if was[w] || was[vword.Lock(w)] || was[vword.Undo(w)] {
				t.Fatalf("behind %d turns %x comes back", i+1, w)
			}
		}
	}
}

func TestExamples(t *testing.T) {
	w := vword.Make(1, 2, false, true)
	if w != 1<<40+9 || vword.Bump(w) != 1<<40+12 || vword.Begin(handle.Make(1, 7), vword.Kill(w)) != vword.Stale {
		t.Error("an example")
	}
}
