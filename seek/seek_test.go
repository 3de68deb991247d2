package seek_test

import (
	"math"
	"slices"
	"testing"

	"gleaning/seek"
)

// asked are the places that a search asks for, told by a function, and where it comes.
func asked(s seek.Search, key func(at int) uint64) ([]int, int) {
	var places []int
	for s.Want() != -1 {
		places = append(places, s.Want())
		s = s.Took(key(s.Want()))
	}
	return places, s.At()
}

// byWords are the places that the words of the chapter ask for.
func byWords(kind, n int, key uint64, keys []uint64) ([]int, int) {
	var places []int
	low, high := 0, n
	for low < high {
		at := (low + high) / 2
		places = append(places, at)
		if k := keys[at]; k < key || kind == seek.Past && k == key {
			low = at + 1
		} else {
			high = at
		}
	}
	return places, low
}

func TestSearch(t *testing.T) { // 11.1
	if seek.First != 1 || seek.Past != 2 {
		t.Error("the kinds' numbers")
	}
	seed := uint64(1)
	for n := range 70 {
		keys := make([]uint64, n) // in no order: it goes by what it is told
		for i := range keys {
			seed = seed*6364136223846793005 + 1442695040888963407
			keys[i] = seed >> 60
		}
		for _, kind := range []int{seek.First, seek.Past} {
			for key := range uint64(17) {
				places, at := asked(seek.New(kind, n, key), func(i int) uint64 { return keys[i] })
				want, come := byWords(kind, n, key, keys)
				if !slices.Equal(places, want) || at != come {
					t.Fatalf("kind %d among %v for %d asks %v, comes to %d", kind, keys, key, places, at)
				}
				if seek.Of(kind, keys, key) != come {
					t.Fatalf("Of(%d, %v, %d) = %d", kind, keys, key, seek.Of(kind, keys, key))
				}
			}
		}
	}
}

func TestNone(t *testing.T) { // 11.1
	for _, s := range []seek.Search{{}, seek.New(seek.First, 0, 5), seek.New(seek.Past, -1, 5), seek.New(seek.First, math.MinInt, 5), seek.New(0, 9, 5), seek.New(3, 9, 5), seek.New(-1, 9, 5), seek.New(math.MaxInt, 9, 5)} {
		if s.Want() != -1 || s.At() != 0 || s.Took(3) != s {
			t.Errorf("%v asks for something", s)
		}
	}
	if seek.Of(seek.First, nil, 5) != 0 || seek.Of(9, []uint64{1, 2}, 5) != 0 {
		t.Error("Of nothing")
	}
}

func TestHasCome(t *testing.T) { // 11.1
	s := seek.New(seek.Past, 3, 5)
	for s.Want() != -1 {
		s = s.Took(5)
	}
	if s.At() != 3 || s.Took(9) != s || s.Took(0) != s {
		t.Error("a search that has come goes on")
	}
}

func TestGreat(t *testing.T) { // 11.1, 11.2
	for _, kind := range []int{seek.First, seek.Past} {
		_, at := asked(seek.New(kind, math.MaxInt, 5), func(at int) uint64 { return 0 })
		if at != math.MaxInt {
			t.Errorf("kind %d comes to %d", kind, at)
		}
		places, at := asked(seek.New(kind, math.MaxInt, 5), func(at int) uint64 { return 9 })
		if at != 0 || len(places) != seek.Steps(math.MaxInt) || places[0] != math.MaxInt/2 {
			t.Errorf("kind %d comes to %d behind %d", kind, at, len(places))
		}
	}
}

func TestSame(t *testing.T) { // 11.2
	for _, told := range [][]uint64{nil, {5}, {5, 6}, {6, 4, 5}} {
		make := func(key uint64) seek.Search {
			s := seek.New(seek.First, 20, key)
			for _, k := range told {
				s = s.Took(k)
			}
			return s
		}
		if make(5) != make(5) {
			t.Error("two that were told alike are unlike")
		}
	}
	s := seek.New(seek.First, 20, 5)
	low, high := s.Took(1), s.Took(9)
	if s.Want() != 10 || low.Want() != 15 || high.Want() != 5 {
		t.Error("a search is no value")
	}
}

func TestSteps(t *testing.T) { // 11.2, 11.3
	for n, want := range map[int]int{-1: 0, math.MinInt: 0, 0: 0, 1: 1, 2: 2, 3: 2, 4: 3, 7: 3, 8: 4, 63: 6, 64: 7, math.MaxInt: 63} {
		if got := seek.Steps(n); got != want {
			t.Errorf("Steps(%d) = %d", n, got)
		}
	}
	for n := range 40 {
		most := 0
		var all func(s seek.Search, many int)
		all = func(s seek.Search, many int) {
			if s.At() < 0 || s.At() > n {
				t.Fatalf("among %d it comes to %d", n, s.At())
			}
			if most = max(most, many); s.Want() == -1 {
				return
			}
			all(s.Took(0), many+1)
			all(s.Took(9), many+1)
		}
		all(seek.New(seek.First, n, 5), 0)
		if most != seek.Steps(n) {
			t.Errorf("among %d it asks for %d, not %d", n, most, seek.Steps(n))
		}
	}
}

func TestRisingKeys(t *testing.T) { // 11.3
	for n := range 20 {
		var keys []uint64
		for i := range n {
			keys = append(keys, uint64(i/2*2+2))
		}
		for key := range uint64(25) {
			below, notAbove := 0, 0
			for _, k := range keys {
				if k < key {
					below++
				}
				if k <= key {
					notAbove++
				}
			}
			if seek.Of(seek.First, keys, key) != below || seek.Of(seek.Past, keys, key) != notAbove {
				t.Errorf("among %v for %d", keys, key)
			}
		}
	}
}

func TestExamples(t *testing.T) {
	keys := []uint64{2, 4, 4, 8}
	places, at := asked(seek.New(seek.First, 4, 4), func(i int) uint64 { return keys[i] })
	if !slices.Equal(places, []int{2, 1, 0}) || at != 1 || seek.Of(seek.Past, keys, 4) != 3 || seek.Steps(4) != 3 {
		t.Error("an example")
	}
}
