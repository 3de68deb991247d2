package memory_test

import (
	"math"
	"slices"
	"testing"

	"gleaning/api"
	"gleaning/layout"
	"gleaning/memory"
)

var small = api.Config{Slots: 3, Threads: 2, Fan: 4, Limbo: 1, Patience: 1}

// numbered is a memory whose words are their numbers, and 100 more.
func numbered() *memory.Memory {
	m := memory.New(small)
	for at := range m.Size() {
		m.Write(api.Write{At: at, Word: uint64(at + 100)})
	}
	return m
}

func words(m *memory.Memory) []uint64 { return m.Words(0, math.MaxInt) }

func TestNew(t *testing.T) { // 9.1
	m := memory.New(small)
	if m == nil || m.Layout != layout.New(small) || m.Size() != 53 || m.Announce(1) != 4 || m.Config() != small {
		t.Fatal("the layout is not its own")
	}
	if !slices.Equal(words(m), make([]uint64, 53)) {
		t.Error("the words are not 0:", words(m))
	}
	for _, c := range []api.Config{{}, {Slots: 3, Threads: 2, Fan: 3, Limbo: 1, Patience: 1}} {
		if memory.New(c) != nil {
			t.Errorf("there is a memory of %v", c)
		}
	}
}

func TestDo(t *testing.T) { // 9.1, 9.3
	for _, x := range []struct {
		a          api.Ask
		told, then uint64
	}{
		{api.Ask{Kind: api.AskLoad, At: 5, Old: 1, New: 2}, 105, 105},
		{api.Ask{Kind: api.AskStore, At: 5, Old: 1, New: 2}, 0, 2},
		{api.Ask{Kind: api.AskStore, At: 5, Old: 105, New: 2}, 0, 2},
		{api.Ask{Kind: api.AskCas, At: 5, Old: 105, New: 2}, 1, 2},
		{api.Ask{Kind: api.AskCas, At: 5, Old: 105, New: 105}, 1, 105},
		{api.Ask{Kind: api.AskCas, At: 5, Old: 104, New: 2}, 0, 105},
		{api.Ask{Kind: api.AskCas, At: 5, Old: 2, New: 105}, 0, 105},
		{api.Ask{Kind: api.AskNone, At: 5, Old: 105, New: 2}, 0, 105},
		{api.Ask{Kind: 4, At: 5, Old: 105, New: 2}, 0, 105},
		{api.Ask{Kind: -1, At: 5, Old: 105, New: 2}, 0, 105},
		{api.Ask{Kind: math.MaxInt, At: 5, Old: 105, New: 2}, 0, 105},
	} {
		m := numbered()
		want := words(m)
		want[5] = x.then
		if got := m.Do(x.a); got != x.told || !slices.Equal(words(m), want) {
			t.Errorf("%v told %d, and left %v", x.a, got, words(m))
		}
	}
	for _, at := range []int{-1, 53, 54, math.MinInt, math.MaxInt} {
		for kind := -1; kind < 5; kind++ {
			m := numbered()
			if got := m.Do(api.Ask{Kind: kind, At: at, New: 9}); got != 0 || !slices.Equal(words(m), words(numbered())) {
				t.Errorf("an access of the word %d told %d", at, got)
			}
		}
	}
}

func TestAll(t *testing.T) { // 9.1
	m := memory.New(small)
	cas := api.Ask{Kind: api.AskCas, At: 1, Old: 0, New: 7}
	load := api.Ask{Kind: api.AskLoad, At: 1}
	if got := m.All(cas, cas, load, api.Ask{Kind: api.AskLoad, At: -1}, api.Ask{Kind: api.AskStore, At: 1, New: 3}, load); !slices.Equal(got, []uint64{1, 0, 7, 0, 0, 3}) {
		t.Error(got)
	}
	if len(m.All()) != 0 {
		t.Error("no accesses told something")
	}
}

func TestWord(t *testing.T) { // 9.1
	m := numbered()
	for at, want := range map[int]uint64{0: 100, 52: 152, 53: 0, -1: 0, math.MaxInt: 0, math.MinInt: 0} {
		if got := m.Word(at); got != want {
			t.Errorf("Word(%d) = %d", at, got)
		}
	}
}

func TestWords(t *testing.T) { // 9.2
	m := numbered()
	all := words(m)
	for _, x := range []struct {
		from, to int
		want     []uint64
	}{
		{0, 53, all}, {2, 5, all[2:5]}, {-7, 3, all[:3]}, {50, 99, all[50:]}, {math.MinInt, math.MaxInt, all}, {52, 53, all[52:]},
		{5, 5, nil}, {5, 4, nil}, {53, 60, nil}, {-5, 0, nil}, {-5, -1, nil}, {math.MaxInt, math.MinInt, nil}, {60, 53, nil},
	} {
		if got := m.Words(x.from, x.to); !slices.Equal(got, x.want) {
			t.Errorf("Words(%d, %d) = %v", x.from, x.to, got)
		}
	}
	got := m.Words(2, 5)
	got[0] = 9
	got = append(got, 9)
	if m.Word(2) != 102 || m.Word(5) != 105 {
		t.Error("Words shares the memory")
	}
}

func TestWrite(t *testing.T) { // 9.2
	m := numbered()
	want := words(m)
	want[3], want[52] = 8, 6
	m.Write(api.Write{At: 3, Word: 7}, api.Write{At: -1, Word: 9}, api.Write{At: 53, Word: 9}, api.Write{At: 52, Word: 6}, api.Write{At: 3, Word: 8})
	m.Write(api.Write{At: math.MaxInt, Word: 1}, api.Write{At: math.MinInt, Word: 1})
	m.Write()
	if !slices.Equal(words(m), want) {
		t.Error(words(m))
	}
}

func TestCopy(t *testing.T) { // 9.2
	m := numbered()
	c := m.Copy()
	if c == m || c.Layout != m.Layout || !slices.Equal(words(c), words(m)) {
		t.Fatal("the copy is another one")
	}
	c.Write(api.Write{At: 3, Word: 1})
	m.Do(api.Ask{Kind: api.AskStore, At: 4, New: 1})
	if m.Word(3) != 103 || c.Word(4) != 104 {
		t.Error("the copy shares words")
	}
}

func TestNobodyMade(t *testing.T) {
	for _, m := range []*memory.Memory{nil, {}} {
		m.Write(api.Write{At: 0, Word: 1})
		for kind := range 4 {
			if m.Do(api.Ask{Kind: kind, New: 1}) != 0 {
				t.Error("an access told something")
			}
		}
		if m.Word(0) != 0 || len(m.Words(0, 9)) != 0 || m.Copy() != nil {
			t.Error("there are words")
		}
		for _, told := range m.All(api.Ask{Kind: api.AskLoad}, api.Ask{Kind: api.AskCas}) {
			if told != 0 {
				t.Error("accesses told something")
			}
		}
	}
}

func TestExamples(t *testing.T) {
	m := memory.New(small)
	cas := api.Ask{Kind: api.AskCas, At: 1, Old: 0, New: 7}
	if m.Do(cas) != 1 || m.Do(cas) != 0 || m.Do(api.Ask{Kind: api.AskLoad, At: 1}) != 7 {
		t.Error("an example")
	}
}
