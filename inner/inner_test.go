package inner_test

import (
	"math"
	"slices"
	"testing"

	"gleaning/api"
	"gleaning/inner"
)

// of is an inner node, with a link.
func of(link uint64, keys []uint64, vals ...uint64) api.Node {
	return api.Node{Inner: true, Keys: keys, Vals: vals, Link: link}
}

func same(a, b api.Node) bool {
	return a.Inner == b.Inner && a.Link == b.Link && slices.Equal(a.Keys, b.Keys) && slices.Equal(a.Vals, b.Vals)
}

func clone(n api.Node) api.Node {
	n.Keys, n.Vals = slices.Clone(n.Keys), slices.Clone(n.Vals)
	return n
}

// scribble writes over all that was answered, and to the room behind it.
func scribble(n api.Node) {
	for _, l := range [][]uint64{n.Keys, n.Vals} {
		l = l[:cap(l)]
		for i := range l {
			l[i] = 77
		}
	}
}

type keys = []uint64

var (
	zero  = api.Node{}
	wrong = []api.Node{{}, {Keys: keys{1}, Vals: keys{1}}, {Keys: keys{1}, Vals: keys{1, 2}}, of(0, nil), of(0, keys{1}), of(0, keys{1}, 5), of(0, nil, 5, 6), of(0, keys{1, 2}, 5, 6), of(0, keys{2, 2}, 5, 6, 7), of(0, keys{2, 1}, 5, 6, 7)}
	right = []api.Node{of(3, nil, 5), of(4, keys{0}, 5, 6), of(4, keys{5}, 5, 5), of(0, keys{5, 9}, 7, 8, 3), of(9, keys{2, 4, 6, math.MaxUint64}, 1, 2, 3, 4, 5)}
)

func TestRight(t *testing.T) { // 13.1
	for _, n := range right {
		if !inner.Right(n) {
			t.Errorf("%v may not be", n)
		}
	}
	for _, n := range wrong {
		if inner.Right(n) {
			t.Errorf("%v may be", n)
		}
	}
}

func TestWrongNodes(t *testing.T) {
	good := of(5, keys{20, 30}, 1, 2, 3)
	nothing := func(name string, v uint64, ok bool, nodes ...api.Node) {
		for _, n := range nodes {
			if !same(n, zero) || v != 0 || ok {
				t.Errorf("%s of a wrong node: %v, %d, %v", name, n, v, ok)
			}
		}
	}
	for _, n := range wrong {
		nothing("Child", uint64(inner.Child(n, 9)), false, zero)
		x, ok := inner.Add(n, 1, 50, 9)
		nothing("Add", 0, ok, x)
		x, ok = inner.Drop(n, 0)
		nothing("Drop", 0, ok, x)
		a, b, k := inner.Split(n)
		nothing("Split", k, false, a, b)
		nothing("Merge", 0, false, inner.Merge(n, 10, good), inner.Merge(good, 40, n))
		for _, pair := range [][2]api.Node{{n, good}, {good, n}} {
			for _, key := range []uint64{10, 40} {
				a, b, k = inner.FromRight(pair[0], key, pair[1])
				nothing("FromRight", k, false, a, b)
				a, b, k = inner.FromLeft(pair[0], key, pair[1])
				nothing("FromLeft", k, false, a, b)
			}
		}
	}
}

func TestChild(t *testing.T) { // 13.1
	for _, n := range right {
		for _, key := range []uint64{0, 1, 2, 3, 4, 5, 6, 8, 9, 10, math.MaxUint64} {
			want := 0
			for _, k := range n.Keys {
				if k <= key {
					want++
				}
			}
			if got := inner.Child(n, key); got != want {
				t.Errorf("Child(%v, %d) = %d", n, key, got)
			}
		}
	}
}

func TestAdd(t *testing.T) { // 13.2, 13.6
	for _, n := range right {
		was := clone(n)
		for i := -1; i <= len(n.Vals)+1; i++ {
			for _, key := range []uint64{0, 1, 2, 3, 4, 5, 7, 9, 10, math.MaxUint64} {
				want, may := zero, false
				if i >= 1 && i <= len(n.Vals) {
					x := clone(n)
					x.Keys, x.Vals = slices.Insert(x.Keys, i-1, key), slices.Insert(x.Vals, i, 99)
					if may = slices.IsSorted(x.Keys) && len(slices.Compact(slices.Clone(x.Keys))) == len(x.Keys); may {
						want = x
					}
				}
				got, ok := inner.Add(n, i, key, 99)
				if !same(got, want) || ok != may {
					t.Errorf("Add(%v, %d, %d) = %v, %v", n, i, key, got, ok)
				}
				for k := range uint64(12) {
					if ok && inner.Child(got, k) != i && got.Vals[inner.Child(got, k)] != n.Vals[inner.Child(n, k)] {
						t.Errorf("behind Add(%v, %d, %d) %d is looked for elsewhere", n, i, key, k)
					}
				}
				scribble(got)
				if !same(n, was) {
					t.Fatal("Add shares what was handed in")
				}
			}
		}
		for _, i := range []int{math.MinInt, math.MaxInt} {
			if got, ok := inner.Add(n, i, 3, 99); ok || !same(got, zero) {
				t.Errorf("Add at %d", i)
			}
		}
	}
}

func TestDrop(t *testing.T) { // 13.2, 13.6
	for _, n := range right {
		was := clone(n)
		for _, i := range []int{math.MinInt, -1, 0, 1, 2, 3, 4, 5, 6, math.MaxInt} {
			want, may := zero, i >= 0 && i < len(n.Vals) && len(n.Vals) > 1
			if may {
				want = clone(n)
				k := max(i-1, 0)
				want.Keys, want.Vals = slices.Delete(want.Keys, k, k+1), slices.Delete(want.Vals, i, i+1)
			}
			got, ok := inner.Drop(n, i)
			if !same(got, want) || ok != may {
				t.Errorf("Drop(%v, %d) = %v, %v", n, i, got, ok)
			}
			for k := range uint64(12) {
				if c := inner.Child(n, k); ok && c != i && got.Vals[inner.Child(got, k)] != n.Vals[c] {
					t.Errorf("behind Drop(%v, %d) %d is looked for elsewhere", n, i, k)
				}
			}
			scribble(got)
			if !same(n, was) {
				t.Fatal("Drop shares what was handed in")
			}
		}
	}
}

func TestSplit(t *testing.T) { // 13.3, 13.6
	for many := 1; many < 12; many++ {
		n := of(9, nil)
		for i := range many {
			n.Vals = append(n.Vals, uint64(100+i))
			if i > 0 {
				n.Keys = append(n.Keys, uint64(3*i))
			}
		}
		was := clone(n)
		a, b, k := inner.Split(n)
		if many < 2 {
			if !same(a, zero) || !same(b, zero) || k != 0 {
				t.Errorf("a node of %d is split", many)
			}
			continue
		}
		half := many - many/2
		wantB := of(0, n.Keys[half:], n.Vals[half:]...)
		if !same(a, of(0, n.Keys[:half-1], n.Vals[:half]...)) || !same(b, wantB) || k != n.Keys[half-1] {
			t.Errorf("Split(%v) = %v, %v, %d", n, a, b, k)
		}
		if got := inner.Merge(a, k, b); !same(got, of(0, n.Keys, n.Vals...)) {
			t.Errorf("Merge of what Split tells = %v", got)
		}
		wantB = clone(wantB)
		scribble(a)
		if !same(b, wantB) || !same(n, was) {
			t.Fatal("Split shares what was handed in, or one half the other one")
		}
	}
}

func TestMerge(t *testing.T) { // 13.3
	for _, x := range []struct {
		a    api.Node
		key  uint64
		b    api.Node
		want api.Node
	}{
		{of(4, keys{5}, 1, 2), 7, of(5, keys{9}, 3, 4), of(4, keys{5, 7, 9}, 1, 2, 3, 4)},
		{of(4, nil, 1), 7, of(5, nil, 3), of(4, keys{7}, 1, 3)},
		{of(4, keys{5}, 1, 2), 5, of(5, keys{9}, 3, 4), zero},
		{of(4, keys{5}, 1, 2), 4, of(5, keys{9}, 3, 4), zero},
		{of(4, keys{5}, 1, 2), 9, of(5, keys{9}, 3, 4), zero},
		{of(4, keys{5}, 1, 2), 10, of(5, keys{9}, 3, 4), zero},
	} {
		a, b := clone(x.a), clone(x.b)
		got := inner.Merge(a, x.key, b)
		if !same(got, x.want) {
			t.Errorf("Merge(%v, %d, %v) = %v", x.a, x.key, x.b, got)
		}
		scribble(got)
		if !same(a, x.a) || !same(b, x.b) {
			t.Fatal("Merge shares what was handed in")
		}
	}
}

type move func(a api.Node, key uint64, b api.Node) (api.Node, api.Node, uint64)

// moves holds FromRight, or FromLeft, to what it should tell.
func moves(t *testing.T, f move, a api.Node, key uint64, b, wantA, wantB api.Node, wantKey uint64) {
	t.Helper()
	wasA, wasB := clone(a), clone(b)
	x, y, k := f(a, key, b)
	if !same(x, wantA) || !same(y, wantB) || k != wantKey {
		t.Errorf("of %v, %d, %v it is %v, %v, %d", wasA, key, wasB, x, y, k)
	}
	scribble(x)
	if !same(y, wantB) {
		t.Error("one shares the other one")
	}
	scribble(y)
	if !same(a, wasA) || !same(b, wasB) {
		t.Error("what is answered shares what was handed in")
	}
}

func TestFromRight(t *testing.T) { // 13.4
	moves(t, inner.FromRight, of(4, keys{5}, 1, 2), 7, of(5, keys{9, 11}, 3, 4, 6), of(4, keys{5, 7}, 1, 2, 3), of(5, keys{11}, 4, 6), 9)
	moves(t, inner.FromRight, of(4, nil, 1), 7, of(5, keys{9}, 3, 4), of(4, keys{7}, 1, 3), of(5, nil, 4), 9)
	moves(t, inner.FromRight, of(4, nil, 1), 7, of(5, nil, 3), zero, zero, 0)
	moves(t, inner.FromRight, of(4, keys{5}, 1, 2), 5, of(5, keys{9}, 3, 4), zero, zero, 0)
	moves(t, inner.FromRight, of(4, keys{5}, 1, 2), 9, of(5, keys{9}, 3, 4), zero, zero, 0)
}

func TestFromLeft(t *testing.T) { // 13.4
	moves(t, inner.FromLeft, of(4, keys{3, 5}, 1, 2, 8), 7, of(5, keys{9}, 3, 4), of(4, keys{3}, 1, 2), of(5, keys{7, 9}, 8, 3, 4), 5)
	moves(t, inner.FromLeft, of(4, keys{5}, 1, 2), 7, of(5, nil, 3), of(4, nil, 1), of(5, keys{7}, 2, 3), 5)
	moves(t, inner.FromLeft, of(4, nil, 1), 7, of(5, keys{9}, 3, 4), zero, zero, 0)
	moves(t, inner.FromLeft, of(4, keys{5}, 1, 2), 5, of(5, keys{9}, 3, 4), zero, zero, 0)
	moves(t, inner.FromLeft, of(4, keys{5}, 1, 2), 9, of(5, keys{9}, 3, 4), zero, zero, 0)
}

func TestOf(t *testing.T) { // 13.5
	if got := inner.Of(7); !same(got, of(0, nil, 7)) {
		t.Error(got)
	}
	if got := inner.Of(7, api.Pair{Key: 5, Value: 8}, api.Pair{Key: 9, Value: 3}); !same(got, of(0, keys{5, 9}, 7, 8, 3)) {
		t.Error(got)
	}
	for _, l := range [][]api.Pair{{{Key: 3}, {Key: 3}}, {{Key: 3}, {Key: 1}}, {{Key: 1}, {Key: 5}, {Key: 4}}} {
		if got := inner.Of(7, l...); !same(got, zero) {
			t.Error(got)
		}
	}
}

func TestExamples(t *testing.T) {
	n := inner.Of(7, api.Pair{Key: 5, Value: 8}, api.Pair{Key: 9, Value: 3})
	a, b, k := inner.Split(n)
	if inner.Child(n, 5) != 1 || !same(a, of(0, keys{5}, 7, 8)) || !same(b, of(0, nil, 3)) || k != 9 {
		t.Error("an example")
	}
}
