package leaf_test

import (
	"math"
	"slices"
	"testing"

	"gleaning/api"
	"gleaning/leaf"
)

// of is a leaf whose values are ten times its keys.
func of(link uint64, keys ...uint64) api.Node {
	n := api.Node{Link: link}
	for _, k := range keys {
		n.Keys = append(n.Keys, k)
		n.Vals = append(n.Vals, 10*k)
	}
	return n
}

func same(a, b api.Node) bool {
	return a.Inner == b.Inner && a.Link == b.Link && slices.Equal(a.Keys, b.Keys) && slices.Equal(a.Vals, b.Vals)
}

func clone(n api.Node) api.Node {
	n.Keys, n.Vals = slices.Clone(n.Keys), slices.Clone(n.Vals)
	return n
}

// scribble writes over all that was answered, and to the room behind it.
func scribble(nodes ...api.Node) {
	for _, n := range nodes {
		for _, l := range [][]uint64{n.Keys, n.Vals} {
			l = l[:cap(l)]
			for i := range l {
				l[i] = 77
			}
		}
	}
}

var (
	zero = api.Node{}
	// wrong are leaves that may not be.
	wrong = []api.Node{{Inner: true}, {Inner: true, Keys: []uint64{1}, Vals: []uint64{1, 2}}, {Inner: true, Keys: []uint64{1}, Vals: []uint64{1}}, {Keys: []uint64{1}}, {Vals: []uint64{1}}, {Keys: []uint64{1, 2}, Vals: []uint64{1}}, of(5, 2, 2), of(5, 2, 1), of(5, 1, 2, 2)}
	right = []api.Node{zero, {Link: 3}, of(0, 5), of(7, 0), of(7, 1, 3), of(7, 2, 4, 9), of(9, 0, math.MaxUint64), of(1, 1, 2, 3, 4, 5, 6, 7)}
)

func TestRight(t *testing.T) { // 12.1
	for _, n := range right {
		if !leaf.Right(n) {
			t.Errorf("%v may not be", n)
		}
	}
	for _, n := range wrong {
		if leaf.Right(n) {
			t.Errorf("%v may be", n)
		}
	}
}

func TestWrongLeaves(t *testing.T) {
	good := of(5, 10, 20, 30)
	nothing := func(name string, v uint64, ok bool, nodes ...api.Node) {
		for _, n := range nodes {
			if !same(n, zero) || v != 0 || ok {
				t.Errorf("%s of a wrong leaf: %v, %d, %v", name, n, v, ok)
			}
		}
	}
	for _, n := range wrong {
		at, ok := leaf.Find(n, 1)
		nothing("Find", uint64(at), ok, zero)
		x, v, ok := leaf.Put(n, 1, 2)
		nothing("Put", v, ok, x)
		x, v, ok = leaf.Drop(n, 1)
		nothing("Drop", v, ok, x)
		a, b, k := leaf.Split(n)
		nothing("Split", k, false, a, b)
		nothing("Merge", 0, false, leaf.Merge(n, good), leaf.Merge(good, n), leaf.Merge(zero, n), leaf.Merge(n, zero))
		for _, pair := range [][2]api.Node{{n, good}, {good, n}, {n, n}} {
			a, b, k = leaf.FromRight(pair[0], pair[1])
			nothing("FromRight", k, false, a, b)
			a, b, k = leaf.FromLeft(pair[0], pair[1])
			nothing("FromLeft", k, false, a, b)
		}
	}
}

func TestFind(t *testing.T) { // 12.1
	for _, n := range right {
		for _, key := range []uint64{0, 1, 2, 3, 4, 5, 8, 9, 10, math.MaxUint64} {
			below := 0
			for _, k := range n.Keys {
				if k < key {
					below++
				}
			}
			if at, ok := leaf.Find(n, key); at != below || ok != slices.Contains(n.Keys, key) {
				t.Errorf("Find(%v, %d) = %d, %v", n, key, at, ok)
			}
		}
	}
}

func TestPut(t *testing.T) { // 12.2, 12.6
	for _, n := range right {
		was := clone(n)
		for _, key := range []uint64{0, 1, 2, 3, 4, 5, 8, 9, 10, math.MaxUint64} {
			want := map[uint64]uint64{key: 99}
			for i, k := range n.Keys {
				if k != key {
					want[k] = n.Vals[i]
				}
			}
			x, v, ok := leaf.Put(n, key, 99)
			at := slices.Index(n.Keys, key)
			if ok != (at >= 0) || ok && v != n.Vals[at] || !ok && v != 0 {
				t.Errorf("Put(%v, %d) tells %d, %v", n, key, v, ok)
			}
			if !leaf.Right(x) || len(x.Keys) != len(want) || x.Link != n.Link {
				t.Errorf("Put(%v, %d) = %v", n, key, x)
			}
			for i, k := range x.Keys {
				if got, there := want[k]; !there || got != x.Vals[i] {
					t.Errorf("Put(%v, %d) = %v", n, key, x)
				}
			}
			if at, there := leaf.Find(x, key); !there || x.Vals[at] != 99 {
				t.Errorf("what was put is not found")
			}
			scribble(x)
			if !same(n, was) {
				t.Fatal("Put shares what was handed in")
			}
		}
	}
}

func TestDrop(t *testing.T) { // 12.2, 12.6
	for _, n := range right {
		was := clone(n)
		for _, key := range []uint64{0, 1, 2, 3, 4, 5, 8, 9, 10, math.MaxUint64} {
			x, v, ok := leaf.Drop(n, key)
			at := slices.Index(n.Keys, key)
			want := clone(n)
			if at >= 0 {
				want.Keys, want.Vals = slices.Delete(want.Keys, at, at+1), slices.Delete(want.Vals, at, at+1)
			}
			if !same(x, want) || ok != (at >= 0) || ok && v != n.Vals[at] || !ok && v != 0 {
				t.Errorf("Drop(%v, %d) = %v, %d, %v", n, key, x, v, ok)
			}
			if _, there := leaf.Find(x, key); there || !leaf.Right(x) {
				t.Errorf("what was dropped is found")
			}
			scribble(x)
			if !same(n, was) {
				t.Fatal("Drop shares what was handed in")
			}
		}
	}
}

func TestSplit(t *testing.T) { // 12.3, 12.6
	for n := range 12 {
		var keys []uint64
		for i := range n {
			keys = append(keys, uint64(3*i+1))
		}
		x := of(9, keys...)
		a, b, k := leaf.Split(x)
		if n < 2 {
			if !same(a, zero) || !same(b, zero) || k != 0 {
				t.Errorf("a leaf of %d is split", n)
			}
			continue
		}
		half := n - n/2
		if !same(a, of(0, keys[:half]...)) || !same(b, of(9, keys[half:]...)) || k != keys[half] {
			t.Errorf("Split(%v) = %v, %v, %d", x, a, b, k)
		}
		if got := leaf.Merge(a, b); !same(got, x) {
			t.Errorf("Merge of what Split tells = %v, not %v", got, x)
		}
		scribble(a)
		if !same(b, of(9, keys[half:]...)) || !same(x, of(9, keys...)) {
			t.Fatal("Split shares what was handed in, or one half the other one")
		}
	}
}

func TestMerge(t *testing.T) { // 12.3
	for _, x := range []struct{ a, b, want api.Node }{
		{of(4, 1, 2), of(5, 3), of(5, 1, 2, 3)}, {of(4), of(5, 3), of(5, 3)}, {of(4, 1), of(5), of(5, 1)}, {of(4), of(5), of(5)}, {of(4, 1), of(0, 2), of(0, 1, 2)},
		{of(4, 1, 3), of(5, 3), zero}, {of(4, 1, 3), of(5, 2, 4), zero}, {of(4, 5), of(5, 1), zero},
	} {
		a, b := clone(x.a), clone(x.b)
		got := leaf.Merge(a, b)
		if !same(got, x.want) {
			t.Errorf("Merge(%v, %v) = %v", x.a, x.b, got)
		}
		scribble(got)
		if !same(a, x.a) || !same(b, x.b) {
			t.Fatal("Merge shares what was handed in")
		}
	}
}

// moves holds FromRight, or FromLeft, to what it should tell.
func moves(t *testing.T, name string, f func(a, b api.Node) (api.Node, api.Node, uint64), a, b, wantA, wantB api.Node, key uint64) {
	t.Helper()
	wasA, wasB := clone(a), clone(b)
	x, y, k := f(a, b)
	if !same(x, wantA) || !same(y, wantB) || k != key {
		t.Errorf("%s(%v, %v) = %v, %v, %d", name, wasA, wasB, x, y, k)
	}
	scribble(x)
	if !same(y, wantB) {
		t.Errorf("%s: one shares the other one", name)
	}
	scribble(y)
	if !same(a, wasA) || !same(b, wasB) {
		t.Errorf("%s shares what was handed in", name)
	}
}

func TestFromRight(t *testing.T) { // 12.4
	moves(t, "FromRight", leaf.FromRight, of(4, 1), of(5, 3, 5, 7), of(4, 1, 3), of(5, 5, 7), 5)
	moves(t, "FromRight", leaf.FromRight, of(4), of(5, 3, 5), of(4, 3), of(5, 5), 5)
	moves(t, "FromRight", leaf.FromRight, of(4, 1), of(5, 3), zero, zero, 0)
	moves(t, "FromRight", leaf.FromRight, of(4, 1), of(5), zero, zero, 0)
	moves(t, "FromRight", leaf.FromRight, of(4, 3), of(5, 3, 5), zero, zero, 0)
	moves(t, "FromRight", leaf.FromRight, of(4, 6), of(5, 3, 5), zero, zero, 0)
}

func TestFromLeft(t *testing.T) { // 12.4
	moves(t, "FromLeft", leaf.FromLeft, of(4, 1, 3), of(5, 5), of(4, 1), of(5, 3, 5), 3)
	moves(t, "FromLeft", leaf.FromLeft, of(4, 1), of(5, 5), of(4), of(5, 1, 5), 1)
	moves(t, "FromLeft", leaf.FromLeft, of(4, 1, 2), of(5), of(4, 1), of(5, 2), 2)
	moves(t, "FromLeft", leaf.FromLeft, of(4), of(5, 5), zero, zero, 0)
	moves(t, "FromLeft", leaf.FromLeft, of(4, 1, 5), of(5, 5), zero, zero, 0)
	moves(t, "FromLeft", leaf.FromLeft, of(4, 1, 9), of(5, 5), zero, zero, 0)
}

func TestOf(t *testing.T) { // 12.5
	if got := leaf.Of(5); !same(got, of(5)) {
		t.Error(got)
	}
	if got := leaf.Of(5, api.Pair{Key: 1, Value: 10}, api.Pair{Key: 3, Value: 30}); !same(got, of(5, 1, 3)) {
		t.Error(got)
	}
	for _, l := range [][]api.Pair{{{Key: 3}, {Key: 3}}, {{Key: 3}, {Key: 1}}, {{Key: 1}, {Key: 5}, {Key: 4}}} {
		if got := leaf.Of(5, l...); !same(got, zero) {
			t.Error(got)
		}
	}
}

func TestExamples(t *testing.T) {
	a, b, k := leaf.Split(leaf.Of(0, api.Pair{Key: 1, Value: 10}, api.Pair{Key: 3, Value: 30}, api.Pair{Key: 5, Value: 50}))
	if !same(a, of(0, 1, 3)) || !same(b, of(0, 5)) || k != 5 {
		t.Error("an example")
	}
	if a, b, k = leaf.FromLeft(a, b); !same(a, of(0, 1)) || !same(b, of(0, 3, 5)) || k != 3 {
		t.Error("an example")
	}
}
