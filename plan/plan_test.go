package plan_test

import (
	"fmt"
	"math"
	"slices"
	"strings"
	"testing"

	"gleaning/api"
	"gleaning/arena"
	"gleaning/handle"
	"gleaning/inner"
	"gleaning/layout"
	"gleaning/leaf"
	"gleaning/memory"
	"gleaning/plan"
	"gleaning/vword"
)

var (
	conf = api.Config{Slots: 9, Threads: 1, Fan: 4, Limbo: 1, Patience: 1}
	l    = layout.New(conf)
)

// h is the handle of the part of a slot that part makes.
func h(slot int) uint64 { return handle.Make(uint64(slot+10), slot) }

// part is a part of a slot, whose generation is ten more, and whose count is twenty more.
func part(slot int, n api.Node) plan.Part {
	return plan.Part{Slot: slot, Version: vword.Make(uint64(slot+10), uint64(slot+20), false, false), Node: n}
}

// fresh is one that is dead.
func fresh(slot int) plan.Part {
	return plan.Part{Slot: slot, Version: vword.Make(uint64(slot+10), uint64(slot+20), true, false)}
}

// of is a leaf whose values are ten times its keys.
func of(link uint64, keys ...uint64) api.Node {
	n := api.Node{Link: link}
	for _, k := range keys {
		n.Keys = append(n.Keys, k)
		n.Vals = append(n.Vals, 10*k)
	}
	return n
}

type keys = []uint64

func in(keys []uint64, vals ...uint64) api.Node { return api.Node{Inner: true, Keys: keys, Vals: vals} }

// tell is a plan as words: k, v of keys and values, l of links, s of shapes, V of versions, by slots.
func tell(writes []api.Write) string {
	var words []string
	for _, w := range writes {
		p := l.What(w.At)
		switch p.Kind {
		case layout.AtKey:
			words = append(words, fmt.Sprintf("k%d.%d=%d", p.Of, p.I, w.Word))
		case layout.AtValue:
			words = append(words, fmt.Sprintf("v%d.%d=%d", p.Of, p.I, w.Word))
		case layout.AtLink:
			words = append(words, fmt.Sprintf("l%d=%d", p.Of, w.Word))
		case layout.AtShape:
			words = append(words, fmt.Sprintf("s%d=%v%d", p.Of, map[bool]string{false: "L", true: "I"}[layout.Inner(w.Word)], layout.Entries(w.Word, 99)))
		case layout.AtVersion:
			s := fmt.Sprintf("V%d=%d/%d", p.Of, vword.Gen(w.Word), vword.Count(w.Word))
			if vword.Dead(w.Word) {
				s += "d"
			}
			if vword.Locked(w.Word) {
				s += "l"
			}
			words = append(words, s)
		default:
			words = append(words, fmt.Sprintf("?%d=%d", w.At, w.Word))
		}
	}
	return strings.Join(words, " ")
}

// plans are some that go, with their words.
var plans = []struct {
	name, want string
	got        []api.Write
}{
	{"Set", "v2.1=99 V2=12/23", plan.Set(l, x, 1, 99)},
	{"Insert at 0", "k2.2=5 v2.2=50 s2=L3 k2.1=3 v2.1=30 k2.0=1 v2.0=11 V2=12/23", plan.Insert(l, x, 0, 1, 11)},
	{"Insert at 1", "k2.2=5 v2.2=50 s2=L3 k2.1=4 v2.1=44 V2=12/23", plan.Insert(l, x, 1, 4, 44)},
	{"Insert at the end", "k2.2=9 v2.2=99 s2=L3 V2=12/23", plan.Insert(l, x, 2, 9, 99)},
	{"Insert of the first", "k2.0=9 v2.0=99 s2=L1 V2=12/23", plan.Insert(l, part(2, of(0)), 0, 9, 99)},
	{"Insert at 0 of three", "k2.3=5 v2.3=50 s2=L4 k2.2=3 v2.2=30 k2.1=1 v2.1=10 k2.0=0 v2.0=7 V2=12/23", plan.Insert(l, three, 0, 0, 7)},
	{"Remove of 0", "k2.0=3 v2.0=30 k2.1=5 v2.1=50 s2=L2 V2=12/23", plan.Remove(l, three, 0)},
	{"Remove of 1", "k2.1=5 v2.1=50 s2=L2 V2=12/23", plan.Remove(l, three, 1)},
	{"Remove of 2", "s2=L2 V2=12/23", plan.Remove(l, three, 2)},
	{"Remove of the only one", "s2=L0 V2=12/23", plan.Remove(l, part(2, of(5, 1)), 0)},
	{"Split of a leaf", "V5=16/26l k5.0=5 v5.0=50 l5=77 s5=L1 l2=1048581 k1.2=40 v1.3=104 s1=I4 k1.1=20 v1.2=103 k1.0=5 v1.1=1048581 s2=L2 V5=16/27 V2=12/23 V1=11/22", plan.Split(l, p, 0, three, fresh(5))},
	{"Split of the last leaf", "V5=16/26l k5.0=60 v5.0=600 l5=0 s5=L1 l4=1048581 k1.2=60 v1.3=1048581 s1=I4 s4=L1 V5=16/27 V4=14/25 V1=11/22", plan.Split(l, p, 2, part(4, of(0, 50, 60)), fresh(5))},
	{"Split of an inner node", "V5=16/26l v5.0=93 k5.0=15 v5.1=94 l5=0 s5=I2 k1.2=40 v1.3=104 s1=I4 k1.1=20 v1.2=103 k1.0=10 v1.1=1048581 s2=I2 V5=16/27 V2=12/23 V1=11/22", plan.Split(l, p, 0, ix, fresh(5))},
	{"Root of a leaf", "V5=16/26l k5.0=5 v5.0=50 l5=77 s5=L1 l2=1048581 V6=17/27l v6.0=786434 k6.0=5 v6.1=1048581 l6=0 s6=I2 v0.0=1114118 s2=L2 V5=16/27 V6=17/28 V2=12/23 V0=10/21", plan.Root(l, root, three, fresh(5), fresh(6))},
	{"Root of an inner node", "V5=16/26l v5.0=93 k5.0=15 v5.1=94 l5=0 s5=I2 V6=17/27l v6.0=786434 k6.0=10 v6.1=1048581 l6=0 s6=I2 v0.0=1114118 s2=I2 V5=16/27 V6=17/28 V2=12/23 V0=10/21", plan.Root(l, root, ix, fresh(5), fresh(6))},
	{"Merge of leaves", "k2.2=30 v2.2=300 k2.3=35 v2.3=350 s2=L4 l2=88 k1.0=40 v1.1=104 s1=I2 V2=12/23 V3=13/24d V1=11/22", plan.Merge(l, p, 0, x, part(3, of(88, 30, 35)))},
	{"Merge of two without entries", "s3=L0 l3=66 s1=I2 V3=13/24 V4=14/25d V1=11/22", plan.Merge(l, p, 1, part(3, of(88)), part(4, of(66)))},
	{"Merge of two without entries, or links", "s3=L0 l3=0 s1=I2 V3=13/24 V4=14/25d V1=11/22", plan.Merge(l, p, 1, part(3, of(0)), part(4, of(0)))},
	{"Merge of inner nodes", "k2.1=20 v2.2=95 k2.2=30 v2.3=96 s2=I4 k1.0=40 v1.1=104 s1=I2 V2=12/23 V3=13/24d V1=11/22", plan.Merge(l, p, 0, part(2, in(keys{5}, 91, 92)), part(3, in(keys{30}, 95, 96)))},
	{"FromRight of leaves", "k2.2=30 v2.2=300 s2=L3 k3.0=35 v3.0=350 k3.1=38 v3.1=380 s3=L2 k1.0=35 V2=12/23 V3=13/24 V1=11/22", plan.FromRight(l, p, 0, x, part(3, of(88, 30, 35, 38)))},
	{"FromRight of inner nodes", "k2.1=20 v2.2=95 s2=I3 v3.0=96 k3.0=35 v3.1=97 s3=I2 k1.0=30 V2=12/23 V3=13/24 V1=11/22", plan.FromRight(l, p, 0, part(2, in(keys{5}, 91, 92)), part(3, in(keys{30, 35}, 95, 96, 97)))},
	{"FromLeft of leaves", "k3.3=38 v3.3=380 s3=L4 k3.2=35 v3.2=350 k3.1=30 v3.1=300 k3.0=5 v3.0=50 s2=L2 k1.0=5 V2=12/23 V3=13/24 V1=11/22", plan.FromLeft(l, p, 0, three, part(3, of(88, 30, 35, 38)))},
	{"FromLeft of the only one", "k3.0=5 v3.0=50 s3=L1 s2=L0 k1.0=5 V2=12/23 V3=13/24 V1=11/22", plan.FromLeft(l, p, 0, part(2, of(0, 5)), part(3, of(0)))},
	{"FromLeft of inner nodes", "k3.2=35 v3.3=97 s3=I4 k3.1=30 v3.2=96 k3.0=20 v3.1=95 v3.0=94 s2=I3 k1.0=15 V2=12/23 V3=13/24 V1=11/22", plan.FromLeft(l, p, 0, ix, part(3, in(keys{30, 35}, 95, 96, 97)))},
	{"FromLeft to an only child", "k3.0=20 v3.1=95 s3=I2 v3.0=94 s2=I3 k1.0=15 V2=12/23 V3=13/24 V1=11/22", plan.FromLeft(l, p, 0, ix, part(3, in(nil, 95)))},
	{"Shrink", "v0.0=91 V2=12/23d V0=10/21", plan.Shrink(l, root, part(2, in(nil, 91)))},
}

var (
	x     = part(2, of(h(3), 3, 5))
	three = part(2, of(77, 1, 3, 5))
	four  = part(2, of(77, 1, 3, 5, 7))
	ix    = part(2, in(keys{5, 10, 15}, 91, 92, 93, 94))
	p     = part(1, in(keys{20, 40}, 102, 103, 104))
	root  = part(0, in(nil, h(2)))
)

func TestPlans(t *testing.T) { // 14.1 to 14.6
	for _, y := range plans {
		if got := tell(y.got); got != y.want {
			t.Errorf("%s:\n%s, not\n%s", y.name, got, y.want)
		}
	}
}

func TestHandles(t *testing.T) {
	for _, slot := range []int{1, 9, 65535} {
		y := plan.Part{Slot: slot, Version: vword.Make(7, 8, true, false)}
		if y.Handle() != handle.Make(7, slot) || y.Fresh() != handle.Make(8, slot) {
			t.Errorf("slot %d: %x, %x", slot, y.Handle(), y.Fresh())
		}
	}
	last := plan.Part{Slot: 3, Version: math.MaxUint64}
	if last.Handle() != handle.Make(1<<24-1, 3) || last.Fresh() != 3 {
		t.Error("the last generation's next one is not the first one")
	}
	for _, slot := range []int{0, -1, 65536} {
		if y := (plan.Part{Slot: slot}); y.Handle() != 0 || y.Fresh() != 0 {
			t.Errorf("slot %d has a handle", slot)
		}
	}
}

// at is a part in another slot.
func at(slot int, p plan.Part) plan.Part {
	p.Slot = slot
	return p
}

func TestNotALeaf(t *testing.T) { // 14.1
	full := part(2, of(0, 1, 2, 3, 4))
	for i, got := range [][]api.Write{
		plan.Set(l, x, 2, 9), plan.Set(l, x, -1, 9), plan.Set(l, x, math.MaxInt, 9), plan.Set(l, x, math.MinInt, 9), plan.Set(l, at(0, x), 0, 9), plan.Set(l, at(10, x), 0, 9), plan.Set(l, at(-1, x), 0, 9),
		plan.Set(l, ix, 0, 9), plan.Set(l, part(2, of(0, 5, 5)), 0, 9), plan.Set(l, part(2, of(0, 1, 2, 3, 4, 5)), 0, 9), plan.Set(layout.Layout{}, x, 0, 9), plan.Set(l, part(2, of(0)), 0, 9),
		plan.Insert(l, full, 4, 9, 9), plan.Insert(l, x, 3, 9, 9), plan.Insert(l, x, -1, 1, 9), plan.Insert(l, x, 0, 3, 9), plan.Insert(l, x, 0, 4, 9), plan.Insert(l, x, 1, 3, 9), plan.Insert(l, x, 1, 5, 9), plan.Insert(l, x, 1, 2, 9), plan.Insert(l, x, 1, 6, 9),
		plan.Insert(l, x, 2, 5, 9), plan.Insert(l, x, 2, 4, 9), plan.Insert(l, at(0, x), 0, 1, 9), plan.Insert(l, at(10, x), 0, 1, 9), plan.Insert(l, part(2, in(keys{5}, 91, 92)), 0, 1, 9), plan.Insert(layout.Layout{}, x, 0, 1, 9),
		plan.Insert(l, x, math.MaxInt, 9, 9), plan.Insert(l, x, math.MinInt, 9, 9), plan.Insert(l, part(2, api.Node{Keys: keys{1}}), 0, 0, 9),
		plan.Remove(l, x, 2), plan.Remove(l, x, -1), plan.Remove(l, x, math.MaxInt), plan.Remove(l, at(0, x), 0), plan.Remove(l, at(10, x), 0), plan.Remove(l, ix, 0), plan.Remove(l, part(2, of(0, 5, 4)), 0), plan.Remove(layout.Layout{}, x, 0), plan.Remove(l, part(2, of(0)), 0),
	} {
		if len(got) != 0 {
			t.Errorf("%d: %s", i, tell(got))
		}
	}
}

func TestNoSplit(t *testing.T) { // 14.2, 14.3
	fullP := part(1, in(keys{20, 40, 60}, 102, 103, 104, 105))
	for i, got := range [][]api.Write{
		plan.Split(l, fullP, 0, three, fresh(5)), plan.Split(l, p, 3, three, fresh(5)), plan.Split(l, p, -1, three, fresh(5)), plan.Split(l, p, math.MaxInt, three, fresh(5)), plan.Split(l, p, math.MinInt, three, fresh(5)),
		plan.Split(l, p, 0, part(2, of(0, 1)), fresh(5)), plan.Split(l, p, 0, part(2, in(nil, 91)), fresh(5)), plan.Split(l, part(1, of(0, 1, 2)), 0, three, fresh(5)),
		plan.Split(l, p, 1, three, fresh(5)), plan.Split(l, p, 2, three, fresh(5)), plan.Split(l, p, 0, part(2, of(0, 1, 20)), fresh(5)), plan.Split(l, p, 0, part(2, of(0, 1, 21)), fresh(5)), plan.Split(l, p, 1, part(2, of(0, 1, 20)), fresh(5)),
		plan.Split(l, p, 0, at(1, three), fresh(5)), plan.Split(l, p, 0, three, fresh(2)), plan.Split(l, p, 0, three, fresh(1)), plan.Split(l, p, 0, three, fresh(0)), plan.Split(l, p, 0, three, fresh(10)), plan.Split(l, p, 0, at(0, three), fresh(5)), plan.Split(l, at(10, p), 0, three, fresh(5)), plan.Split(l, at(-1, p), 0, three, fresh(5)), plan.Split(l, p, 0, at(10, three), fresh(5)),
		plan.Split(l, part(1, in(keys{40, 20}, 102, 103, 104)), 0, three, fresh(5)), plan.Split(l, p, 0, part(2, of(0, 1, 5, 3)), fresh(5)), plan.Split(l, p, 0, part(2, of(0, 1, 2, 3, 4, 5)), fresh(5)), plan.Split(layout.Layout{}, p, 0, three, fresh(5)),
		plan.Split(l, part(1, in(nil)), 0, three, fresh(5)),
		plan.Root(l, part(0, in(keys{5}, h(2), h(3))), three, fresh(5), fresh(6)), plan.Root(l, part(0, of(0, 1)), three, fresh(5), fresh(6)), plan.Root(l, root, part(2, of(0, 1)), fresh(5), fresh(6)), plan.Root(l, root, part(2, in(nil, 91)), fresh(5), fresh(6)), plan.Root(l, root, part(2, of(0)), fresh(5), fresh(6)),
		plan.Root(l, root, three, fresh(5), fresh(5)), plan.Root(l, root, three, fresh(2), fresh(6)), plan.Root(l, root, three, fresh(5), fresh(2)), plan.Root(l, root, three, fresh(5), fresh(0)), plan.Root(l, root, three, fresh(0), fresh(6)), plan.Root(l, root, three, fresh(5), fresh(10)), plan.Root(l, root, three, fresh(-1), fresh(6)),
		plan.Root(l, root, at(0, three), fresh(5), fresh(6)), plan.Root(l, at(10, root), three, fresh(5), fresh(6)), plan.Root(l, root, part(2, of(0, 5, 5)), fresh(5), fresh(6)), plan.Root(layout.Layout{}, root, three, fresh(5), fresh(6)),
	} {
		if len(got) != 0 {
			t.Errorf("%d: %s", i, tell(got))
		}
	}
}

func TestNoMerge(t *testing.T) { // 14.4
	y := part(3, of(88, 30, 35))
	for i, got := range [][]api.Write{
		plan.Merge(l, p, 0, three, y), plan.Merge(l, p, 2, x, y), plan.Merge(l, p, -1, x, y), plan.Merge(l, p, math.MaxInt, x, y), plan.Merge(l, p, math.MinInt, x, y), plan.Merge(l, root, 0, x, y), plan.Merge(l, part(1, of(0, 1, 2)), 0, x, y),
		plan.Merge(l, p, 0, x, part(3, in(keys{30}, 95, 96))), plan.Merge(l, p, 0, part(2, in(nil, 91)), y), plan.Merge(l, p, 0, x, part(3, of(0, 5, 9))), plan.Merge(l, p, 0, x, part(3, of(0, 4))), plan.Merge(l, p, 0, y, x),
		plan.Merge(l, p, 0, part(2, in(keys{20}, 91, 92)), part(3, in(keys{30}, 95, 96))), plan.Merge(l, p, 0, part(2, in(keys{5}, 91, 92)), part(3, in(keys{20}, 95, 96))), plan.Merge(l, p, 0, part(2, in(keys{5}, 91, 92)), part(3, in(keys{30, 35}, 95, 96, 97))),
		plan.Merge(l, p, 0, x, at(2, y)), plan.Merge(l, p, 0, x, at(1, y)), plan.Merge(l, p, 0, x, at(0, y)), plan.Merge(l, p, 0, at(0, x), y), plan.Merge(l, p, 0, at(10, x), y), plan.Merge(l, at(10, p), 0, x, y), plan.Merge(layout.Layout{}, p, 0, x, y),
		plan.Merge(l, part(1, in(keys{20, 20}, 1, 2, 3)), 0, x, y), plan.Merge(l, p, 0, part(2, of(0, 5, 5)), y), plan.Merge(l, p, 0, part(2, in(nil)), part(3, in(nil))),
	} {
		if len(got) != 0 {
			t.Errorf("%d: %s", i, tell(got))
		}
	}
}

func TestNoBalance(t *testing.T) { // 14.5
	y, iy := part(3, of(88, 30, 35, 38)), part(3, in(keys{30, 35}, 95, 96, 97))
	small := part(2, in(keys{5}, 91, 92))
	for i, got := range [][]api.Write{
		plan.FromRight(l, p, 0, four, y), plan.FromRight(l, p, 0, x, part(3, of(0, 30))), plan.FromRight(l, p, 0, x, part(3, of(0))), plan.FromRight(l, p, 0, x, part(3, of(0, 5, 30))), plan.FromRight(l, p, 0, x, iy), plan.FromRight(l, p, 0, small, y),
		plan.FromRight(l, p, 0, x, part(3, of(0, 30, 40))), plan.FromRight(l, p, 0, x, part(3, of(0, 30, 41))), plan.FromRight(l, p, 1, part(2, of(0, 3)), part(3, of(0, 10, 20))), plan.FromRight(l, p, 1, part(2, of(0, 3)), part(3, of(0, 10, 15))),
		plan.FromRight(l, p, 0, small, part(3, in(nil, 95))), plan.FromRight(l, p, 0, small, part(3, in(keys{40, 45}, 95, 96, 97))), plan.FromRight(l, p, 0, part(2, in(keys{20}, 91, 92)), iy), plan.FromRight(l, p, 0, ix, iy),
		plan.FromRight(l, p, 2, x, y), plan.FromRight(l, p, -1, x, y), plan.FromRight(l, p, math.MaxInt, x, y), plan.FromRight(l, root, 0, x, y), plan.FromRight(l, part(1, of(0, 1, 2)), 0, x, y), plan.FromRight(l, p, 0, x, at(2, y)), plan.FromRight(l, p, 0, x, at(1, y)), plan.FromRight(l, p, 0, at(0, x), y), plan.FromRight(l, p, 0, x, at(10, y)), plan.FromRight(layout.Layout{}, p, 0, x, y),
		plan.FromLeft(l, p, 0, x, part(3, of(0, 30, 31, 32, 33))), plan.FromLeft(l, p, 0, part(2, of(9)), y), plan.FromLeft(l, p, 0, part(2, of(0, 30)), y), plan.FromLeft(l, p, 0, x, iy), plan.FromLeft(l, p, 0, small, y),
		plan.FromLeft(l, p, 1, part(2, of(0, 3, 20)), y), plan.FromLeft(l, p, 1, part(2, of(0, 3, 15)), y), plan.FromLeft(l, p, 0, part(2, of(0, 40)), part(3, of(0, 50))), plan.FromLeft(l, p, 0, part(2, of(0, 45)), part(3, of(0, 50))),
		plan.FromLeft(l, p, 0, part(2, in(nil, 91)), iy), plan.FromLeft(l, p, 0, part(2, in(keys{20}, 91, 92)), iy), plan.FromLeft(l, p, 0, small, part(3, in(keys{30, 35, 36}, 95, 96, 97, 98))), plan.FromLeft(l, p, 1, part(2, in(keys{15}, 91, 92)), part(3, in(keys{50}, 95, 96))),
		plan.FromLeft(l, p, 2, x, y), plan.FromLeft(l, p, -1, x, y), plan.FromLeft(l, p, math.MaxInt, x, y), plan.FromLeft(l, root, 0, x, y), plan.FromLeft(l, p, 0, x, at(2, y)), plan.FromLeft(l, p, 0, at(0, x), y), plan.FromLeft(l, p, 0, at(10, x), y), plan.FromLeft(layout.Layout{}, p, 0, x, y),
	} {
		if len(got) != 0 {
			t.Errorf("%d: %s", i, tell(got))
		}
	}
}

func TestNoShrink(t *testing.T) { // 14.6
	y := part(2, in(nil, 91))
	for i, got := range [][]api.Write{
		plan.Shrink(l, p, y), plan.Shrink(l, root, part(2, in(keys{5}, 91, 92))), plan.Shrink(l, root, part(2, of(0, 1))), plan.Shrink(l, part(0, of(0, 1)), y), plan.Shrink(l, root, at(0, y)), plan.Shrink(l, at(2, root), y), plan.Shrink(l, root, at(10, y)), plan.Shrink(l, at(-1, root), y),
		plan.Shrink(l, root, part(2, in(nil))), plan.Shrink(l, part(0, in(nil)), y), plan.Shrink(layout.Layout{}, root, y),
	} {
		if len(got) != 0 {
			t.Errorf("%d: %s", i, tell(got))
		}
	}
}

func TestAnchorAlone(t *testing.T) { // the anchor may be any plan's parent
	y := part(3, of(88, 30, 35))
	for i, got := range [][]api.Write{plan.Split(l, at(0, p), 0, three, fresh(5)), plan.Merge(l, at(0, p), 0, x, y), plan.FromRight(l, at(0, p), 0, x, y), plan.FromLeft(l, at(0, p), 0, x, y), plan.Root(l, part(7, in(nil, h(2))), three, fresh(5), fresh(6)), plan.Shrink(l, part(7, in(nil, h(2))), part(2, in(nil, 91)))} {
		if len(got) == 0 {
			t.Errorf("%d: it does not go", i)
		}
	}
}

// laid is a memory in which parts stand, locked.
func laid(parts ...plan.Part) *memory.Memory {
	m := memory.New(conf)
	for _, y := range parts {
		m.Write(arena.Words(l, y.Slot, y.Node)...)
		m.Write(api.Write{At: l.Version(y.Slot), Word: vword.Lock(y.Version)})
	}
	return m
}

// children are those of nodes, and of those fresh ones that are children themselves.
func children(m *memory.Memory, slots []int, fresh ...plan.Part) map[uint64]bool {
	out := map[uint64]bool{}
	for range 3 { // a fresh one may be a child of a fresh one
		for _, s := range slots {
			if n := arena.Node(m, s); n.Inner {
				for _, c := range n.Vals {
					out[c] = true
				}
			}
		}
		for _, f := range fresh {
			if out[f.Fresh()] {
				slots = append(slots, f.Slot)
			}
		}
	}
	return out
}

// holds writes a plan word by word: no child is lost between, and what comes of it is told.
func holds(t *testing.T, name string, writes []api.Write, old, freshes []plan.Part, killed uint64, want map[int]api.Node) {
	t.Helper()
	m := laid(append(slices.Clone(old), freshes...)...)
	var slots []int
	for _, y := range old {
		slots = append(slots, y.Slot)
	}
	were := children(m, slots)
	for i, w := range writes {
		m.Write(w)
		now := children(m, slots, freshes...)
		for c := range were {
			if c != killed && !now[c] {
				t.Errorf("%s: behind the write %d the child %x is lost", name, i, c)
			}
		}
	}
	if len(writes) == 0 {
		t.Errorf("%s does not go", name)
	}
	for slot, n := range want {
		if got := arena.Node(m, slot); !arena.Same(got, n) {
			t.Errorf("%s: slot %d holds %v, not %v", name, slot, got, n)
		}
		if v := m.Word(l.Version(slot)); vword.Locked(v) || vword.Dead(v) {
			t.Errorf("%s: slot %d is not free", name, slot)
		}
	}
}

func TestWhatComes(t *testing.T) { // 14.7
	big, bigLeaf := part(2, in(keys{5, 10, 15}, 91, 92, 93, 94)), part(2, of(77, 1, 3, 5, 7))
	for _, y := range []plan.Part{big, bigLeaf, part(2, of(77, 1, 3)), part(2, in(keys{5}, 91, 92))} {
		a, b, k := inner.Split(y.Node)
		if !y.Node.Inner {
			a, b, k = leaf.Split(y.Node)
			a.Link = fresh(5).Fresh()
		}
		np, _ := inner.Add(p.Node, 1, k, fresh(5).Fresh())
		holds(t, "Split", plan.Split(l, p, 0, y, fresh(5)), []plan.Part{p, y}, []plan.Part{fresh(5)}, 0, map[int]api.Node{1: np, 2: a, 5: b})
		top := inner.Of(h(2), api.Pair{Key: k, Value: fresh(5).Fresh()})
		holds(t, "Root", plan.Root(l, root, y, fresh(5), fresh(6)), []plan.Part{root, y}, []plan.Part{fresh(5), fresh(6)}, 0, map[int]api.Node{0: in(nil, fresh(6).Fresh()), 2: a, 5: b, 6: top})
	}
	one := part(2, in(nil, 91))
	holds(t, "Shrink", plan.Shrink(l, root, one), []plan.Part{root, one}, nil, h(2), map[int]api.Node{0: in(nil, 91)})
}

func TestWhatComesOfTwo(t *testing.T) { // 14.7
	q := part(1, in(keys{20, 40}, h(2), h(3), h(4)))
	np, _ := inner.Drop(q.Node, 1)
	inners := [][2]plan.Part{{part(2, in(keys{5}, 91, 92)), part(3, in(keys{30}, 95, 96))}, {part(2, in(nil, 91)), part(3, in(keys{30, 35}, 95, 96, 97))}, {part(2, in(keys{5, 10}, 91, 92, 93)), part(3, in(nil, 95))}}
	leaves := [][2]plan.Part{{x, part(3, of(88, 30, 35))}, {part(2, of(9, 3)), part(3, of(88, 30, 35, 37))}, {part(2, of(9, 3, 4, 5)), part(3, of(88, 30))}}
	set := func(key uint64) api.Node { return in(keys{key, 40}, h(2), h(3), h(4)) }
	for _, y := range inners {
		a, b := y[0], y[1]
		holds(t, "Merge", plan.Merge(l, q, 0, a, b), []plan.Part{q, a, b}, nil, h(3), map[int]api.Node{1: np, 2: inner.Merge(a.Node, 20, b.Node)})
		if na, nb, k := inner.FromRight(a.Node, 20, b.Node); k != 0 {
			holds(t, "FromRight", plan.FromRight(l, q, 0, a, b), []plan.Part{q, a, b}, nil, 0, map[int]api.Node{1: set(k), 2: na, 3: nb})
		}
		if na, nb, k := inner.FromLeft(a.Node, 20, b.Node); k != 0 {
			holds(t, "FromLeft", plan.FromLeft(l, q, 0, a, b), []plan.Part{q, a, b}, nil, 0, map[int]api.Node{1: set(k), 2: na, 3: nb})
		}
	}
	for _, y := range leaves {
		a, b := y[0], y[1]
		holds(t, "Merge", plan.Merge(l, q, 0, a, b), []plan.Part{q, a, b}, nil, h(3), map[int]api.Node{1: np, 2: leaf.Merge(a.Node, b.Node)})
		if na, nb, k := leaf.FromRight(a.Node, b.Node); k != 0 {
			holds(t, "FromRight", plan.FromRight(l, q, 0, a, b), []plan.Part{q, a, b}, nil, 0, map[int]api.Node{1: set(k), 2: na, 3: nb})
		}
		if na, nb, k := leaf.FromLeft(a.Node, b.Node); k != 0 {
			holds(t, "FromLeft", plan.FromLeft(l, q, 0, a, b), []plan.Part{q, a, b}, nil, 0, map[int]api.Node{1: set(k), 2: na, 3: nb})
		}
	}
}

func TestHandedIn(t *testing.T) { // R3
	p, a, b := part(1, in(keys{20, 40}, 102, 103, 104)), part(2, of(9, 1, 3)), part(3, of(9, 30, 35))
	for range 2 {
		plan.Split(l, p, 0, a, fresh(5))
		plan.Merge(l, p, 0, a, b)
		plan.FromLeft(l, p, 0, a, b)
		plan.FromRight(l, p, 0, a, b)
		w := plan.Remove(l, a, 0)
		w[0].Word = 77
	}
	if !arena.Same(p.Node, in(keys{20, 40}, 102, 103, 104)) || !arena.Same(a.Node, of(9, 1, 3)) || !arena.Same(b.Node, of(9, 30, 35)) {
		t.Error("a node that was handed in is changed")
	}
}

func TestExamples(t *testing.T) {
	y := plan.Part{Slot: 1, Version: vword.Make(1, 5, false, false), Node: of(0, 3, 5)}
	want := []api.Write{{At: l.Key(1, 0), Word: 5}, {At: l.Value(1, 0), Word: 50}, {At: l.Shape(1), Word: layout.Pack(false, 1)}, {At: l.Version(1), Word: vword.Bump(y.Version)}}
	if got := plan.Remove(l, y, 0); !slices.Equal(got, want) {
		t.Error("an example:", tell(got))
	}
}
