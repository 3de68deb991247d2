package fix

import (
	"gleaning/api"
	"gleaning/layout"
	"gleaning/plan"
)

// shaped is a node, as far as its shape tells.
type shaped struct {
	slot    int
	version uint64
	inner   bool
	n       int
	// linked: its link is loaded, too.
	linked bool
}

// keys is how many keys it has.
func (x shaped) keys() int {
	if x.inner {
		return x.n - 1
	}
	return x.n
}

// nodes are the parent, the child, and, of Thin, the one beside.
func (f Fix) nodes() []shaped {
	slots, versions := f.slots(), f.versions()
	out := []shaped{{slots[0], versions[0], true, f.PN, false}, {slots[1], versions[1], f.Inner, f.N, true}}
	if f.kind != Thin {
		return out
	}
	inner, n := layout.Inner(f.shape), layout.Entries(f.shape, f.l.Config().Fan)
	if inner {
		n = max(n, 1)
	}
	return append(out, shaped{slots[2], versions[2], inner, n, true})
}

// loads goes on to load all words of the nodes, and the versions of the fresh slots.
func (f Fix) loads() Fix {
	run := func(at func(slot, i int) int, slot, many int) {
		for i := range many {
			f.reads = append(f.reads, at(slot, i))
		}
	}
	for _, x := range f.nodes() {
		run(f.l.Key, x.slot, x.keys())
		run(f.l.Value, x.slot, x.n)
		if x.linked {
			f.reads = append(f.reads, f.l.Link(x.slot))
		}
	}
	for _, slot := range f.fresh {
		f.reads = append(f.reads, f.l.Version(slot))
	}
	f.step = toLoad
	return f
}

// parts are the nodes, and the fresh slots, as they were loaded.
func (f Fix) parts() []plan.Part {
	left := f.words
	take := func(many int) []uint64 {
		part := left[:many:many]
		left = left[many:]
		return part
	}
	var out []plan.Part
	for _, x := range f.nodes() {
		p := plan.Part{Slot: x.slot, Version: x.version, Node: api.Node{Inner: x.inner, Keys: take(x.keys()), Vals: take(x.n)}}
		if x.linked {
			p.Node.Link = take(1)[0]
		}
		out = append(out, p)
	}
	for _, slot := range f.fresh {
		out = append(out, plan.Part{Slot: slot, Version: take(1)[0]})
	}
	return out
}

// loaded goes on to the plan, if all is loaded.
func (f Fix) loaded() Fix {
	if len(f.words) < len(f.reads) {
		return f
	}
	killed := uint64(0)
	f.writes, killed = f.plan(f.parts())
	if len(f.writes) == 0 {
		return f.undone()
	}
	f.victim, f.step = killed, toWrite
	return f
}

// plan are the writes of the plan, and the handle of whom it kills.
func (f Fix) plan(p []plan.Part) ([]api.Write, uint64) {
	switch f.kind {
	case Split:
		return plan.Split(f.l, p[0], f.I, p[1], p[2]), 0
	case Root:
		return plan.Root(f.l, p[0], p[1], p[2], p[3]), 0
	case Shrink:
		return plan.Shrink(f.l, p[0], p[1]), p[1].Handle()
	}
	a, b, at := p[1], p[2], f.I
	if f.place() < f.I {
		a, b, at = b, a, f.place()
	}
	switch {
	case len(a.Node.Vals)+len(b.Node.Vals) <= f.l.Config().Fan:
		return plan.Merge(f.l, p[0], at, a, b), b.Handle()
	case at == f.I:
		return plan.FromRight(f.l, p[0], at, a, b), 0
	}
	return plan.FromLeft(f.l, p[0], at, a, b), 0
}
