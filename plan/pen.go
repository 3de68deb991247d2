package plan

import (
	"gleaning/api"
	"gleaning/layout"
	"gleaning/vword"
)

// entry is a value, and the key that goes with it.
type entry struct{ key, value uint64 }

// of is an entry of a node; the first one of an inner node, which has no key, gets that which is handed in.
func of(n api.Node, j int, first uint64) entry {
	switch {
	case !n.Inner:
		return entry{n.Keys[j], n.Vals[j]}
	case j == 0:
		return entry{first, n.Vals[j]}
	}
	return entry{n.Keys[j-1], n.Vals[j]}
}

// pen writes a plan.
type pen struct {
	layout.Layout
	out []api.Write
}

// drawn is what is written by a pen.
func drawn(l layout.Layout, draw func(w *pen)) []api.Write {
	w := &pen{Layout: l}
	draw(w)
	return w.out
}

// write stores words.
func (w *pen) write(l ...api.Write) { w.out = append(w.out, l...) }

// version stores a part's version word.
func (w *pen) version(p Part, word uint64) {
	w.write(api.Write{At: w.Version(p.Slot), Word: word})
}

// free stores the version words of parts that are not locked any more.
func (w *pen) free(parts ...Part) {
	for _, p := range parts {
		w.version(p, vword.Bump(p.Version))
	}
}

// shape stores the shape of a part that has so many entries.
func (w *pen) shape(p Part, n int) {
	w.write(api.Write{At: w.Shape(p.Slot), Word: layout.Pack(p.Node.Inner, n)})
}

// lay stores an entry.
func (w *pen) lay(p Part, j int, e entry) {
	at := j
	if p.Node.Inner {
		at = j - 1
	}
	if at >= 0 {
		w.write(api.Write{At: w.Key(p.Slot, at), Word: e.key})
	}
	w.write(api.Write{At: w.Value(p.Slot, j), Word: e.value})
}

// open lets an entry come to stand at a place: from the end on, so that none is lost between.
func (w *pen) open(p Part, at int, e entry) {
	n := p.many()
	if at == n {
		w.lay(p, n, e)
		w.shape(p, n+1)
		return
	}
	w.lay(p, n, of(p.Node, n-1, e.key))
	w.shape(p, n+1)
	for j := n - 1; j > at; j-- {
		w.lay(p, j, of(p.Node, j-1, e.key))
	}
	w.lay(p, at, e)
}

// close lets the entry at a place go.
func (w *pen) close(p Part, at int) {
	n := p.many()
	for j := at; j < n-1; j++ {
		w.lay(p, j, of(p.Node, j+1, 0))
	}
	w.shape(p, n-1)
}

// begin lets a fresh part hold a node.
func (w *pen) begin(fresh Part, n api.Node) {
	begun := fresh.begun()
	begun.Node = n
	w.version(begun, begun.Version)
	for j := range begun.many() {
		w.lay(begun, j, of(n, j, 0))
	}
	w.write(api.Write{At: w.Link(begun.Slot), Word: n.Link})
	w.shape(begun, begun.many())
}

// part lets a fresh part hold the second half of a node, which is linked to it, if it is a leaf.
func (w *pen) part(x, fresh Part, right api.Node) {
	w.begin(fresh, right)
	if !x.Node.Inner {
		w.write(api.Write{At: w.Link(x.Slot), Word: fresh.Fresh()})
	}
}
