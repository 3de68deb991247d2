package audit

import (
	"gleaning/api"
	"gleaning/arena"
	"gleaning/aword"
	"gleaning/handle"
	"gleaning/hword"
	"gleaning/layout"
)

// never is a step ahead of all others, and nobody a thread that there is not.
const (
	never  = -1
	nobody = -1
)

// begin is what is known ahead of the first step; nil, if a configuration may not be.
func begin(c api.Config) *known {
	m := arena.New(c)
	if m == nil {
		return nil
	}
	return &known{
		m: m, since: map[int]int{}, firm: map[hazard]bool{}, records: map[uint64]record{}, touched: map[uint64]int{}, begun: map[reader]int{}, again: map[int]int{},
		last: turn{nobody, never}, other: turn{nobody, never},
	}
}

// turns tells whether an access that told this has turned a word.
func turns(s api.Step) bool {
	return s.Ask.Kind == api.AskStore || s.Ask.Kind == api.AskCas && s.Got == 1
}

// access does the access of a step.
func (k *known) access(at int, s api.Step) {
	if !turns(s) {
		return
	}
	k.m.Write(api.Write{At: s.Ask.At, Word: s.Ask.New})
	switch p := k.m.What(s.Ask.At); p.Kind {
	case layout.AtAnnounce:
		delete(k.since, p.Of)
		if s.Ask.Kind == api.AskStore && s.Thread == p.Of && aword.State(s.Ask.New) == aword.Announced {
			k.since[p.Of] = at
		}
	case layout.AtHazard:
		delete(k.firm, hazard{p.Of, p.I})
	case layout.AtShape, layout.AtValue:
		k.tree = nil
	}
	if s.Thread != k.last.thread {
		k.other = k.last
	}
	k.last = turn{s.Thread, at}
}

// mark takes in a mark of a step, and tells the kinds of what is wrong with it.
func (k *known) mark(at, thread int, m api.Mark) []int {
	switch m.Kind {
	case api.MarkFirm:
		k.firms(thread, m.A)
	case api.MarkBegin:
		k.begun[reader{thread, m.A}] = at
	case api.MarkAgain:
		k.again[thread] = at
	case api.MarkRetire:
		k.records[slotOf(m.A)] = record{m.A, at}
	case api.MarkAlloc:
		delete(k.records, m.A)
		k.touched[m.A] = at
	case api.MarkFree:
		k.touched[m.A] = at
		return k.freed(thread, m.A)
	case api.MarkCheck:
		return only(Stale, k.isStale(thread, m.A))
	case api.MarkRestart:
		return only(Idle, k.isIdle(thread))
	case api.MarkEmpty:
		head := k.m.Word(k.m.At(layout.Place{Kind: layout.AtHead}))
		return only(Empty, hword.Slot(head) != 0)
	}
	return nil
}

// only is a kind, if it is so.
func only(kind int, is bool) []int {
	if is {
		return []int{kind}
	}
	return nil
}

// slotOf is a handle's slot, as marks tell slots.
func slotOf(h uint64) uint64 { return uint64(handle.Slot(h)) }

// firms lets those hazards of a thread be firm that are this handle.
func (k *known) firms(thread int, h uint64) {
	for i := range api.Hazards {
		if at := k.m.Hazard(thread, i); at >= 0 && k.m.Word(at) == h {
			k.firm[hazard{thread, i}] = true
		}
	}
}

// freed are the kinds of what is wrong with a slot's being made free.
func (k *known) freed(thread int, slot uint64) []int {
	kinds := only(Reached, k.isReached(slot))
	r, retired := k.records[slot]
	if !retired {
		return kinds
	}
	kinds = append(kinds, only(Covered, k.isCovered(r.handle))...)
	return append(kinds, only(Announced, k.isAnnounced(thread, r.at))...)
}

// isReached tells whether a slot is in the tree.
func (k *known) isReached(slot uint64) bool {
	if k.tree == nil {
		k.tree = map[uint64]bool{}
		for _, s := range arena.Tree(k.m) {
			k.tree[uint64(s)] = true
		}
	}
	return k.tree[slot]
}

// isCovered tells whether a firm hazard is this handle.
func (k *known) isCovered(h uint64) bool {
	for x := range k.firm {
		if k.m.Word(k.m.Hazard(x.thread, x.i)) == h {
			return true
		}
	}
	return false
}

// isAnnounced tells whether another thread is announced since a step ahead of this one.
func (k *known) isAnnounced(thread, at int) bool {
	for other, since := range k.since {
		if other != thread && since < at {
			return true
		}
	}
	return false
}

// isStale tells whether a handle's slot was touched since a thread began it.
func (k *known) isStale(thread int, h uint64) bool {
	touched, ok := k.touched[slotOf(h)]
	begun, did := k.begun[reader{thread, h}]
	return ok && (!did || touched > begun)
}

// isIdle tells whether nobody else has turned a word since a thread began its attempt.
func (k *known) isIdle(thread int) bool {
	began, did := k.again[thread]
	if !did {
		began = never
	}
	turned := k.last
	if turned.thread == thread {
		turned = k.other
	}
	return turned.at <= began
}
