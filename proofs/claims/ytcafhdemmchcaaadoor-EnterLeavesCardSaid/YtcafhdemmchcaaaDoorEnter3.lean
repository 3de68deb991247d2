/- Four blocks: two Enters that are alike, a zero Enter, a zero Leave. -/
import Derived.Test.YtcafhdemmchcaaaDoorEnter2
namespace Go.Proofs.YtcafhdemmchcaaaDoor
set_option linter.unusedVariables false
open Go.RowKit Go.Extern.Stop Go.Stop Go.Extern
structure KZ (w : World) (g1 : Nat) (z : En) (g2 g3 g4 : Nat) (W : World) : Prop extends KV w g1 z g2 z W where
  n : EC g3 (En.none false) W
  v : KL w.heap.size w g4 W
theorem KZ.next {w : World} {g1 : Nat} {z : En} {g2 g3 g4 : Nat} {W W' : World} (h : KZ w g1 z g2 g3 g4 W) (hn : Below W.heap.size W W') : KZ w g1 z g2 g3 g4 W' := ⟨h.toKV.next hn, h.n.next hn, h.v.next hn⟩
theorem KL.start {w W : World} (h : Below w.heap.size w W) : KL w.heap.size w W.heap.size (W.alloc leaveRow) := ⟨by simp, by simp, by simp, by simp, by simp, by simp, by simp, by simp, by simp, h.alloc h.size _, by have := h.size; simp; omega⟩
theorem KZ.start {w : World} {g1 : Nat} {z : En} {g2 : Nat} {W : World} (h : KV w g1 z g2 z W) : KZ w g1 z g2 W.heap.size (W.heap.size + 1) ((W.alloc (rowV (En.none false))).alloc leaveRow) := by
  have n := EC.alloc W (En.none false)
  have h1 := h.next (below1 W (rowV (En.none false)))
  have hz : (W.alloc (rowV (En.none false))).heap.size = W.heap.size + 1 := by simp
  have v := KL.start h1.bl
  rw [hz] at v
  exact ⟨h1.next (below1 _ _), n.next (below1 _ _), v⟩
end Go.Proofs.YtcafhdemmchcaaaDoor
