/- What the laws of leaves hold at their ends. -/
import Derived.Test.YtahpdifneajblaaLeaf5
import Derived.Deep.RegionHeld3
import Derived.Deep.RegionLaw
import Derived.Deep.DrawnRows
namespace Go.Proofs.Ytahpdifneajblaa
set_option linter.unusedVariables false
open Go.RowKit
/-- A node's block, a row of pairs, at the law's end. -/
structure NS (w : World) (x : Nd) (rs : List (Nat × Nat)) (A : Option Addr) (b off : Nat) (W : World) : Prop where
  n : NC w.heap.size x W
  r : NR W x
  l : RdR W A b off rs
  bl : Below w.heap.size w W
theorem NS.next {w W W' : World} {x : Nd} {rs : List (Nat × Nat)} {A : Option Addr} {b off : Nat} (h : NS w x rs A b off W) (hn : Below W.heap.size W W') : NS w x rs A b off W' := ⟨h.n.next hn, h.r.next hn, h.l.next hn, h.bl.trans (hn.mono h.bl.size)⟩
theorem NS.drew {w W : World} {x : Nd} {rs : List (Nat × Nat)} {A : Option Addr} {b off : Nat} (h : NS w x rs A b off W) : NS w x rs A b off W.drew := h.next (Below.refl _ _).drew
theorem NS.all {w W : World} {x : Nd} {rs : List (Nat × Nat)} {A : Option Addr} {b off : Nat} (h : NS w x rs A b off W) : W.cell? ⟨w.heap.size, 0, none⟩ = some (.bool x.inner) ∧ W.cell? ⟨w.heap.size, 1, none⟩ = some (.slice x.A1 x.ks.length x.c1) ∧ W.cell? ⟨w.heap.size, 2, none⟩ = some (.slice x.A2 x.vs.length x.c2) ∧ W.cell? ⟨w.heap.size, 3, none⟩ = some (.int .u64 (x.link : Nat)) ∧ NS w x rs A b off W := ⟨h.n.c0, h.n.c1, h.n.c2, h.n.c3, h⟩
theorem NS.of {w W : World} {x : Nd} {rs : List (Nat × Nat)} {A : Option Addr} {b off : Nat} (h : W.cell? ⟨w.heap.size, 0, none⟩ = some (.bool x.inner) ∧ W.cell? ⟨w.heap.size, 1, none⟩ = some (.slice x.A1 x.ks.length x.c1) ∧ W.cell? ⟨w.heap.size, 2, none⟩ = some (.slice x.A2 x.vs.length x.c2) ∧ W.cell? ⟨w.heap.size, 3, none⟩ = some (.int .u64 (x.link : Nat)) ∧ NS w x rs A b off W) : NS w x rs A b off W := h.2.2.2.2
theorem NC.zeroed {g : Nat} {x : Nd} {W : World} (h : NC g x W) : NC g Nd.zero ((((W.setCell ⟨g, 0, none⟩ (.bool false)).setCell ⟨g, 1, none⟩ (.slice none 0 0)).setCell ⟨g, 2, none⟩ (.slice none 0 0)).setCell ⟨g, 3, none⟩ (.int .u64 0)) := by
  obtain ⟨c0, c1, c2, c3, fz⟩ := h
  exact ⟨by simp [go_sem, c0], by simp [go_sem, c1], by simp [go_sem, c2], by simp [go_sem, c3], fun i => by simp [go_sem, fz]⟩
theorem NS.zeroed {w W : World} {x : Nd} {rs : List (Nat × Nat)} {A : Option Addr} {b off : Nat} (h : NS w x rs A b off W) (l0 : RdR w A b off rs) : NS w Nd.zero rs A b off ((((W.setCell ⟨w.heap.size, 0, none⟩ (.bool false)).setCell ⟨w.heap.size, 1, none⟩ (.slice none 0 0)).setCell ⟨w.heap.size, 2, none⟩ (.slice none 0 0)).setCell ⟨w.heap.size, 3, none⟩ (.int .u64 0)) :=
  ⟨h.n.zeroed, NR.zero _, l0.next (below_put4 h.bl (Nat.le_refl _) _ _ _ _), below_put4 h.bl (Nat.le_refl _) _ _ _ _⟩
end Go.Proofs.Ytahpdifneajblaa
