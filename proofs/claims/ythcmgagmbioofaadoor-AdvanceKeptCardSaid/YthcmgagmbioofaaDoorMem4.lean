/- Word, Words, New, the document's New. -/
import Derived.Test.YthcmgagmbioofaaDoorMem3
import Derived.WalkLawsBesides
import Derived.Deep.RegionHeld3
namespace Go.Proofs.YthcmgagmbioofaaDoor
set_option linter.unusedVariables false
open Go.RowKit
def wordF (us : List Nat) (a : Int) : Nat := if 0 ≤ a ∧ a < us.length then us.getD a.toNat 0 else 0
theorem rowLe {b1 b2 n sz : Nat} {e : TypeId} {v : Value} {xs : List Value} {W : World} (h : W.ownsRow b1 e sz v n xs) (hb : b2 ≤ b1) : W.ownsRow b2 e sz v n xs := by
  obtain ⟨h1, h2⟩ := h
  refine ⟨h1, ?_⟩
  rcases h2 with h2 | ⟨g, cap, cur, hv, hg, hh, h3⟩
  · exact .inl h2
  · exact .inr ⟨g, cap, cur, hv, Nat.le_trans hb hg, hh, h3⟩
def subL (us : List Nat) (x y : Nat) : List Nat := (us.drop x).take (y - x)
theorem subL_len (us : List Nat) (x y : Nat) (hy : y ≤ us.length) : (subL us x y).length = y - x := by unfold subL; simp; omega
theorem SR.sub {W : World} {A : Option Addr} {c g o : Nat} {us : List Nat} (h : SR W A c g o us) (x y : Nat) (hxy : x ≤ y) (hy : y ≤ us.length) : SR W (some ⟨g, o + x, none⟩) (y - x) g (o + x) (subL us x y) := by
  have hm := h.mx
  have hle := h.le
  refine ⟨fun _ => rfl, by rw [subL_len _ _ _ hy]; exact Nat.le_refl _, by omega, fun j hj => ?_⟩
  rw [subL_len _ _ _ hy] at hj
  have e : (subL us x y).getD j 0 = us.getD (x + j) 0 := by
    unfold subL
    rw [List.getD_eq_getElem?_getD, List.getD_eq_getElem?_getD, List.getElem?_take_of_lt (by omega), List.getElem?_drop]
  rw [e, Nat.add_assoc]
  exact h.c (x + j) (by omega)
end Go.Proofs.YthcmgagmbioofaaDoor
