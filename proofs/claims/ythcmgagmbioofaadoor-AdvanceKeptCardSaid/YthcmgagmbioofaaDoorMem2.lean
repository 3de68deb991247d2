/- Do. -/
import Derived.Test.YthcmgagmbioofaaDoorMem1
namespace Go.Proofs.YthcmgagmbioofaaDoor
set_option linter.unusedVariables false
open Go.RowKit
abbrev askM (k a : Int) (o n : Nat) : Value := .agg #[.int .i64 k, .int .i64 a, .int .u64 (o : Nat), .int .u64 (n : Nat)]
abbrev askRow (k a : Int) (o n : Nat) : Obj := .cells #[.int .i64 k, .int .i64 a, .int .u64 (o : Nat), .int .u64 (n : Nat)] 40
/-- What an access tells, and the words behind it. -/
def doF (us : List Nat) (k a : Int) (o n : Nat) : Nat × List Nat :=
  if 0 ≤ a ∧ a < us.length then
    if k = 1 then (us.getD a.toNat 0, us) else if k = 2 then (0, us.set a.toNat n) else if k = 3 then (if us.getD a.toNat 0 = o then (1, us.set a.toNat n) else (0, us)) else (0, us)
  else (0, us)
theorem doF_len (us : List Nat) (k a : Int) (o n : Nat) : (doF us k a o n).2.length = us.length := by
  unfold doF
  split
  · split
    · rfl
    · split
      · simp
      · split
        · split <;> simp
        · rfl
  · rfl
structure DK (W0 : World) (g gw q : Nat) (s t f l p : Int) (us : List Nat) (k : Int) (i o n x : Nat) (W : World) : Prop where
  a0 : W.cell? ⟨W0.heap.size, 0, none⟩ = some (.int .i64 k)
  a1 : W.cell? ⟨W0.heap.size, 1, none⟩ = some (.int .i64 (i : Nat))
  a2 : W.cell? ⟨W0.heap.size, 2, none⟩ = some (.int .u64 (o : Nat))
  a3 : W.cell? ⟨W0.heap.size, 3, none⟩ = some (.int .u64 (n : Nat))
  m5 : W.cell? ⟨g, 5, none⟩ = some (.slice (some ⟨gw, 0, none⟩) us.length q)
  xc : W.cell? ⟨gw, i, none⟩ = some (.int .u64 (x : Nat))
  fz : W.frozen? ⟨gw, i, none⟩ = false
  mb : MB g gw s t f l p us W
  bl : Below W0.heap.size W0 W
theorem DK.drew {W0 : World} {g gw q : Nat} {s t f l p : Int} {us : List Nat} {k : Int} {i o n x : Nat} {W : World} (h : DK W0 g gw q s t f l p us k i o n x W) : DK W0 g gw q s t f l p us k i o n x W.drew := ⟨h.a0, h.a1, h.a2, h.a3, h.m5, h.xc, h.fz, h.mb.next (Below.refl _ _).drew, h.bl.drew⟩
theorem DK.start (W0 : World) (g gw : Nat) (s t f l p : Int) (us : List Nat) (k : Int) (i o n x : Nat) (h : MB g gw s t f l p us W0) (hi : i < us.length) (hx : us.getD i 0 = x) : ∃ q, us.length ≤ q ∧ DK W0 g gw q s t f l p us k i o n x (W0.alloc (askRow k i o n)) := by
  have h2 := h.next (ml1 W0 (askRow k i o n))
  obtain ⟨q, hr, hq, _⟩ := h2.ex
  exact ⟨q, hq, by simp, by simp, by simp, by simp, hr.c5, by rw [← hx]; exact h2.b.wd i hi, h2.b.fz i, h2, ml1 _ _⟩
end Go.Proofs.YthcmgagmbioofaaDoor
