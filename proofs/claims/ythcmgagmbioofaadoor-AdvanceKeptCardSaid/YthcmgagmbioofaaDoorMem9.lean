/- What the laws of memories hold. -/
import Derived.Test.YthcmgagmbioofaaDoorMem8
import Derived.Test.YthcmgagmbioofaaDoorOpenR
namespace Go.Proofs.YthcmgagmbioofaaDoor
set_option linter.unusedVariables false
open Go.RowKit
def aqOf (r : List Int) : Aq := (r.getD 0 0, r.getD 1 0, (r.getD 2 0).toNat, (r.getD 3 0).toNat)
def wqOf (r : List Int) : Int × Nat := (r.getD 0 0, (r.getD 1 0).toNat)
theorem getD_map {α β : Type} (f : α → β) (l : List α) (j : Nat) (d : α) (e : β) (h : j < l.length) : (l.map f).getD j e = f (l.getD j d) := by
  simp [List.getD, h]
theorem row_u64 {ks : List IntKind} {r : List Int} (h : wfRow ks r) (j : Nat) (hj : ks[j]? = some .u64) : (((r.getD j 0).toNat : Nat) : Int) = r.getD j 0 := by
  have hl : j < ks.length := (List.getElem?_eq_some_iff.1 hj).1
  have hr : j < r.length := by rw [h.1]; exact hl
  have := u64_lo (h.2 j .u64 r[j] hj (List.getElem?_eq_getElem hr))
  have e : r.getD j 0 = r[j] := by simp [List.getD, hr]
  rw [e]; omega
theorem mem_getD {α : Type} (l : List α) (j : Nat) (d : α) (h : j < l.length) : l.getD j d ∈ l := by
  have : l.getD j d = l[j] := by simp [List.getD, h]
  rw [this]; exact List.getElem_mem h
theorem RA4.of_rows {W : World} {A : Option Addr} {b off : Nat} {rows : List (List Int)} (h : RdS W [.i64, .i64, .u64, .u64] A b off rows) (hw : ∀ r ∈ rows, wfRow [.i64, .i64, .u64, .u64] r) : RA4 W A b off (rows.map aqOf) := by
  refine ⟨fun h0 => h.a (by simpa using h0), fun h0 => h.lt (by simpa using h0), fun j hj => ?_, fun j hj => ?_, fun j hj => ?_, fun j hj => ?_⟩ <;>
    (rw [List.length_map] at hj
     rw [getD_map aqOf rows j [] _ hj])
  · exact h.c j hj 0 .i64 rfl
  · exact h.c j hj 1 .i64 rfl
  · have := h.c j hj 2 .u64 rfl
    rw [← row_u64 (hw _ (mem_getD rows j [] hj)) 2 rfl] at this
    exact this
  · have := h.c j hj 3 .u64 rfl
    rw [← row_u64 (hw _ (mem_getD rows j [] hj)) 3 rfl] at this
    exact this
theorem RW2.of_rows {W : World} {A : Option Addr} {b off : Nat} {rows : List (List Int)} (h : RdS W [.i64, .u64] A b off rows) (hw : ∀ r ∈ rows, wfRow [.i64, .u64] r) : RW2 W A b off (rows.map wqOf) := by
  refine ⟨fun h0 => h.a (by simpa using h0), fun h0 => h.lt (by simpa using h0), fun j hj => ?_, fun j hj => ?_⟩ <;>
    (rw [List.length_map] at hj
     rw [getD_map wqOf rows j [] _ hj])
  · exact h.c j hj 0 .i64 rfl
  · have := h.c j hj 1 .u64 rfl
    rw [← row_u64 (hw _ (mem_getD rows j [] hj)) 1 rfl] at this
    exact this
theorem RA4.next {W W' : World} {A : Option Addr} {b off : Nat} {qs : List Aq} (h : RA4 W A b off qs) (hb : Below W.heap.size W W') : RA4 W' A b off qs :=
  ⟨h.a, fun h0 => Nat.lt_of_lt_of_le (h.lt h0) hb.size, fun j hj => (hb.cell (p := ⟨b, off + j * 4, none⟩) (h.lt (by omega))).trans (h.c0 j hj), fun j hj => (hb.cell (p := ⟨b, off + j * 4 + 1, none⟩) (h.lt (by omega))).trans (h.c1 j hj), fun j hj => (hb.cell (p := ⟨b, off + j * 4 + 2, none⟩) (h.lt (by omega))).trans (h.c2 j hj), fun j hj => (hb.cell (p := ⟨b, off + j * 4 + 3, none⟩) (h.lt (by omega))).trans (h.c3 j hj)⟩
/-- A size that may be, as a number. -/
theorem size_nat (s t f l p : Int) (h : okC s t f l p) : ∃ n : Nat, sizeL s t f = n ∧ 0 < n ∧ n ≤ 1000000 := by
  have hb : (0 : Int) ≤ (s + 1) * (3 + 2 * f) ∧ (s + 1) * (3 + 2 * f) ≤ 1001 * 131 := mul_bd (by have := h.1; omega) (by have := h.1; omega) (by have := h.2.2.1; omega) (by have := h.2.2.1; omega) (by omega)
  have h1 := h.1; have h2 := h.2.1
  have e : sizeL s t f = 3 + t + 2 * t + (s + 1) * (3 + 2 * f) := by unfold sizeL; rw [if_neg (by omega)]
  refine ⟨(sizeL s t f).toNat, ?_, ?_, ?_⟩ <;> rw [e] <;> omega
/-- A memory, and words that are the same. -/
structure PM (w : World) (g gw gr : Nat) (s t f l p : Int) (us : List Nat) (W : World) : Prop where
  m : MB g gw s t f l p us W
  r : WB gr us W
  bl : Below w.heap.size w W
  sw : w.heap.size ≤ gw
  sr : w.heap.size ≤ gr
  n1 : g ≠ gr
  n2 : gw ≠ gr
theorem PM.next {w W W' : World} {g gw gr : Nat} {s t f l p : Int} {us : List Nat} (h : PM w g gw gr s t f l p us W) (hn : Below W.heap.size W W') : PM w g gw gr s t f l p us W' := ⟨h.m.next hn, h.r.next hn, h.bl.trans (hn.mono h.bl.size), h.sw, h.sr, h.n1, h.n2⟩
theorem rdo_n (g n : Nat) (us : List Nat) (hn : us.length = n) (k a : Int) (o m : Nat) (hl : n ≤ 100000) (W : World) (h : WB g us W) :
    Calls Tryd.prog 22 #[.slice (some ⟨g, 0, none⟩) n n, askM k a o m] W fun e w' => e = .returned (.int .u64 (((doF us k a o m).1 : Nat))) ∧ WB g (doF us k a o m).2 w' ∧ But g W w' := by
  subst hn; exact rdo_any g us k a o m hl W h
theorem subL_all (us : List Nat) : subL us 0 us.length = us := by unfold subL; simp
theorem SR.words {W : World} {gr n : Nat} {us : List Nat} (h : WB gr us W) (hn : us.length = n) (hl : n ≤ 100000) : SR W (some ⟨gr, 0, none⟩) n gr 0 us := by
  subst hn; exact SR.of_wb h hl
end Go.Proofs.YthcmgagmbioofaaDoor
