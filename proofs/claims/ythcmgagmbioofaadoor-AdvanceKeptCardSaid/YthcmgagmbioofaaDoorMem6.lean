/- Write, All, Copy. -/
import Derived.Test.YthcmgagmbioofaaDoorMem5
import Derived.Deep.LoopGhost
namespace Go.Proofs.YthcmgagmbioofaaDoor
set_option linter.unusedVariables false
open Go.RowKit
/-- A list of writes that is read. -/
structure RW2 (W : World) (A : Option Addr) (b off : Nat) (ws : List (Int × Nat)) : Prop where
  a : 0 < ws.length → A = some ⟨b, off, none⟩
  lt : 0 < ws.length → b < W.heap.size
  c0 : ∀ j, j < ws.length → W.cell? ⟨b, off + j * 2, none⟩ = some (.int .i64 ((ws.getD j (0, 0)).1))
  c1 : ∀ j, j < ws.length → W.cell? ⟨b, off + j * 2 + 1, none⟩ = some (.int .u64 (((ws.getD j (0, 0)).2 : Nat)))
theorem RW2.but {W W' : World} {A : Option Addr} {b off g : Nat} {ws : List (Int × Nat)} (h : RW2 W A b off ws) (hb : But g W W') (hg : b ≠ g) : RW2 W' A b off ws :=
  ⟨h.a, fun h0 => Nat.lt_of_lt_of_le (h.lt h0) hb.size, fun j hj => (hb.cell (p := ⟨b, off + j * 2, none⟩) (h.lt (by omega)) hg).trans (h.c0 j hj), fun j hj => (hb.cell (p := ⟨b, off + j * 2 + 1, none⟩) (h.lt (by omega)) hg).trans (h.c1 j hj)⟩
theorem RW2.next {W W' : World} {A : Option Addr} {b off : Nat} {ws : List (Int × Nat)} (h : RW2 W A b off ws) (hb : Below W.heap.size W W') : RW2 W' A b off ws :=
  ⟨h.a, fun h0 => Nat.lt_of_lt_of_le (h.lt h0) hb.size, fun j hj => (hb.cell (p := ⟨b, off + j * 2, none⟩) (h.lt (by omega))).trans (h.c0 j hj), fun j hj => (hb.cell (p := ⟨b, off + j * 2 + 1, none⟩) (h.lt (by omega))).trans (h.c1 j hj)⟩
abbrev wrRow (a : Int) (x : Nat) : Obj := .cells #[.int .i64 a, .int .u64 (x : Nat)] 55
theorem RW2.one (W : World) (a : Int) (x : Nat) : RW2 (W.alloc (wrRow a x)) (some ⟨W.heap.size, 0, none⟩) W.heap.size 0 [(a, x)] :=
  ⟨fun _ => rfl, fun _ => by simp, fun j hj => by obtain rfl : j = 0 := by simpa using hj
                                                  simp, fun j hj => by obtain rfl : j = 0 := by simpa using hj
                                                                       simp⟩
/-- One write; some, one behind the other. -/
def wr1 (us : List Nat) (w : Int × Nat) : List Nat := if 0 ≤ w.1 ∧ w.1 < us.length then us.set w.1.toNat w.2 else us
def wrs (us : List Nat) (ws : List (Int × Nat)) : List Nat := ws.foldl wr1 us
theorem wr1_len (us : List Nat) (w : Int × Nat) : (wr1 us w).length = us.length := by unfold wr1; split <;> simp
theorem wrs_len (us : List Nat) (ws : List (Int × Nat)) : (wrs us ws).length = us.length := by
  induction ws generalizing us with
  | nil => rfl
  | cons w ws ih => exact (ih (wr1 us w)).trans (wr1_len us w)
theorem wrs_snoc (us : List Nat) (ws : List (Int × Nat)) (j : Nat) (hj : j < ws.length) : wrs us (ws.take (j + 1)) = wr1 (wrs us (ws.take j)) (ws.getD j (0, 0)) := by
  have e : ws.getD j (0, 0) = ws[j] := by simp [List.getD, hj]
  rw [e, List.take_succ_eq_append_getElem hj]
  unfold wrs
  rw [List.foldl_append]; rfl
structure DX (W0 : World) (gb g gw q : Nat) (s t f l p : Int) (us : List Nat) (i x y : Nat) (W : World) : Prop where
  a0 : W.cell? ⟨gb, 0, none⟩ = some (.int .i64 (i : Nat))
  a1 : W.cell? ⟨gb, 1, none⟩ = some (.int .u64 (x : Nat))
  m5 : W.cell? ⟨g, 5, none⟩ = some (.slice (some ⟨gw, 0, none⟩) us.length q)
  xc : W.cell? ⟨gw, i, none⟩ = some (.int .u64 (y : Nat))
  fz : W.frozen? ⟨gw, i, none⟩ = false
  mb : MB g gw s t f l p us W
  bl : Below W0.heap.size W0 W
theorem DX.start (W0 : World) (g gw : Nat) (s t f l p : Int) (us : List Nat) (i x y : Nat) (h : MB g gw s t f l p us W0) (hi : i < us.length) (hy : us.getD i 0 = y) : ∃ q, us.length ≤ q ∧ DX W0 W0.heap.size g gw q s t f l p us i x y (W0.alloc (wrRow i x)).drew := by
  have h2 := (h.next (ml1 W0 (wrRow i x))).next (Below.refl _ _).drew
  obtain ⟨q, hr, hq, _⟩ := h2.ex
  exact ⟨q, hq, by simp, by simp, hr.c5, by rw [← hy]; exact h2.b.wd i hi, h2.b.fz i, h2, (ml1 _ _).drew⟩
end Go.Proofs.YthcmgagmbioofaaDoor
