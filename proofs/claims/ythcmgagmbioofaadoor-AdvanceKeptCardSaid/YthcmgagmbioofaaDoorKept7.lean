/- The blocks of the law AdvanceKept. -/
import Derived.Test.YthcmgagmbioofaaDoorKept6
import Derived.Test.YthcmgagmbioofaaDoorMem9
namespace Go.Proofs.YthcmgagmbioofaaDoor
set_option linter.unusedVariables false
open Go.RowKit Go.Extern.Stop Go.Stop Go.Extern
theorem rowsLt (rows : List (List Int)) (hw : ∀ r ∈ rows, wfRow [.i64, .u64] r) : ∀ r ∈ rows.map wqOf, r.2 < 18446744073709551616 := by
  intro r hr
  obtain ⟨x, hx, rfl⟩ := List.mem_map.1 hr
  have h := hw x hx
  have hl : 1 < x.length := by rw [h.1]; decide
  have h1 := u64_hi (h.2 1 .u64 x[1] rfl (List.getElem?_eq_getElem hl))
  have e : x.getD 1 0 = x[1] := by simp [List.getD, hl]
  show (x.getD 1 0).toNat < _
  rw [e]; omega
/-- The configuration's block, and that of the words: while others write ahead. -/
structure KW0 (w : World) (s t f l p : Int) (gw : Nat) (us : List Nat) (W : World) : Prop where
  k : K5 w.heap.size w w.heap.size s t f l p W
  b : WB gw us W
  lg : w.heap.size < gw
theorem KW0.next {w : World} {s t f l p : Int} {gw : Nat} {us : List Nat} {W W' : World} (h : KW0 w s t f l p gw us W) (hn : Below W.heap.size W W') : KW0 w s t f l p gw us W' := ⟨h.k.next hn, h.b.next hn, h.lg⟩
theorem K5.butV {w : World} {s t f l p : Int} {g : Nat} {W W' : World} (h : K5 w.heap.size w w.heap.size s t f l p W) (hb : But g W W') (hg : w.heap.size < g) : K5 w.heap.size w w.heap.size s t f l p W' := by
  have hl : w.heap.size < W.heap.size := World.block_lt_of_cell? W _ h.c0
  have c : ∀ j, W'.cell? ⟨w.heap.size, j, none⟩ = W.cell? ⟨w.heap.size, j, none⟩ := fun j => hb.cell (p := ⟨w.heap.size, j, none⟩) hl (by show w.heap.size ≠ g; omega)
  exact ⟨(c 0).trans h.c0, (c 1).trans h.c1, (c 2).trans h.c2, (c 3).trans h.c3, (c 4).trans h.c4, h.bl.trans (hb.below (by omega) h.bl.size), Nat.le_trans h.le hb.size⟩
theorem KW0.but {w : World} {s t f l p : Int} {gw : Nat} {us us' : List Nat} {W W' : World} (h : KW0 w s t f l p gw us W) (hb : But gw W W') (hu : WB gw us' W') : KW0 w s t f l p gw us' W' := ⟨h.k.butV hb h.lg, hu, h.lg⟩
/-- All: the configuration, the automaton, the words, those that were. -/
structure KW1 (w : World) (s t f l p : Int) (g1 : Nat) (x : Ad) (gw : Nat) (vs : List Nat) (gc : Nat) (us : List Nat) (W : World) : Prop where
  k : K5 w.heap.size w w.heap.size s t f l p W
  e : AC g1 x W
  b : WB gw vs W
  c : WB gc us W
  l1 : w.heap.size < g1
  lw : w.heap.size < gw
  lc : w.heap.size < gc
  n1 : g1 ≠ gw
  n2 : g1 ≠ gc
  n3 : gw ≠ gc
section
variable {w : World} {s t f l p : Int} {g1 : Nat} {x : Ad} {gw : Nat} {vs : List Nat} {gc : Nat} {us : List Nat} {W W' : World}
theorem KW1.next (h : KW1 w s t f l p g1 x gw vs gc us W) (hn : Below W.heap.size W W') : KW1 w s t f l p g1 x gw vs gc us W' := ⟨h.k.next hn, h.e.next hn, h.b.next hn, h.c.next hn, h.l1, h.lw, h.lc, h.n1, h.n2, h.n3⟩
theorem KW1.drew (h : KW1 w s t f l p g1 x gw vs gc us W) : KW1 w s t f l p g1 x gw vs gc us W.drew := h.next (Below.refl _ _).drew
theorem AC.butV (h : AC g1 x W) (hb : But gw W W') (hg : g1 ≠ gw) : AC g1 x W' := by
  have c : ∀ j, W'.cell? ⟨g1, j, none⟩ = W.cell? ⟨g1, j, none⟩ := fun j => hb.cell (p := ⟨g1, j, none⟩) h.lt hg
  exact ⟨(c _).trans h.c0, (c _).trans h.c1, (c _).trans h.c2, (c _).trans h.c3, (c _).trans h.c4, (c _).trans h.c5, (c _).trans h.c6, (c _).trans h.c7, (c _).trans h.c8, (c _).trans h.c9, (c _).trans h.c10, (c _).trans h.c11, (c _).trans h.c12, fun i => (hb.frozen (p := ⟨g1, i, none⟩) h.lt hg).trans (h.fz i)⟩
theorem KW1.but (h : KW1 w s t f l p g1 x gw vs gc us W) (hb : But gw W W') {vs' : List Nat} (hv : WB gw vs' W') : KW1 w s t f l p g1 x gw vs' gc us W' :=
  ⟨h.k.butV hb h.lw, h.e.butV hb h.n1, hv, h.c.but hb (fun e => h.n3 e.symm), h.l1, h.lw, h.lc, h.n1, h.n2, h.n3⟩
theorem WB.setV {g q i : Nat} {us : List Nat} {W : World} (h : WB g us W) (hne : q ≠ g) (v : Value) : WB g us (W.setCell ⟨q, i, none⟩ v) := by
  have hne2 : g ≠ q := fun e => hne e.symm
  exact ⟨fun j hj => by have := h.wd j hj; simp [go_sem, this], fun j => by have := h.fz j; simp [go_sem, this], by have := h.lt; simpa using this⟩
/-- What a store into the automaton's block keeps of the rest. -/
structure SW (w : World) (s t f l p : Int) (gw : Nat) (vs : List Nat) (gc : Nat) (us : List Nat) (W : World) : Prop where
  k : K5 w.heap.size w w.heap.size s t f l p W
  b : WB gw vs W
  c : WB gc us W
theorem SW.st (h : SW w s t f l p gw vs gc us W) (l1 : w.heap.size < g1) (n1 : g1 ≠ gw) (n2 : g1 ≠ gc) (i : Nat) (v : Value) : SW w s t f l p gw vs gc us (W.setCell ⟨g1, i, none⟩ v) :=
  ⟨h.k.setV (by omega) (by omega) v, h.b.setV n1 v, h.c.setV n2 v⟩
theorem KW1.store (h : KW1 w s t f l p g1 x gw vs gc us W) (z : Ad) : KW1 w s t f l p g1 z gw vs gc us (putA W g1 z) := by
  have k : SW w s t f l p gw vs gc us (putA W g1 z) := (((((((((((((SW.mk h.k h.b h.c).st h.l1 h.n1 h.n2 _ _).st h.l1 h.n1 h.n2 _ _).st h.l1 h.n1 h.n2 _ _).st h.l1 h.n1 h.n2 _ _).st h.l1 h.n1 h.n2 _ _).st h.l1 h.n1 h.n2 _ _).st h.l1 h.n1 h.n2 _ _).st h.l1 h.n1 h.n2 _ _).st h.l1 h.n1 h.n2 _ _).st h.l1 h.n1 h.n2 _ _).st h.l1 h.n1 h.n2 _ _).st h.l1 h.n1 h.n2 _ _).st h.l1 h.n1 h.n2 _ _
  exact ⟨k.k, h.e.store z, k.b, k.c, h.l1, h.lw, h.lc, h.n1, h.n2, h.n3⟩
end
end Go.Proofs.YthcmgagmbioofaaDoor
