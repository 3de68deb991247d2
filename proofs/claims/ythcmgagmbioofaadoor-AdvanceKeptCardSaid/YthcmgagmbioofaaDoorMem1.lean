/- Rows of words and memories; what an access turns; has, Do. -/
import Derived.Test.YthcmgagmbioofaaDoorLay4
import Derived.Test.YthcmgagmbioofaaDoorTail
import Derived.Test.YthcmgagmbioofaaDoorField
import Derived.Lib.Hide
namespace Go.Proofs.YthcmgagmbioofaaDoor
set_option linter.unusedVariables false
open Go.RowKit
theorem ml1 (W : World) (a : Obj) : Below W.heap.size W (W.alloc a) := (Below.refl _ _).alloc (Nat.le_refl _) _
/-- But for block g the world W' is as W was. -/
structure But (g : Nat) (W W' : World) : Prop where
  os : W'.os = W.os
  tape : W'.tape = W.tape
  output : W'.output = W.output
  size : W.heap.size ≤ W'.heap.size
  block : ∀ k, k < W.heap.size → k ≠ g → W'.heap[k]? = W.heap[k]?
theorem But.refl (g : Nat) (W : World) : But g W W := ⟨rfl, rfl, rfl, Nat.le_refl _, fun _ _ _ => rfl⟩
theorem But.trans {g : Nat} {a b c : World} (h : But g a b) (k : But g b c) : But g a c :=
  ⟨k.os.trans h.os, k.tape.trans h.tape, k.output.trans h.output, Nat.le_trans h.size k.size, fun j hj hg => (k.block j (Nat.lt_of_lt_of_le hj h.size) hg).trans (h.block j hj hg)⟩
theorem But.of_below {g : Nat} {W W' : World} (h : Below W.heap.size W W') : But g W W' := ⟨h.os, h.tape, h.output, h.size, fun k hk _ => h.block k hk⟩
theorem But.set {g i : Nat} {W W' : World} (h : But g W W') (v : Value) : But g W (W'.setCell ⟨g, i, none⟩ v) :=
  h.trans ⟨rfl, rfl, rfl, by simp [World.setCell], fun k hk hg => Below.heap_setCell _ _ _ _ hg⟩
theorem But.below {g B : Nat} {W W' : World} (h : But g W W') (hg : B ≤ g) (hB : B ≤ W.heap.size) : Below B W W' :=
  ⟨h.os, h.tape, h.output, h.size, fun k hk => h.block k (by omega) (by omega)⟩
theorem But.cell {g : Nat} {W W' : World} (h : But g W W') {p : Addr} (hp : p.block < W.heap.size) (hg : p.block ≠ g) : W'.cell? p = W.cell? p := World.cell?_of_block (w := W) (h.block p.block hp hg)
theorem But.frozen {g : Nat} {W W' : World} (h : But g W W') {p : Addr} (hp : p.block < W.heap.size) (hg : p.block ≠ g) : W'.frozen? p = W.frozen? p := World.frozen?_of_block (w := W) (h.block p.block hp hg)
/-- Block g is a row of words, not frozen. -/
structure WB (g : Nat) (us : List Nat) (W : World) : Prop where
  wd : ∀ i, i < us.length → W.cell? ⟨g, i, none⟩ = some (.int .u64 ((us.getD i 0 : Nat)))
  fz : ∀ i, W.frozen? ⟨g, i, none⟩ = false
  lt : g < W.heap.size
theorem WB.but {g x : Nat} {us : List Nat} {W W' : World} (h : WB g us W) (hn : But x W W') (hx : g ≠ x) : WB g us W' :=
  ⟨fun i hi => (hn.cell (p := ⟨g, i, none⟩) h.lt hx).trans (h.wd i hi), fun i => (hn.frozen (p := ⟨g, i, none⟩) h.lt hx).trans (h.fz i), Nat.lt_of_lt_of_le h.lt hn.size⟩
theorem WB.next {g : Nat} {us : List Nat} {W W' : World} (h : WB g us W) (hn : Below W.heap.size W W') : WB g us W' :=
  ⟨fun i hi => (hn.cell (p := ⟨g, i, none⟩) h.lt).trans (h.wd i hi), fun i => (hn.frozen (p := ⟨g, i, none⟩) h.lt).trans (h.fz i), Nat.lt_of_lt_of_le h.lt hn.size⟩
theorem set_getD (us : List Nat) (i x j : Nat) (hi : i < us.length) : (us.set i x).getD j 0 = if j = i then x else us.getD j 0 := by
  rw [List.getD_eq_getElem?_getD, List.getElem?_set]
  by_cases h : j = i
  · subst h; simp [hi]
  · rw [if_neg (Ne.symm h), if_neg h, List.getD_eq_getElem?_getD]
theorem WB.set {g i x : Nat} {us : List Nat} {W : World} (h : WB g us W) (hi : i < us.length) : WB g (us.set i x) (W.setCell ⟨g, i, none⟩ (.int .u64 (x : Nat))) := by
  refine ⟨fun j hj => ?_, fun j => ?_, by simp [World.setCell]; exact h.lt⟩
  · rw [List.length_set] at hj
    rw [set_getD _ _ _ _ hi]
    by_cases e : j = i
    · subst e
      rw [if_pos rfl]
      exact World.cell?_setCell_same' _ _ _ (by rw [h.wd j hj]; rfl)
    · rw [if_neg e, World.cell?_setCell_other _ ⟨g, i, none⟩ ⟨g, j, none⟩ _ (by intro e2; injection e2 with e3 e4; exact e e4.symm)]
      exact h.wd j hj
  · rw [World.frozen?_setCell]; exact h.fz j
/-- A memory's box: its layout's numbers, its words' slice. -/
structure MR (g : Nat) (s t f l p : Int) (A : Option Addr) (n c : Nat) (W : World) : Prop where
  c0 : W.cell? ⟨g, 0, none⟩ = some (.int .i64 s)
  c1 : W.cell? ⟨g, 1, none⟩ = some (.int .i64 t)
  c2 : W.cell? ⟨g, 2, none⟩ = some (.int .i64 f)
  c3 : W.cell? ⟨g, 3, none⟩ = some (.int .i64 l)
  c4 : W.cell? ⟨g, 4, none⟩ = some (.int .i64 p)
  c5 : W.cell? ⟨g, 5, none⟩ = some (.slice A n c)
theorem MR.lt {g : Nat} {s t f l p : Int} {A : Option Addr} {n c : Nat} {W : World} (h : MR g s t f l p A n c W) : g < W.heap.size := World.block_lt_of_cell? W _ h.c0
theorem MR.but {g x : Nat} {s t f l p : Int} {A : Option Addr} {n c : Nat} {W W' : World} (h : MR g s t f l p A n c W) (hn : But x W W') (hx : g ≠ x) : MR g s t f l p A n c W' := by
  have e : ∀ i, W'.cell? ⟨g, i, none⟩ = W.cell? ⟨g, i, none⟩ := fun i => hn.cell (p := ⟨g, i, none⟩) h.lt hx
  exact ⟨(e _).trans h.c0, (e _).trans h.c1, (e _).trans h.c2, (e _).trans h.c3, (e _).trans h.c4, (e _).trans h.c5⟩
theorem MR.next {g : Nat} {s t f l p : Int} {A : Option Addr} {n c : Nat} {W W' : World} (h : MR g s t f l p A n c W) (hn : Below W.heap.size W W') : MR g s t f l p A n c W' := by
  have e : ∀ i, W'.cell? ⟨g, i, none⟩ = W.cell? ⟨g, i, none⟩ := fun i => hn.cell (p := ⟨g, i, none⟩) h.lt
  exact ⟨(e _).trans h.c0, (e _).trans h.c1, (e _).trans h.c2, (e _).trans h.c3, (e _).trans h.c4, (e _).trans h.c5⟩
/-- A memory: its box, its words' row. -/
structure MB (g gw : Nat) (s t f l p : Int) (us : List Nat) (W : World) : Prop where
  ex : ∃ q, MR g s t f l p (some ⟨gw, 0, none⟩) us.length q W ∧ us.length ≤ q ∧ q ≤ maxLen
  b : WB gw us W
  ne : g ≠ gw
theorem MB.r {g gw : Nat} {s t f l p : Int} {us : List Nat} {W : World} (h : MB g gw s t f l p us W) : MR g s t f l p (some ⟨gw, 0, none⟩) us.length (Classical.choose h.ex) W := (Classical.choose_spec h.ex).1
theorem MB.but {g gw x : Nat} {s t f l p : Int} {us : List Nat} {W W' : World} (h : MB g gw s t f l p us W) (hn : But x W W') (h1 : g ≠ x) (h2 : gw ≠ x) : MB g gw s t f l p us W' := by
  obtain ⟨q, hr, hq⟩ := h.ex
  exact ⟨⟨q, hr.but hn h1, hq⟩, h.b.but hn h2, h.ne⟩
theorem MB.next {g gw : Nat} {s t f l p : Int} {us : List Nat} {W W' : World} (h : MB g gw s t f l p us W) (hn : Below W.heap.size W W') : MB g gw s t f l p us W' := by
  obtain ⟨q, hr, hq⟩ := h.ex
  exact ⟨⟨q, hr.next hn, hq⟩, h.b.next hn, h.ne⟩
theorem MB.set {g gw i x : Nat} {s t f l p : Int} {us : List Nat} {W : World} (h : MB g gw s t f l p us W) (hi : i < us.length) : MB g gw s t f l p (us.set i x) (W.setCell ⟨gw, i, none⟩ (.int .u64 (x : Nat))) := by
  obtain ⟨q, hr, hq⟩ := h.ex
  refine ⟨⟨q, ?_, by rw [List.length_set]; exact hq⟩, h.b.set hi, h.ne⟩
  rw [List.length_set]
  exact hr.but ((But.refl gw W).set _) h.ne
end Go.Proofs.YthcmgagmbioofaaDoor
