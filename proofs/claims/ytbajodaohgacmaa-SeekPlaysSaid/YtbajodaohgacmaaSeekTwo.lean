/- Two searches in memory, each in a block of its own. -/
import Derived.Test.YtbajodaohgacmaaSeekOf2
namespace Go.Proofs.Ytbajodaohgacmaa
set_option linter.unusedVariables false
open Go.RowKit
/-- A search that was told keys. -/
def Sk.fold (zs : List Int) (s : Sk) : Nat → Sk
  | 0 => s
  | i + 1 => (Sk.fold zs s i).took (zs.getD i 0)
theorem Sk.ok_fold (zs : List Int) (s : Sk) (h : s.ok) : ∀ i, (Sk.fold zs s i).ok
  | 0 => h
  | i + 1 => Sk.ok_took _ (Sk.ok_fold zs s h i) _
def Sk.cells (s : Sk) : Array Value := #[.int .i64 s.k, .int .u64 s.q, .int .i64 s.lo, .int .i64 s.hi]
structure LS (w : World) (g1 g2 : Nat) (s t : Sk) (W : World) : Prop where
  below : Below w.heap.size w W
  lo : w.heap.size ≤ g1
  two : g1 < g2
  hi : g2 < W.heap.size
  one : W.heap[g1]? = some (.cells s.cells 38 (0, 0))
  other : W.heap[g2]? = some (.cells t.cells 38 (0, 0))
section
variable {w W W' : World} {g1 g2 : Nat} {s t : Sk}
theorem LS.next (h : LS w g1 g2 s t W) (hn : Below W.heap.size W W') : LS w g1 g2 s t W' :=
  have h2 := h.two
  have h3 := h.hi
  ⟨h.below.trans (hn.mono h.below.size), h.lo, h.two, Nat.lt_of_lt_of_le h.hi hn.size, (hn.block _ (by omega)).trans h.one, (hn.block _ (by omega)).trans h.other⟩
theorem LS.drew (h : LS w g1 g2 s t W) : LS w g1 g2 s t W.drew := ⟨h.below.drew, h.lo, h.two, h.hi, h.one, h.other⟩
theorem LS.alloc (h : LS w g1 g2 s t W) (o : Obj) : LS w g1 g2 s t (W.alloc o) := h.next ((Below.refl _ _).alloc (Nat.le_refl _) o)
theorem LS.store1 (h : LS w g1 g2 s t W) (s' : Sk) : LS w g1 g2 s' t ((((W.setCell ⟨g1, 0, none⟩ (.int .i64 s'.k)).setCell ⟨g1, 1, none⟩ (.int .u64 s'.q)).setCell ⟨g1, 2, none⟩ (.int .i64 s'.lo)).setCell ⟨g1, 3, none⟩ (.int .i64 s'.hi)) := by
  obtain ⟨hb, hlo, h2, hh, ho, ht⟩ := h
  refine ⟨(((hb.setCell hlo _).setCell hlo _).setCell hlo _).setCell hlo _, hlo, h2, by simpa [World.setCell] using hh, heap_set4 _ _ _ _ _ _ _ _ _ _ _ ho, ?_⟩
  rw [Below.heap_setCell _ _ _ _ (by simp; omega), Below.heap_setCell _ _ _ _ (by simp; omega), Below.heap_setCell _ _ _ _ (by simp; omega), Below.heap_setCell _ _ _ _ (by simp; omega)]
  exact ht
theorem LS.store2 (h : LS w g1 g2 s t W) (s' : Sk) : LS w g1 g2 s s' ((((W.setCell ⟨g2, 0, none⟩ (.int .i64 s'.k)).setCell ⟨g2, 1, none⟩ (.int .u64 s'.q)).setCell ⟨g2, 2, none⟩ (.int .i64 s'.lo)).setCell ⟨g2, 3, none⟩ (.int .i64 s'.hi)) := by
  obtain ⟨hb, hlo, h2, hh, ho, ht⟩ := h
  have hl2 : w.heap.size ≤ g2 := by omega
  refine ⟨(((hb.setCell hl2 _).setCell hl2 _).setCell hl2 _).setCell hl2 _, hlo, h2, by simpa [World.setCell] using hh, ?_, heap_set4 _ _ _ _ _ _ _ _ _ _ _ ht⟩
  rw [Below.heap_setCell _ _ _ _ (by simp; omega), Below.heap_setCell _ _ _ _ (by simp; omega), Below.heap_setCell _ _ _ _ (by simp; omega), Below.heap_setCell _ _ _ _ (by simp; omega)]
  exact ho
theorem LS.facts1 (h : LS w g1 g2 s t W) : (W.cell? ⟨g1, 0, none⟩ = some (.int .i64 s.k) ∧ W.cell? ⟨g1, 1, none⟩ = some (.int .u64 s.q) ∧ W.cell? ⟨g1, 2, none⟩ = some (.int .i64 s.lo) ∧ W.cell? ⟨g1, 3, none⟩ = some (.int .i64 s.hi)) ∧ (∀ i, W.frozen? ⟨g1, i, none⟩ = false) := by
  refine ⟨⟨?_, ?_, ?_, ?_⟩, frozen_of_row h.one⟩ <;> rw [cell_of_row W g1 _ _ _ _ h.one] <;> rfl
theorem LS.facts2 (h : LS w g1 g2 s t W) : (W.cell? ⟨g2, 0, none⟩ = some (.int .i64 t.k) ∧ W.cell? ⟨g2, 1, none⟩ = some (.int .u64 t.q) ∧ W.cell? ⟨g2, 2, none⟩ = some (.int .i64 t.lo) ∧ W.cell? ⟨g2, 3, none⟩ = some (.int .i64 t.hi)) ∧ (∀ i, W.frozen? ⟨g2, i, none⟩ = false) := by
  refine ⟨⟨?_, ?_, ?_, ?_⟩, frozen_of_row h.other⟩ <;> rw [cell_of_row W g2 _ _ _ _ h.other] <;> rfl
end
/-- A search that nobody made, in a block of its own. -/
structure TS (w : World) (g : Nat) (W : World) : Prop where
  below : Below w.heap.size w W
  hi : g < W.heap.size
  node : W.heap[g]? = some (.cells #[.int .i64 0, .int .u64 0, .int .i64 0, .int .i64 0] 38 (0, 0))
theorem TS.next {w W W' : World} {g : Nat} (h : TS w g W) (hn : Below W.heap.size W W') : TS w g W' :=
  ⟨h.below.trans (hn.mono h.below.size), Nat.lt_of_lt_of_le h.hi hn.size, (hn.block _ h.hi).trans h.node⟩
theorem TS.facts {w W : World} {g : Nat} (h : TS w g W) : W.cell? ⟨g, 0, none⟩ = some (.int .i64 0) ∧ W.cell? ⟨g, 1, none⟩ = some (.int .u64 0) ∧ W.cell? ⟨g, 2, none⟩ = some (.int .i64 0) ∧ W.cell? ⟨g, 3, none⟩ = some (.int .i64 0) := by
  refine ⟨?_, ?_, ?_, ?_⟩ <;> rw [cell_of_row W g _ _ _ _ h.node] <;> rfl
theorem TS.new {w W : World} (h : Below w.heap.size w W) : TS w W.heap.size (W.alloc (Obj.cells #[Value.int IntKind.i64 0, Value.int IntKind.u64 0, Value.int IntKind.i64 0, Value.int IntKind.i64 0] 38)) :=
  ⟨h.alloc h.size _, by simp, heap_alloc_new W _⟩
theorem LS.mk' {w wa wn : World} {s : Sk} (ha : Below w.heap.size w wa) (hn : Below (wa.alloc (Obj.cells s.cells 38)).heap.size (wa.alloc (Obj.cells s.cells 38)) wn) :
    LS w wa.heap.size wn.heap.size s s (wn.alloc (Obj.cells s.cells 38)) := by
  have hs := hn.size
  simp at hs
  have hb : Below w.heap.size w wn := (ha.alloc ha.size (Obj.cells s.cells 38)).trans (hn.mono (ha.alloc ha.size (Obj.cells s.cells 38)).size)
  refine ⟨hb.alloc hb.size _, ha.size, by omega, by simp, ?_, heap_alloc_new wn _⟩
  rw [Below.heap_alloc _ _ _ (by omega), hn.block _ (by simp)]
  exact heap_alloc_new wa _
/-- What the last statement reads: both searches, and one that nobody made. -/
def QS (w : World) (g1 g2 g3 : Nat) (s : Sk) (W : World) : Prop := W.cell? ⟨g1, 0, none⟩ = some (.int .i64 s.k) ∧ W.cell? ⟨g1, 1, none⟩ = some (.int .u64 s.q) ∧ W.cell? ⟨g1, 2, none⟩ = some (.int .i64 s.lo) ∧ W.cell? ⟨g1, 3, none⟩ = some (.int .i64 s.hi) ∧ W.cell? ⟨g2, 0, none⟩ = some (.int .i64 s.k) ∧ W.cell? ⟨g2, 1, none⟩ = some (.int .u64 s.q) ∧ W.cell? ⟨g2, 2, none⟩ = some (.int .i64 s.lo) ∧ W.cell? ⟨g2, 3, none⟩ = some (.int .i64 s.hi) ∧ W.cell? ⟨g3, 0, none⟩ = some (.int .i64 0) ∧ W.cell? ⟨g3, 1, none⟩ = some (.int .u64 0) ∧ W.cell? ⟨g3, 2, none⟩ = some (.int .i64 0) ∧ W.cell? ⟨g3, 3, none⟩ = some (.int .i64 0) ∧ LS w g1 g2 s s W ∧ TS w g3 W
theorem QS.mk {w W : World} {g1 g2 g3 : Nat} {s : Sk} (h : LS w g1 g2 s s W) (k : TS w g3 W) : QS w g1 g2 g3 s W :=
  ⟨h.facts1.1.1, h.facts1.1.2.1, h.facts1.1.2.2.1, h.facts1.1.2.2.2, h.facts2.1.1, h.facts2.1.2.1, h.facts2.1.2.2.1, h.facts2.1.2.2.2, k.facts.1, k.facts.2.1, k.facts.2.2.1, k.facts.2.2.2, h, k⟩
theorem QS.next {w W W' : World} {g1 g2 g3 : Nat} {s : Sk} (h : QS w g1 g2 g3 s W) (hn : Below W.heap.size W W') : QS w g1 g2 g3 s W' := by
  obtain ⟨_, _, _, _, _, _, _, _, _, _, _, _, hl, ht⟩ := h
  exact QS.mk (hl.next hn) (ht.next hn)
theorem QS.drew {w W : World} {g1 g2 g3 : Nat} {s : Sk} (h : QS w g1 g2 g3 s W) : QS w g1 g2 g3 s W.drew := by
  obtain ⟨_, _, _, _, _, _, _, _, _, _, _, _, hl, ht⟩ := h
  exact QS.mk hl.drew ⟨ht.below.drew, ht.hi, ht.node⟩
theorem QS.below {w W : World} {g1 g2 g3 : Nat} {s : Sk} (h : QS w g1 g2 g3 s W) : Below w.heap.size w W := h.2.2.2.2.2.2.2.2.2.2.2.2.1.below
theorem QS.new {w W : World} {g1 g2 : Nat} {s : Sk} (h : LS w g1 g2 s s W) : QS w g1 g2 W.heap.size s (W.alloc (Obj.cells #[Value.int IntKind.i64 0, Value.int IntKind.u64 0, Value.int IntKind.i64 0, Value.int IntKind.i64 0] 38)) :=
  QS.mk (h.alloc _) (TS.new h.below)
end Go.Proofs.Ytbajodaohgacmaa
