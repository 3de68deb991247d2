/- The program's search and the document's, each in a block of its own. -/
import Derived.Test.YtbajodaohgacmaaSeekRef
namespace Go.Proofs.Ytbajodaohgacmaa
set_option linter.unusedVariables false
open Go.RowKit
theorem width_mono : ∀ (a b : Nat), a ≤ b → M.width a ≤ M.width b := by
  intro a b h
  have hb : ∀ (k v : Nat), M.width v = k → v < 2 ^ k := by
    intro k
    induction k with
    | zero =>
      intro v hv
      by_cases h0 : v = 0
      · subst h0; simp
      · rw [M.width_pos v (by omega)] at hv; omega
    | succ k ih =>
      intro v hv
      by_cases h0 : v = 0
      · subst h0; exact M.pow_pos _
      · rw [M.width_pos v (by omega)] at hv
        have := ih (v / 2) (by omega)
        rw [Nat.pow_succ]; omega
  exact M.width_le _ a (Nat.lt_of_le_of_lt h (hb _ b rfl))
/-- What holds of both searches behind i keys that were told. -/
structure PI (B wn : Nat) (k q rk rq : Int) (i : Nat) (l h : Int) : Prop where
  l0 : 0 ≤ l
  lB : l ≤ B
  hB : h ≤ B
  big : B ≤ 1152921504606846976
  few : M.width (h - l).toNat ≤ wn - i
  same : (k = rk ∧ q = rq ∧ (rk = 1 ∨ rk = 2)) ∨ (l = 0 ∧ h = 0)
theorem PI.ok1 {B wn : Nat} {k q rk rq : Int} {i : Nat} {l h : Int} (p : PI B wn k q rk rq i l h) : (Sk.mk k q l h).ok := by
  obtain ⟨a, b, c, d, _, _⟩ := p
  exact ⟨a, by simp only; omega⟩
theorem PI.ok2 {B wn : Nat} {k q rk rq : Int} {i : Nat} {l h : Int} (p : PI B wn k q rk rq i l h) : (Sk.mk rk rq l h).ok := by
  obtain ⟨a, b, c, d, _, _⟩ := p
  exact ⟨a, by simp only; omega⟩
theorem PI.kind {B wn : Nat} {k q rk rq : Int} {i : Nat} {l h : Int} (p : PI B wn k q rk rq i l h) : (Sk.mk rk rq l h).k = 1 ∨ (Sk.mk rk rq l h).k = 2 ∨ (Sk.mk rk rq l h).hi ≤ (Sk.mk rk rq l h).lo := by
  obtain ⟨_, _, _, _, _, s⟩ := p
  simp only
  omega
theorem PI.step {B wn : Nat} {k q rk rq : Int} {i : Nat} {l h : Int} (p : PI B wn k q rk rq i l h) (x : Int) :
    ∃ l2 h2, (Sk.mk k q l h).took x = ⟨k, q, l2, h2⟩ ∧ (Sk.mk rk rq l h).took x = ⟨rk, rq, l2, h2⟩ ∧ PI B wn k q rk rq (i + 1) l2 h2 := by
  obtain ⟨a, b, c, d, e, s⟩ := p
  by_cases hl : l < h
  · rcases s with ⟨rfl, rfl, hk⟩ | ⟨rfl, rfl⟩
    · have hw := M.width_pos (h - l).toNat (by omega)
      by_cases hp : passOf k q x = true
      · refine ⟨l + (h - l) / 2 + 1, h, by unfold Sk.took; simp only; rw [if_pos hl, if_pos hp], by unfold Sk.took; simp only; rw [if_pos hl, if_pos hp], ⟨by omega, by omega, by omega, d, ?_, .inl ⟨rfl, rfl, hk⟩⟩⟩
        have := width_mono (h - (l + (h - l) / 2 + 1)).toNat ((h - l).toNat / 2) (by omega)
        omega
      · refine ⟨l, l + (h - l) / 2, by unfold Sk.took; simp only; rw [if_pos hl, if_neg hp], by unfold Sk.took; simp only; rw [if_pos hl, if_neg hp], ⟨by omega, by omega, by omega, d, ?_, .inl ⟨rfl, rfl, hk⟩⟩⟩
        have := width_mono (l + (h - l) / 2 - l).toNat ((h - l).toNat / 2) (by omega)
        omega
    · omega
  · refine ⟨l, h, by unfold Sk.took; simp only; rw [if_neg hl], by unfold Sk.took; simp only; rw [if_neg hl], ⟨a, b, c, d, ?_, s⟩⟩
    have : (h - l).toNat = 0 := by omega
    rw [this, M.width_zero]; omega
theorem PI.come {B wn : Nat} {k q rk rq : Int} {i : Nat} {l h : Int} (p : PI B wn k q rk rq i l h) (hi : wn ≤ i) : wantOf l h = -1 := by
  obtain ⟨_, _, _, _, e, _⟩ := p
  unfold wantOf
  rw [if_neg]
  intro hl
  have hw := M.width_pos (h - l).toNat (by omega)
  omega
structure PL (w : World) (g1 g2 : Nat) (s r : Sk) (W : World) : Prop where
  below : Below w.heap.size w W
  lo : w.heap.size ≤ g1
  two : g1 < g2
  hi : g2 < W.heap.size
  one : W.heap[g1]? = some (.cells s.cells 38 (0, 0))
  other : W.heap[g2]? = some (.cells r.rcells 41 (0, 0))
section
variable {w W W' : World} {g1 g2 : Nat} {s r : Sk}
theorem PL.next (h : PL w g1 g2 s r W) (hn : Below W.heap.size W W') : PL w g1 g2 s r W' :=
  have h2 := h.two
  have h3 := h.hi
  ⟨h.below.trans (hn.mono h.below.size), h.lo, h.two, Nat.lt_of_lt_of_le h.hi hn.size, (hn.block _ (by omega)).trans h.one, (hn.block _ (by omega)).trans h.other⟩
theorem PL.drew (h : PL w g1 g2 s r W) : PL w g1 g2 s r W.drew := ⟨h.below.drew, h.lo, h.two, h.hi, h.one, h.other⟩
theorem PL.store1 (h : PL w g1 g2 s r W) (s' : Sk) : PL w g1 g2 s' r ((((W.setCell ⟨g1, 0, none⟩ (.int .i64 s'.k)).setCell ⟨g1, 1, none⟩ (.int .u64 s'.q)).setCell ⟨g1, 2, none⟩ (.int .i64 s'.lo)).setCell ⟨g1, 3, none⟩ (.int .i64 s'.hi)) := by
  obtain ⟨hb, hlo, h2, hh, ho, ht⟩ := h
  refine ⟨(((hb.setCell hlo _).setCell hlo _).setCell hlo _).setCell hlo _, hlo, h2, by simpa [World.setCell] using hh, heap_set4 _ _ _ _ _ _ _ _ _ _ _ ho, ?_⟩
  rw [Below.heap_setCell _ _ _ _ (by simp; omega), Below.heap_setCell _ _ _ _ (by simp; omega), Below.heap_setCell _ _ _ _ (by simp; omega), Below.heap_setCell _ _ _ _ (by simp; omega)]
  exact ht
theorem PL.store2 (h : PL w g1 g2 s r W) (r' : Sk) : PL w g1 g2 s r' ((((W.setCell ⟨g2, 0, none⟩ (.int .i64 r'.k)).setCell ⟨g2, 1, none⟩ (.int .i64 r'.lo)).setCell ⟨g2, 2, none⟩ (.int .i64 r'.hi)).setCell ⟨g2, 3, none⟩ (.int .u64 r'.q)) := by
  obtain ⟨hb, hlo, h2, hh, ho, ht⟩ := h
  have hl2 : w.heap.size ≤ g2 := by omega
  refine ⟨(((hb.setCell hl2 _).setCell hl2 _).setCell hl2 _).setCell hl2 _, hlo, h2, by simpa [World.setCell] using hh, ?_, heap_set4 _ _ _ _ _ _ _ _ _ _ _ ht⟩
  rw [Below.heap_setCell _ _ _ _ (by simp; omega), Below.heap_setCell _ _ _ _ (by simp; omega), Below.heap_setCell _ _ _ _ (by simp; omega), Below.heap_setCell _ _ _ _ (by simp; omega)]
  exact ho
theorem PL.facts1 (h : PL w g1 g2 s r W) : (W.cell? ⟨g1, 0, none⟩ = some (.int .i64 s.k) ∧ W.cell? ⟨g1, 1, none⟩ = some (.int .u64 s.q) ∧ W.cell? ⟨g1, 2, none⟩ = some (.int .i64 s.lo) ∧ W.cell? ⟨g1, 3, none⟩ = some (.int .i64 s.hi)) ∧ (∀ i, W.frozen? ⟨g1, i, none⟩ = false) := by
  refine ⟨⟨?_, ?_, ?_, ?_⟩, frozen_of_row h.one⟩ <;> rw [cell_of_row W g1 _ _ _ _ h.one] <;> rfl
theorem PL.facts2 (h : PL w g1 g2 s r W) : (W.cell? ⟨g2, 0, none⟩ = some (.int .i64 r.k) ∧ W.cell? ⟨g2, 1, none⟩ = some (.int .i64 r.lo) ∧ W.cell? ⟨g2, 2, none⟩ = some (.int .i64 r.hi) ∧ W.cell? ⟨g2, 3, none⟩ = some (.int .u64 r.q)) ∧ (∀ i, W.frozen? ⟨g2, i, none⟩ = false) := by
  refine ⟨⟨?_, ?_, ?_, ?_⟩, frozen_of_row h.other⟩ <;> rw [cell_of_row W g2 _ _ _ _ h.other] <;> rfl
theorem PL.mk' {wa wn : World} (ha : Below w.heap.size w wa) (hn : Below (wa.alloc (Obj.cells s.cells 38)).heap.size (wa.alloc (Obj.cells s.cells 38)) wn) :
    PL w wa.heap.size wn.heap.size s r (wn.alloc (Obj.cells r.rcells 41)) := by
  have hs := hn.size
  simp at hs
  have hb : Below w.heap.size w wn := (ha.alloc ha.size (Obj.cells s.cells 38)).trans (hn.mono (ha.alloc ha.size (Obj.cells s.cells 38)).size)
  refine ⟨hb.alloc hb.size _, ha.size, by omega, by simp, ?_, heap_alloc_new wn _⟩
  rw [Below.heap_alloc _ _ _ (by omega), hn.block _ (by simp)]
  exact heap_alloc_new wa _
end
/-- What a test of both reads. -/
def PQ (w : World) (g1 g2 : Nat) (k q rk rq l h : Int) (W : World) : Prop := W.cell? ⟨g1, 0, none⟩ = some (.int .i64 k) ∧ W.cell? ⟨g1, 1, none⟩ = some (.int .u64 q) ∧ W.cell? ⟨g1, 2, none⟩ = some (.int .i64 l) ∧ W.cell? ⟨g1, 3, none⟩ = some (.int .i64 h) ∧ W.cell? ⟨g2, 0, none⟩ = some (.int .i64 rk) ∧ W.cell? ⟨g2, 1, none⟩ = some (.int .i64 l) ∧ W.cell? ⟨g2, 2, none⟩ = some (.int .i64 h) ∧ W.cell? ⟨g2, 3, none⟩ = some (.int .u64 rq) ∧ PL w g1 g2 ⟨k, q, l, h⟩ ⟨rk, rq, l, h⟩ W
theorem PQ.mk {w W : World} {g1 g2 : Nat} {k q rk rq l h : Int} (p : PL w g1 g2 ⟨k, q, l, h⟩ ⟨rk, rq, l, h⟩ W) : PQ w g1 g2 k q rk rq l h W :=
  ⟨p.facts1.1.1, p.facts1.1.2.1, p.facts1.1.2.2.1, p.facts1.1.2.2.2, p.facts2.1.1, p.facts2.1.2.1, p.facts2.1.2.2.1, p.facts2.1.2.2.2, p⟩
theorem PQ.pl {w W : World} {g1 g2 : Nat} {k q rk rq l h : Int} (p : PQ w g1 g2 k q rk rq l h W) : PL w g1 g2 ⟨k, q, l, h⟩ ⟨rk, rq, l, h⟩ W := p.2.2.2.2.2.2.2.2
theorem PQ.next {w W W' : World} {g1 g2 : Nat} {k q rk rq l h : Int} (p : PQ w g1 g2 k q rk rq l h W) (hn : Below W.heap.size W W') : PQ w g1 g2 k q rk rq l h W' := PQ.mk (p.pl.next hn)
theorem PQ.drew {w W : World} {g1 g2 : Nat} {k q rk rq l h : Int} (p : PQ w g1 g2 k q rk rq l h W) : PQ w g1 g2 k q rk rq l h W.drew := PQ.mk p.pl.drew
theorem PL.c0 {w W : World} {g1 g2 : Nat} {k q l h : Int} {r : Sk} (p : PL w g1 g2 ⟨k, q, l, h⟩ r W) : W.cell? ⟨g1, 0, none⟩ = some (.int .i64 k) := p.facts1.1.1
theorem PL.c1 {w W : World} {g1 g2 : Nat} {k q l h : Int} {r : Sk} (p : PL w g1 g2 ⟨k, q, l, h⟩ r W) : W.cell? ⟨g1, 1, none⟩ = some (.int .u64 q) := p.facts1.1.2.1
theorem PL.c2 {w W : World} {g1 g2 : Nat} {k q l h : Int} {r : Sk} (p : PL w g1 g2 ⟨k, q, l, h⟩ r W) : W.cell? ⟨g1, 2, none⟩ = some (.int .i64 l) := p.facts1.1.2.2.1
theorem PL.c3 {w W : World} {g1 g2 : Nat} {k q l h : Int} {r : Sk} (p : PL w g1 g2 ⟨k, q, l, h⟩ r W) : W.cell? ⟨g1, 3, none⟩ = some (.int .i64 h) := p.facts1.1.2.2.2
theorem PL.d0 {w W : World} {g1 g2 : Nat} {k q l h : Int} {s : Sk} (p : PL w g1 g2 s ⟨k, q, l, h⟩ W) : W.cell? ⟨g2, 0, none⟩ = some (.int .i64 k) := p.facts2.1.1
theorem PL.d1 {w W : World} {g1 g2 : Nat} {k q l h : Int} {s : Sk} (p : PL w g1 g2 s ⟨k, q, l, h⟩ W) : W.cell? ⟨g2, 1, none⟩ = some (.int .i64 l) := p.facts2.1.2.1
theorem PL.d2 {w W : World} {g1 g2 : Nat} {k q l h : Int} {s : Sk} (p : PL w g1 g2 s ⟨k, q, l, h⟩ W) : W.cell? ⟨g2, 2, none⟩ = some (.int .i64 h) := p.facts2.1.2.2.1
theorem PL.d3 {w W : World} {g1 g2 : Nat} {k q l h : Int} {s : Sk} (p : PL w g1 g2 s ⟨k, q, l, h⟩ W) : W.cell? ⟨g2, 3, none⟩ = some (.int .u64 q) := p.facts2.1.2.2.2
structure PX (w : World) (g1 g2 : Nat) (s r : Sk) (a : Addr) (v : Value) (W : World) : Prop extends PL w g1 g2 s r W where
  xc : W.cell? a = some v
  xb : a.block < w.heap.size
theorem PX.next {w W W' : World} {g1 g2 : Nat} {s r : Sk} {a : Addr} {v : Value} (h : PX w g1 g2 s r a v W) (hn : Below W.heap.size W W') : PX w g1 g2 s r a v W' :=
  ⟨h.toPL.next hn, (hn.cell (Nat.lt_of_lt_of_le h.xb h.below.size)).trans h.xc, h.xb⟩
theorem PX.mk' {w W : World} {g1 g2 : Nat} {s r : Sk} {a : Addr} {v : Value} (h : PL w g1 g2 s r W) (hb : a.block < w.heap.size) (hx : w.cell? a = some v) : PX w g1 g2 s r a v W.drew :=
  ⟨h.drew, (h.below.drew.cell hb).trans hx, hb⟩
end Go.Proofs.Ytbajodaohgacmaa
