/- Two memories and an access: what the law MemoryOne holds. -/
import Derived.Test.YtllkbofjegadeaaDoorMem9
namespace Go.Proofs.YtllkbofjegadeaaDoor
set_option linter.unusedVariables false
open Go.RowKit
/-- The configuration's box. -/
structure CB (w0 : World) (s t f l p : Int) (W : World) : Prop where
  c0 : W.cell? ⟨w0.heap.size, 0, none⟩ = some (.int .i64 s)
  c1 : W.cell? ⟨w0.heap.size, 1, none⟩ = some (.int .i64 t)
  c2 : W.cell? ⟨w0.heap.size, 2, none⟩ = some (.int .i64 f)
  c3 : W.cell? ⟨w0.heap.size, 3, none⟩ = some (.int .i64 l)
  c4 : W.cell? ⟨w0.heap.size, 4, none⟩ = some (.int .i64 p)
  bl : Below w0.heap.size w0 W
theorem CB.next {w0 W W' : World} {s t f l p : Int} (h : CB w0 s t f l p W) (hn : Below W.heap.size W W') : CB w0 s t f l p W' := by
  have hg : w0.heap.size < W.heap.size := World.block_lt_of_cell? W _ h.c0
  have e : ∀ i, W'.cell? ⟨w0.heap.size, i, none⟩ = W.cell? ⟨w0.heap.size, i, none⟩ := fun i => hn.cell (p := ⟨w0.heap.size, i, none⟩) hg
  exact ⟨(e _).trans h.c0, (e _).trans h.c1, (e _).trans h.c2, (e _).trans h.c3, (e _).trans h.c4, h.bl.trans (hn.mono h.bl.size)⟩
theorem CB.start (w : World) (s t f l p : Int) : CB w s t f l p (w.alloc (.cells #[.int .i64 s, .int .i64 t, .int .i64 f, .int .i64 l, .int .i64 p] 23)) := ⟨by simp, by simp, by simp, by simp, by simp, ml1 _ _⟩
/-- The access's box, behind the configuration's. -/
structure AB (w0 : World) (k a : Int) (o x : Nat) (W : World) : Prop where
  a0 : W.cell? ⟨w0.heap.size + 1, 0, none⟩ = some (.int .i64 k)
  a1 : W.cell? ⟨w0.heap.size + 1, 1, none⟩ = some (.int .i64 a)
  a2 : W.cell? ⟨w0.heap.size + 1, 2, none⟩ = some (.int .u64 (o : Nat))
  a3 : W.cell? ⟨w0.heap.size + 1, 3, none⟩ = some (.int .u64 (x : Nat))
theorem AB.next {w0 W W' : World} {k a : Int} {o x : Nat} (h : AB w0 k a o x W) (hn : Below W.heap.size W W') : AB w0 k a o x W' := by
  have hg : w0.heap.size + 1 < W.heap.size := World.block_lt_of_cell? W _ h.a0
  have e : ∀ i, W'.cell? ⟨w0.heap.size + 1, i, none⟩ = W.cell? ⟨w0.heap.size + 1, i, none⟩ := fun i => hn.cell (p := ⟨w0.heap.size + 1, i, none⟩) hg
  exact ⟨(e _).trans h.a0, (e _).trans h.a1, (e _).trans h.a2, (e _).trans h.a3⟩
theorem AB.but {w0 W W' : World} {k a : Int} {o x g : Nat} (h : AB w0 k a o x W) (hn : But g W W') (hgg : w0.heap.size + 1 < g) : AB w0 k a o x W' := by
  have hg : w0.heap.size + 1 < W.heap.size := World.block_lt_of_cell? W _ h.a0
  have e : ∀ i, W'.cell? ⟨w0.heap.size + 1, i, none⟩ = W.cell? ⟨w0.heap.size + 1, i, none⟩ := fun i => hn.cell (p := ⟨w0.heap.size + 1, i, none⟩) hg (by show w0.heap.size + 1 ≠ g; omega)
  exact ⟨(e _).trans h.a0, (e _).trans h.a1, (e _).trans h.a2, (e _).trans h.a3⟩
theorem AB.start (w : World) (c : Obj) (k a : Int) (o x : Nat) : AB w k a o x ((w.alloc c).alloc (askRow k a o x)) := ⟨by simp, by simp, by simp, by simp⟩
structure M2 (w : World) (k a : Int) (o x : Nat) (g1 h1 g2 h2 : Nat) (s t f l p : Int) (us vs : List Nat) (W : World) : Prop where
  q : AB w k a o x W
  m : MB g1 h1 s t f l p us W
  n : MB g2 h2 s t f l p vs W
  bl : Below w.heap.size w W
  l1 : w.heap.size + 1 < h1
  l2 : w.heap.size + 1 < h2
  d1 : g1 ≠ h2
  d2 : h1 ≠ h2
  d3 : g2 ≠ h1
section
variable {w : World} {k a : Int} {o x : Nat} {g1 h1 g2 h2 : Nat} {s t f l p : Int} {us vs : List Nat} {W W' : World}
theorem M2.next (h : M2 w k a o x g1 h1 g2 h2 s t f l p us vs W) (hn : Below W.heap.size W W') : M2 w k a o x g1 h1 g2 h2 s t f l p us vs W' :=
  ⟨h.q.next hn, h.m.next hn, h.n.next hn, h.bl.trans (hn.mono h.bl.size), h.l1, h.l2, h.d1, h.d2, h.d3⟩
theorem M2.but1 (h : M2 w k a o x g1 h1 g2 h2 s t f l p us vs W) {us' : List Nat} (hm : MB g1 h1 s t f l p us' W') (hn : But h1 W W') : M2 w k a o x g1 h1 g2 h2 s t f l p us' vs W' :=
  ⟨h.q.but hn h.l1, hm, h.n.but hn h.d3 (Ne.symm h.d2), h.bl.trans (hn.below (by have := h.l1; omega) h.bl.size), h.l1, h.l2, h.d1, h.d2, h.d3⟩
theorem M2.but2 (h : M2 w k a o x g1 h1 g2 h2 s t f l p us vs W) {vs' : List Nat} (hm : MB g2 h2 s t f l p vs' W') (hn : But h2 W W') : M2 w k a o x g1 h1 g2 h2 s t f l p us vs' W' :=
  ⟨h.q.but hn h.l2, h.m.but hn h.d1 h.d2, hm, h.bl.trans (hn.below (by have := h.l2; omega) h.bl.size), h.l1, h.l2, h.d1, h.d2, h.d3⟩
end
theorem mwrite_one2 (g gw : Nat) (s t f l p : Int) (us : List Nat) (a : Int) (v gb : Nat) (hu : us.length ≤ 100000) (W : World) (hgb : gb = W.heap.size) (hm : MB g gw s t f l p us W) :
    Calls Tryd.prog 15 #[.pointer (some ⟨g, 0, none⟩), .slice (some ⟨gb, 0, none⟩) 1 1] (W.alloc (.cells #[.int .i64 a, .int .u64 (v : Nat)] 42)) fun e w' => (∃ v, e = .returned v) ∧ MB g gw s t f l p (wr1 us (a, v)) w' ∧ But gw W w' := by
  subst hgb
  refine (mwrite_any g gw s t f l p us [(a, v)] hu (by simp) (some ⟨W.heap.size, 0, none⟩) W.heap.size 0 1 _ (hm.next (ml1 _ _)) (RW2.one W a v) (Nat.ne_of_gt hm.b.lt)).mono ?_
  rintro e w' ⟨h1, h2, h3⟩
  exact ⟨h1, h2, (But.of_below (ml1 _ _)).trans h3⟩
/-- An access is told by one word, and turns that one alone. -/
theorem one_same (us vs : List Nat) (k a : Int) (o x : Nat) (hl : us.length = vs.length) (hw : wordF us a = wordF vs a) :
    (doF vs k a o x).1 = (doF us k a o x).1 ∧ wordF (doF vs k a o x).2 a = wordF (doF us k a o x).2 a := by
  by_cases ha : 0 ≤ a ∧ a < us.length
  · have ha2 : 0 ≤ a ∧ a < vs.length := by rw [← hl]; exact ha
    have hi : a.toNat < us.length := by omega
    have hi2 : a.toNat < vs.length := by omega
    have hw2 : us.getD a.toNat 0 = vs.getD a.toNat 0 := by
      unfold wordF at hw; rw [if_pos ha, if_pos ha2] at hw; exact hw
    have w1 : ∀ y, wordF (us.set a.toNat y) a = y := fun y => by
      unfold wordF; rw [List.length_set, if_pos ha, set_getD _ _ _ _ hi, if_pos rfl]
    have w2 : ∀ y, wordF (vs.set a.toNat y) a = y := fun y => by
      unfold wordF; rw [List.length_set, if_pos ha2, set_getD _ _ _ _ hi2, if_pos rfl]
    unfold doF
    rw [if_pos ha, if_pos ha2, ← hw2]
    by_cases k1 : k = 1
    · rw [if_pos k1, if_pos k1]; exact ⟨rfl, hw.symm⟩
    · rw [if_neg k1, if_neg k1]
      by_cases k2 : k = 2
      · rw [if_pos k2, if_pos k2]; exact ⟨rfl, (w2 _).trans (w1 _).symm⟩
      · rw [if_neg k2, if_neg k2]
        by_cases k3 : k = 3
        · rw [if_pos k3, if_pos k3]
          by_cases he : us.getD a.toNat 0 = o
          · rw [if_pos he, if_pos he]; exact ⟨rfl, (w2 _).trans (w1 _).symm⟩
          · rw [if_neg he, if_neg he]; exact ⟨rfl, hw.symm⟩
        · rw [if_neg k3, if_neg k3]; exact ⟨rfl, hw.symm⟩
  · have ha2 : ¬ (0 ≤ a ∧ a < vs.length) := by rw [← hl]; exact ha
    unfold doF
    rw [if_neg ha, if_neg ha2]; exact ⟨rfl, hw.symm⟩
theorem one_else (us : List Nat) (k a : Int) (o x : Nat) (j : Nat) (hj : (j : Int) ≠ a) : (doF us k a o x).2.getD j 0 = us.getD j 0 := by
  have h : ∀ y, 0 ≤ a ∧ a < us.length → (us.set a.toNat y).getD j 0 = us.getD j 0 := fun y ha => by
    rw [set_getD _ _ _ _ (by omega), if_neg (by omega)]
  unfold doF
  split
  · rename_i ha
    split
    · rfl
    · split
      · exact h _ ha
      · split
        · split
          · exact h _ ha
          · rfl
        · rfl
  · rfl
theorem word_wr1 (us : List Nat) (a : Int) (v : Nat) (vs : List Nat) (hl : vs.length = us.length) (hv : v = wordF vs a) : wordF (wr1 us (a, v)) a = wordF vs a := by
  by_cases ha : 0 ≤ a ∧ a < us.length
  · unfold wr1
    simp only
    rw [if_pos ha]
    unfold wordF at hv ⊢
    rw [List.length_set, if_pos ha, set_getD _ _ _ _ (by omega), if_pos rfl]; exact hv
  · unfold wr1
    simp only
    rw [if_neg ha]
    unfold wordF
    rw [hl, if_neg ha, if_neg ha]
structure QO (w : World) (a : Int) (b i b' i' x : Nat) (W : World) : Prop where
  a1 : W.cell? ⟨w.heap.size + 1, 1, none⟩ = some (.int .i64 a)
  p : W.cell? ⟨b, i, none⟩ = some (.int .u64 (x : Nat))
  q : W.cell? ⟨b', i', none⟩ = some (.int .u64 (x : Nat))
  bl : Below w.heap.size w W
structure QA (w : World) (a : Int) (W : World) : Prop where
  a1 : W.cell? ⟨w.heap.size + 1, 1, none⟩ = some (.int .i64 a)
  bl : Below w.heap.size w W
theorem QA.next {w W W' : World} {a : Int} (h : QA w a W) (hn : Below W.heap.size W W') : QA w a W' := ⟨(hn.cell (p := ⟨w.heap.size + 1, 1, none⟩) (World.block_lt_of_cell? W _ h.a1)).trans h.a1, h.bl.trans (hn.mono h.bl.size)⟩
theorem QA.both {w W : World} {a : Int} (h : QA w a W) : W.cell? ⟨w.heap.size + 1, 1, none⟩ = some (.int .i64 a) ∧ QA w a W := ⟨h.a1, h⟩
theorem QA.of {w W : World} {a : Int} (h : W.cell? ⟨w.heap.size + 1, 1, none⟩ = some (.int .i64 a) ∧ QA w a W) : QA w a W := h.2
structure QB (w : World) (a : Int) (wr W : World) : Prop where
  a1 : W.cell? ⟨w.heap.size + 1, 1, none⟩ = some (.int .i64 a)
  bl : Below w.heap.size w W
  br : Below wr.heap.size wr W
structure QP (w : World) (a : Int) (wr : World) (b i b' i' x : Nat) (W : World) : Prop where
  a1 : W.cell? ⟨w.heap.size + 1, 1, none⟩ = some (.int .i64 a)
  bl : Below w.heap.size w W
  br : Below wr.heap.size wr W
  p : W.cell? ⟨b, i, none⟩ = some (.int .u64 (x : Nat))
  q : W.cell? ⟨b', i', none⟩ = some (.int .u64 (x : Nat))
/-- Writes of a list that may be empty, or lies elsewhere. -/
theorem mwrite_n (g gw : Nat) (s t f l p : Int) (us : List Nat) (ws : List (Int × Nat)) (hu : us.length ≤ 100000) (n : Nat) (hn : ws.length = n) (hl : n ≤ 100000) (A : Option Addr) (b off c : Nat) (W : World) (hm : MB g gw s t f l p us W) (hr : RW2 W A b off ws) (hbw : b ≠ gw ∨ ws.length = 0) :
    Calls Tryd.prog 15 #[.pointer (some ⟨g, 0, none⟩), .slice A n c] W fun e w' => (∃ v, e = .returned v) ∧ MB g gw s t f l p (wrs us ws) w' ∧ But gw W w' := by
  subst hn
  rcases hbw with h | h
  · exact mwrite_any g gw s t f l p us ws hu hl A b off c W hm hr h
  · obtain rfl : ws = [] := List.eq_nil_of_length_eq_zero h
    exact mwrite_any g gw s t f l p us [] hu hl A (gw + 1) 0 c W hm ⟨fun h => by simp at h, fun h => by simp at h, fun j h => by simp at h, fun j h => by simp at h⟩ (by omega)
end Go.Proofs.YtllkbofjegadeaaDoor
