/- StackValues: chains of what two automata become; four blocks. -/
import Derived.Test.YtfejkcbdbkpnfaaDoorPush2
namespace Go.Proofs.YtfejkcbdbkpnfaaDoor
set_option linter.unusedVariables false
open Go.RowKit Go.Extern.Stop Go.Stop Go.Extern
theorem pchain {s t f l p : Int} {x0 : Po} {y0 : Rp} (h0 : RelP s t f l p 0 x0 y0) (ns : Nat → Nat) : ∀ (N : Nat), N ≤ 60 → (∀ j, j < N → ns j < 18446744073709551616) →
    ∃ (xs : Nat → Po) (y : Rp), xs 0 = x0 ∧ RelP s t f l p N (xs N) y ∧ ∀ j, j < N → ∀ W : World, Calls Tryd.prog 18 #[popV (xs j), .int .u64 (ns j)] W fun e w' => e = .returned (popV (xs (j + 1))) ∧ Below W.heap.size W w' := by
  intro N
  induction N with
  | zero => intro _ _; exact ⟨fun _ => x0, y0, rfl, h0, fun j hj => absurd hj (by omega)⟩
  | succ N ih =>
    intro hN hn
    obtain ⟨xs, y, e0, hr, hs⟩ := ih (by omega) (fun j hj => hn j (by omega))
    obtain ⟨x', y', hr', hT, _⟩ := prel_took hr (by omega) (ns N) (hn N (by omega))
    refine ⟨fun k => if k ≤ N then xs k else x', y', by simpa using e0, by show RelP s t f l p (N + 1) (if N + 1 ≤ N then xs (N + 1) else x') y'; rw [if_neg (by omega)]; exact hr', fun j hj W => ?_⟩
    by_cases hjN : j < N
    · have := hs j hjN W
      have e1 : (if j ≤ N then xs j else x') = xs j := if_pos (by omega)
      have e2 : (if j + 1 ≤ N then xs (j + 1) else x') = xs (j + 1) := if_pos (by omega)
      simp only [e1, e2]; exact this
    · obtain rfl : j = N := by omega
      have := hT W
      have e1 : (if j ≤ j then xs j else x') = xs j := if_pos (by omega)
      have e2 : (if j + 1 ≤ j then xs (j + 1) else x') = x' := if_neg (by omega)
      simp only [e1, e2]; exact this
theorem schain {s t f l p : Int} {x0 : Su} {y0 : Rs} (h0 : RelS s t f l p 0 x0 y0) (ns : Nat → Nat) : ∀ (N : Nat), N ≤ 60 → (∀ j, j < N → ns j < 18446744073709551616) →
    ∃ (xs : Nat → Su) (y : Rs), xs 0 = x0 ∧ RelS s t f l p N (xs N) y ∧ ∀ j, j < N → ∀ W : World, Calls Tryd.prog 26 #[suV (xs j), .int .u64 (ns j)] W fun e w' => e = .returned (suV (xs (j + 1))) ∧ Below W.heap.size W w' := by
  intro N
  induction N with
  | zero => intro _ _; exact ⟨fun _ => x0, y0, rfl, h0, fun j hj => absurd hj (by omega)⟩
  | succ N ih =>
    intro hN hn
    obtain ⟨xs, y, e0, hr, hs⟩ := ih (by omega) (fun j hj => hn j (by omega))
    obtain ⟨x', y', hr', hT, _⟩ := srel_took hr (by omega) (ns N) (hn N (by omega))
    refine ⟨fun k => if k ≤ N then xs k else x', y', by simpa using e0, by show RelS s t f l p (N + 1) (if N + 1 ≤ N then xs (N + 1) else x') y'; rw [if_neg (by omega)]; exact hr', fun j hj W => ?_⟩
    by_cases hjN : j < N
    · have := hs j hjN W
      have e1 : (if j ≤ N then xs j else x') = xs j := if_pos (by omega)
      have e2 : (if j + 1 ≤ N then xs (j + 1) else x') = xs (j + 1) := if_pos (by omega)
      simp only [e1, e2]; exact this
    · obtain rfl : j = N := by omega
      have := hT W
      have e1 : (if j ≤ j then xs j else x') = xs j := if_pos (by omega)
      have e2 : (if j + 1 ≤ j then xs (j + 1) else x') = x' := if_neg (by omega)
      simp only [e1, e2]; exact this
theorem PC.keep_putP2 {g g' : Nat} {y : Po} {W : World} (h : PC g' y W) (hne : g ≠ g') (x : Po) : PC g' y (putP W g x) := by
  obtain ⟨c0, c1, c2, c3, c4, c5, c6, c7, c8, c9, fz⟩ := h
  have hne2 : g' ≠ g := fun e => hne e.symm
  exact ⟨by unfold putP; simp [go_sem, c0], by unfold putP; simp [go_sem, c1], by unfold putP; simp [go_sem, c2], by unfold putP; simp [go_sem, c3], by unfold putP; simp [go_sem, c4], by unfold putP; simp [go_sem, c5], by unfold putP; simp [go_sem, c6], by unfold putP; simp [go_sem, c7], by unfold putP; simp [go_sem, c8], by unfold putP; simp [go_sem, c9], fun i => by unfold putP; simp [go_sem, fz]⟩
theorem PC.keep_putS2 {g g' : Nat} {y : Po} {W : World} (h : PC g' y W) (hne : g ≠ g') (x : Su) : PC g' y (putS W g x) := by
  obtain ⟨c0, c1, c2, c3, c4, c5, c6, c7, c8, c9, fz⟩ := h
  have hne2 : g' ≠ g := fun e => hne e.symm
  exact ⟨by unfold putS; simp [go_sem, c0], by unfold putS; simp [go_sem, c1], by unfold putS; simp [go_sem, c2], by unfold putS; simp [go_sem, c3], by unfold putS; simp [go_sem, c4], by unfold putS; simp [go_sem, c5], by unfold putS; simp [go_sem, c6], by unfold putS; simp [go_sem, c7], by unfold putS; simp [go_sem, c8], by unfold putS; simp [go_sem, c9], fun i => by unfold putS; simp [go_sem, fz]⟩
theorem SC.keep_putS2 {g g' : Nat} {y : Su} {W : World} (h : SC g' y W) (hne : g ≠ g') (x : Su) : SC g' y (putS W g x) := by
  obtain ⟨c0, c1, c2, c3, c4, c5, c6, c7, c8, fz⟩ := h
  have hne2 : g' ≠ g := fun e => hne e.symm
  exact ⟨by unfold putS; simp [go_sem, c0], by unfold putS; simp [go_sem, c1], by unfold putS; simp [go_sem, c2], by unfold putS; simp [go_sem, c3], by unfold putS; simp [go_sem, c4], by unfold putS; simp [go_sem, c5], by unfold putS; simp [go_sem, c6], by unfold putS; simp [go_sem, c7], by unfold putS; simp [go_sem, c8], fun i => by unfold putS; simp [go_sem, fz]⟩
theorem SC.keep_putP2 {g g' : Nat} {y : Su} {W : World} (h : SC g' y W) (hne : g ≠ g') (x : Po) : SC g' y (putP W g x) := by
  obtain ⟨c0, c1, c2, c3, c4, c5, c6, c7, c8, fz⟩ := h
  have hne2 : g' ≠ g := fun e => hne e.symm
  exact ⟨by unfold putP; simp [go_sem, c0], by unfold putP; simp [go_sem, c1], by unfold putP; simp [go_sem, c2], by unfold putP; simp [go_sem, c3], by unfold putP; simp [go_sem, c4], by unfold putP; simp [go_sem, c5], by unfold putP; simp [go_sem, c6], by unfold putP; simp [go_sem, c7], by unfold putP; simp [go_sem, c8], fun i => by unfold putP; simp [go_sem, fz]⟩
structure KQ (w : World) (g1 : Nat) (x1 : Po) (g2 : Nat) (y1 : Su) (g3 : Nat) (x2 : Po) (g4 : Nat) (y2 : Su) (W : World) : Prop where
  a : PC g1 x1 W
  b : SC g2 y1 W
  c : PC g3 x2 W
  d : SC g4 y2 W
  bl : Below w.heap.size w W
  l1 : w.heap.size ≤ g1
  l2 : w.heap.size ≤ g2
  l3 : w.heap.size ≤ g3
  l4 : w.heap.size ≤ g4
  n12 : g1 ≠ g2
  n13 : g1 ≠ g3
  n14 : g1 ≠ g4
  n23 : g2 ≠ g3
  n24 : g2 ≠ g4
  n34 : g3 ≠ g4
section
variable {w : World} {g1 : Nat} {x1 : Po} {g2 : Nat} {y1 : Su} {g3 : Nat} {x2 : Po} {g4 : Nat} {y2 : Su} {W W' : World}
theorem KQ.next (h : KQ w g1 x1 g2 y1 g3 x2 g4 y2 W) (hn : Below W.heap.size W W') : KQ w g1 x1 g2 y1 g3 x2 g4 y2 W' := ⟨h.a.next hn, h.b.next hn, h.c.next hn, h.d.next hn, h.bl.trans (hn.mono h.bl.size), h.l1, h.l2, h.l3, h.l4, h.n12, h.n13, h.n14, h.n23, h.n24, h.n34⟩
theorem KQ.drew (h : KQ w g1 x1 g2 y1 g3 x2 g4 y2 W) : KQ w g1 x1 g2 y1 g3 x2 g4 y2 W.drew := ⟨h.a.drew, h.b.drew, h.c.drew, h.d.drew, h.bl.drew, h.l1, h.l2, h.l3, h.l4, h.n12, h.n13, h.n14, h.n23, h.n24, h.n34⟩
theorem KQ.store1 (h : KQ w g1 x1 g2 y1 g3 x2 g4 y2 W) (z : Po) : KQ w g1 z g2 y1 g3 x2 g4 y2 (putP W g1 z) := ⟨h.a.store z, h.b.keep_putP2 h.n12 z, h.c.keep_putP2 h.n13 z, h.d.keep_putP2 h.n14 z, below_putP h.bl h.l1 z, h.l1, h.l2, h.l3, h.l4, h.n12, h.n13, h.n14, h.n23, h.n24, h.n34⟩
theorem KQ.store2 (h : KQ w g1 x1 g2 y1 g3 x2 g4 y2 W) (z : Su) : KQ w g1 x1 g2 z g3 x2 g4 y2 (putS W g2 z) := ⟨h.a.keep_putS2 (fun e => h.n12 e.symm) z, h.b.store z, h.c.keep_putS2 h.n23 z, h.d.keep_putS2 h.n24 z, below_putS h.bl h.l2 z, h.l1, h.l2, h.l3, h.l4, h.n12, h.n13, h.n14, h.n23, h.n24, h.n34⟩
theorem KQ.store3 (h : KQ w g1 x1 g2 y1 g3 x2 g4 y2 W) (z : Po) : KQ w g1 x1 g2 y1 g3 z g4 y2 (putP W g3 z) := ⟨h.a.keep_putP2 (fun e => h.n13 e.symm) z, h.b.keep_putP2 (fun e => h.n23 e.symm) z, h.c.store z, h.d.keep_putP2 h.n34 z, below_putP h.bl h.l3 z, h.l1, h.l2, h.l3, h.l4, h.n12, h.n13, h.n14, h.n23, h.n24, h.n34⟩
theorem KQ.store4 (h : KQ w g1 x1 g2 y1 g3 x2 g4 y2 W) (z : Su) : KQ w g1 x1 g2 y1 g3 x2 g4 z (putS W g4 z) := ⟨h.a.keep_putS2 (fun e => h.n14 e.symm) z, h.b.keep_putS2 (fun e => h.n24 e.symm) z, h.c.keep_putS2 (fun e => h.n34 e.symm) z, h.d.store z, below_putS h.bl h.l4 z, h.l1, h.l2, h.l3, h.l4, h.n12, h.n13, h.n14, h.n23, h.n24, h.n34⟩
theorem KQ.start (g1 : Nat) (x1 : Po) (y1 : Su) (u : World) (h1 : PC g1 x1 u) (hb : Below w.heap.size w u) (hl : w.heap.size ≤ g1) :
    KQ w g1 x1 u.heap.size y1 (u.heap.size + 1) x1 (u.heap.size + 2) y1 (((u.alloc (suRow y1)).alloc (popRow x1)).alloc (suRow y1)) := by
  have hlt := h1.lt
  have hs := hb.size
  have b2 := SC.alloc u y1
  have b3 := PC.alloc (u.alloc (suRow y1)) x1
  have b4 := SC.alloc ((u.alloc (suRow y1)).alloc (popRow x1)) y1
  have e3 : (u.alloc (suRow y1)).heap.size = u.heap.size + 1 := by simp
  have e4 : ((u.alloc (suRow y1)).alloc (popRow x1)).heap.size = u.heap.size + 2 := by simp
  rw [e3] at b3
  rw [e4] at b4
  exact ⟨((h1.next (below1 _ _)).next (below1 _ _)).next (below1 _ _), (b2.next (below1 _ _)).next (below1 _ _), b3.next (below1 _ _), b4, ((hb.alloc hs _).alloc (by simp; omega) _).alloc (by simp; omega) _, hl, by omega, by omega, by omega, by omega, by omega, by omega, by omega, by omega, by omega⟩
structure KQX (w : World) (g1 : Nat) (x1 : Po) (g2 : Nat) (y1 : Su) (g3 : Nat) (x2 : Po) (g4 : Nat) (y2 : Su) (ad : Addr) (v : Value) (W : World) : Prop extends KQ w g1 x1 g2 y1 g3 x2 g4 y2 W where
  xc : W.cell? ad = some v
  xb : ad.block < w.heap.size
theorem KQX.next {ad : Addr} {v : Value} (h : KQX w g1 x1 g2 y1 g3 x2 g4 y2 ad v W) (hn : Below W.heap.size W W') : KQX w g1 x1 g2 y1 g3 x2 g4 y2 ad v W' :=
  ⟨h.toKQ.next hn, (hn.cell (Nat.lt_of_lt_of_le h.xb h.bl.size)).trans h.xc, h.xb⟩
theorem KQX.mk' {ad : Addr} {v : Value} (h : KQ w g1 x1 g2 y1 g3 x2 g4 y2 W) (hb : ad.block < w.heap.size) (hx : w.cell? ad = some v) : KQX w g1 x1 g2 y1 g3 x2 g4 y2 ad v W.drew :=
  ⟨h.drew, (h.bl.drew.cell hb).trans hx, hb⟩
structure KQZ (w : World) (g1 : Nat) (x1 : Po) (g2 : Nat) (y1 : Su) (g3 g4 g5 g6 : Nat) (W : World) : Prop extends KQ w g1 x1 g2 y1 g3 x1 g4 y1 W where
  n : PC g5 (Po.end 0 0) W
  v : SC g6 (Su.end 0) W
theorem KQZ.next {g5 g6 : Nat} (h : KQZ w g1 x1 g2 y1 g3 g4 g5 g6 W) (hn : Below W.heap.size W W') : KQZ w g1 x1 g2 y1 g3 g4 g5 g6 W' := ⟨h.toKQ.next hn, h.n.next hn, h.v.next hn⟩
theorem KQZ.start (h : KQ w g1 x1 g2 y1 g3 x1 g4 y1 W) : KQZ w g1 x1 g2 y1 g3 g4 W.heap.size (W.heap.size + 1) ((W.alloc (popRow (Po.end 0 0))).alloc (suRow (Su.end 0))) := by
  have n := PC.alloc W (Po.end 0 0)
  have v := SC.alloc (W.alloc (popRow (Po.end 0 0))) (Su.end 0)
  have hz : (W.alloc (popRow (Po.end 0 0))).heap.size = W.heap.size + 1 := by simp
  rw [hz] at v
  exact ⟨(h.next (below1 _ _)).next (below1 _ _), n.next (below1 _ _), v⟩
theorem KQ.a0 (h : KQ w g1 x1 g2 y1 g3 x2 g4 y2 W) : W.cell? ⟨g1, 0, none⟩ = some (.int .i64 x1.s) := h.a.c0
theorem KQ.a1 (h : KQ w g1 x1 g2 y1 g3 x2 g4 y2 W) : W.cell? ⟨g1, 1, none⟩ = some (.int .i64 x1.t) := h.a.c1
theorem KQ.a2 (h : KQ w g1 x1 g2 y1 g3 x2 g4 y2 W) : W.cell? ⟨g1, 2, none⟩ = some (.int .i64 x1.f) := h.a.c2
theorem KQ.a3 (h : KQ w g1 x1 g2 y1 g3 x2 g4 y2 W) : W.cell? ⟨g1, 3, none⟩ = some (.int .i64 x1.l) := h.a.c3
theorem KQ.a4 (h : KQ w g1 x1 g2 y1 g3 x2 g4 y2 W) : W.cell? ⟨g1, 4, none⟩ = some (.int .i64 x1.p) := h.a.c4
theorem KQ.a5 (h : KQ w g1 x1 g2 y1 g3 x2 g4 y2 W) : W.cell? ⟨g1, 5, none⟩ = some (.int .i64 x1.st) := h.a.c5
theorem KQ.a6 (h : KQ w g1 x1 g2 y1 g3 x2 g4 y2 W) : W.cell? ⟨g1, 6, none⟩ = some (.int .u64 x1.hd) := h.a.c6
theorem KQ.a7 (h : KQ w g1 x1 g2 y1 g3 x2 g4 y2 W) : W.cell? ⟨g1, 7, none⟩ = some (.int .u64 x1.lk) := h.a.c7
theorem KQ.a8 (h : KQ w g1 x1 g2 y1 g3 x2 g4 y2 W) : W.cell? ⟨g1, 8, none⟩ = some (.int .i64 x1.sl) := h.a.c8
theorem KQ.a9 (h : KQ w g1 x1 g2 y1 g3 x2 g4 y2 W) : W.cell? ⟨g1, 9, none⟩ = some (.int .i64 x1.tr) := h.a.c9
theorem KQ.b0 (h : KQ w g1 x1 g2 y1 g3 x2 g4 y2 W) : W.cell? ⟨g2, 0, none⟩ = some (.int .i64 y1.s) := h.b.c0
theorem KQ.b1 (h : KQ w g1 x1 g2 y1 g3 x2 g4 y2 W) : W.cell? ⟨g2, 1, none⟩ = some (.int .i64 y1.t) := h.b.c1
theorem KQ.b2 (h : KQ w g1 x1 g2 y1 g3 x2 g4 y2 W) : W.cell? ⟨g2, 2, none⟩ = some (.int .i64 y1.f) := h.b.c2
theorem KQ.b3 (h : KQ w g1 x1 g2 y1 g3 x2 g4 y2 W) : W.cell? ⟨g2, 3, none⟩ = some (.int .i64 y1.l) := h.b.c3
theorem KQ.b4 (h : KQ w g1 x1 g2 y1 g3 x2 g4 y2 W) : W.cell? ⟨g2, 4, none⟩ = some (.int .i64 y1.p) := h.b.c4
theorem KQ.b5 (h : KQ w g1 x1 g2 y1 g3 x2 g4 y2 W) : W.cell? ⟨g2, 5, none⟩ = some (.int .i64 y1.st) := h.b.c5
theorem KQ.b6 (h : KQ w g1 x1 g2 y1 g3 x2 g4 y2 W) : W.cell? ⟨g2, 6, none⟩ = some (.int .u64 y1.hd) := h.b.c6
theorem KQ.b7 (h : KQ w g1 x1 g2 y1 g3 x2 g4 y2 W) : W.cell? ⟨g2, 7, none⟩ = some (.int .i64 y1.sl) := h.b.c7
theorem KQ.b8 (h : KQ w g1 x1 g2 y1 g3 x2 g4 y2 W) : W.cell? ⟨g2, 8, none⟩ = some (.int .i64 y1.tr) := h.b.c8
theorem KQ.c0 (h : KQ w g1 x1 g2 y1 g3 x2 g4 y2 W) : W.cell? ⟨g3, 0, none⟩ = some (.int .i64 x2.s) := h.c.c0
theorem KQ.c1 (h : KQ w g1 x1 g2 y1 g3 x2 g4 y2 W) : W.cell? ⟨g3, 1, none⟩ = some (.int .i64 x2.t) := h.c.c1
theorem KQ.c2 (h : KQ w g1 x1 g2 y1 g3 x2 g4 y2 W) : W.cell? ⟨g3, 2, none⟩ = some (.int .i64 x2.f) := h.c.c2
theorem KQ.c3 (h : KQ w g1 x1 g2 y1 g3 x2 g4 y2 W) : W.cell? ⟨g3, 3, none⟩ = some (.int .i64 x2.l) := h.c.c3
theorem KQ.c4 (h : KQ w g1 x1 g2 y1 g3 x2 g4 y2 W) : W.cell? ⟨g3, 4, none⟩ = some (.int .i64 x2.p) := h.c.c4
theorem KQ.c5 (h : KQ w g1 x1 g2 y1 g3 x2 g4 y2 W) : W.cell? ⟨g3, 5, none⟩ = some (.int .i64 x2.st) := h.c.c5
theorem KQ.c6 (h : KQ w g1 x1 g2 y1 g3 x2 g4 y2 W) : W.cell? ⟨g3, 6, none⟩ = some (.int .u64 x2.hd) := h.c.c6
theorem KQ.c7 (h : KQ w g1 x1 g2 y1 g3 x2 g4 y2 W) : W.cell? ⟨g3, 7, none⟩ = some (.int .u64 x2.lk) := h.c.c7
theorem KQ.c8 (h : KQ w g1 x1 g2 y1 g3 x2 g4 y2 W) : W.cell? ⟨g3, 8, none⟩ = some (.int .i64 x2.sl) := h.c.c8
theorem KQ.c9 (h : KQ w g1 x1 g2 y1 g3 x2 g4 y2 W) : W.cell? ⟨g3, 9, none⟩ = some (.int .i64 x2.tr) := h.c.c9
theorem KQ.d0 (h : KQ w g1 x1 g2 y1 g3 x2 g4 y2 W) : W.cell? ⟨g4, 0, none⟩ = some (.int .i64 y2.s) := h.d.c0
theorem KQ.d1 (h : KQ w g1 x1 g2 y1 g3 x2 g4 y2 W) : W.cell? ⟨g4, 1, none⟩ = some (.int .i64 y2.t) := h.d.c1
theorem KQ.d2 (h : KQ w g1 x1 g2 y1 g3 x2 g4 y2 W) : W.cell? ⟨g4, 2, none⟩ = some (.int .i64 y2.f) := h.d.c2
theorem KQ.d3 (h : KQ w g1 x1 g2 y1 g3 x2 g4 y2 W) : W.cell? ⟨g4, 3, none⟩ = some (.int .i64 y2.l) := h.d.c3
theorem KQ.d4 (h : KQ w g1 x1 g2 y1 g3 x2 g4 y2 W) : W.cell? ⟨g4, 4, none⟩ = some (.int .i64 y2.p) := h.d.c4
theorem KQ.d5 (h : KQ w g1 x1 g2 y1 g3 x2 g4 y2 W) : W.cell? ⟨g4, 5, none⟩ = some (.int .i64 y2.st) := h.d.c5
theorem KQ.d6 (h : KQ w g1 x1 g2 y1 g3 x2 g4 y2 W) : W.cell? ⟨g4, 6, none⟩ = some (.int .u64 y2.hd) := h.d.c6
theorem KQ.d7 (h : KQ w g1 x1 g2 y1 g3 x2 g4 y2 W) : W.cell? ⟨g4, 7, none⟩ = some (.int .i64 y2.sl) := h.d.c7
theorem KQ.d8 (h : KQ w g1 x1 g2 y1 g3 x2 g4 y2 W) : W.cell? ⟨g4, 8, none⟩ = some (.int .i64 y2.tr) := h.d.c8
end
end Go.Proofs.YtfejkcbdbkpnfaaDoor
