/- What the law LeafSplits holds. -/
import Derived.Test.YtahpdifneajblaaLeaf8
namespace Go.Proofs.Ytahpdifneajblaa
set_option linter.unusedVariables false
open Go.RowKit
/-- A node's box. -/
structure L0 (w0 : World) (x : Nd) (W : World) : Prop where
  n : NC w0.heap.size x W
  r : NR W x
  bl : Below w0.heap.size w0 W
theorem L0.next {w0 : World} {x : Nd} {W W' : World} (h : L0 w0 x W) (hn : Below W.heap.size W W') : L0 w0 x W' := ⟨h.n.next hn, h.r.next hn, h.bl.trans (hn.mono h.bl.size)⟩
theorem L0.start (w : World) (x : Nd) (h : NR w x) : L0 w x (w.alloc (ndRow x)) := ⟨NC.alloc w x, h.next (nl1 _ _), nl1 _ _⟩
/-- Three nodes' boxes, a key's cell. -/
structure LS (w0 : World) (x : Nd) (g : Nat) (y z : Nd) (b o kv : Nat) (W : World) : Prop extends L0 w0 x W where
  cy : NC g y W
  cz : NC (g + 1) z W
  kc : W.cell? ⟨b, o, none⟩ = some (.int .u64 (kv : Nat))
  ry : NR W y
  rz : NR W z
section
variable {w0 : World} {x : Nd} {g : Nat} {y z : Nd} {b o kv : Nat} {W W' : World}
theorem LS.next (h : LS w0 x g y z b o kv W) (hn : Below W.heap.size W W') : LS w0 x g y z b o kv W' :=
  ⟨h.toL0.next hn, h.cy.next hn, h.cz.next hn, (hn.cell (p := ⟨b, o, none⟩) (World.block_lt_of_cell? W _ h.kc)).trans h.kc, h.ry.next hn, h.rz.next hn⟩
theorem LS.all (h : LS w0 x g y z b o kv W) : W.cell? ⟨w0.heap.size, 0, none⟩ = some (.bool x.inner) ∧ W.cell? ⟨w0.heap.size, 1, none⟩ = some (.slice x.A1 x.ks.length x.c1) ∧ W.cell? ⟨w0.heap.size, 2, none⟩ = some (.slice x.A2 x.vs.length x.c2) ∧ W.cell? ⟨w0.heap.size, 3, none⟩ = some (.int .u64 (x.link : Nat)) ∧ W.cell? ⟨g, 0, none⟩ = some (.bool y.inner) ∧ W.cell? ⟨g, 1, none⟩ = some (.slice y.A1 y.ks.length y.c1) ∧ W.cell? ⟨g, 2, none⟩ = some (.slice y.A2 y.vs.length y.c2) ∧ W.cell? ⟨g, 3, none⟩ = some (.int .u64 (y.link : Nat)) ∧ W.cell? ⟨g + 1, 0, none⟩ = some (.bool z.inner) ∧ W.cell? ⟨g + 1, 1, none⟩ = some (.slice z.A1 z.ks.length z.c1) ∧ W.cell? ⟨g + 1, 2, none⟩ = some (.slice z.A2 z.vs.length z.c2) ∧ W.cell? ⟨g + 1, 3, none⟩ = some (.int .u64 (z.link : Nat)) ∧ W.cell? ⟨b, o, none⟩ = some (.int .u64 (kv : Nat)) ∧ LS w0 x g y z b o kv W :=
  ⟨h.n.c0, h.n.c1, h.n.c2, h.n.c3, h.cy.c0, h.cy.c1, h.cy.c2, h.cy.c3, h.cz.c0, h.cz.c1, h.cz.c2, h.cz.c3, h.kc, h⟩
theorem LS.of (h : W.cell? ⟨w0.heap.size, 0, none⟩ = some (.bool x.inner) ∧ W.cell? ⟨w0.heap.size, 1, none⟩ = some (.slice x.A1 x.ks.length x.c1) ∧ W.cell? ⟨w0.heap.size, 2, none⟩ = some (.slice x.A2 x.vs.length x.c2) ∧ W.cell? ⟨w0.heap.size, 3, none⟩ = some (.int .u64 (x.link : Nat)) ∧ W.cell? ⟨g, 0, none⟩ = some (.bool y.inner) ∧ W.cell? ⟨g, 1, none⟩ = some (.slice y.A1 y.ks.length y.c1) ∧ W.cell? ⟨g, 2, none⟩ = some (.slice y.A2 y.vs.length y.c2) ∧ W.cell? ⟨g, 3, none⟩ = some (.int .u64 (y.link : Nat)) ∧ W.cell? ⟨g + 1, 0, none⟩ = some (.bool z.inner) ∧ W.cell? ⟨g + 1, 1, none⟩ = some (.slice z.A1 z.ks.length z.c1) ∧ W.cell? ⟨g + 1, 2, none⟩ = some (.slice z.A2 z.vs.length z.c2) ∧ W.cell? ⟨g + 1, 3, none⟩ = some (.int .u64 (z.link : Nat)) ∧ W.cell? ⟨b, o, none⟩ = some (.int .u64 (kv : Nat)) ∧ LS w0 x g y z b o kv W) : LS w0 x g y z b o kv W := h.2.2.2.2.2.2.2.2.2.2.2.2.2
theorem LS.start {W : World} (h : L0 w0 x W) (kc : W.cell? ⟨b, o, none⟩ = some (.int .u64 (kv : Nat))) (hy : NR W y) (hz : NR W z) : LS w0 x W.heap.size y z b o kv ((W.alloc (ndRow y)).alloc (ndRow z)) :=
  ⟨h.next (nl2 _ _ _), (NC.alloc W y).next (nl1 _ _), by have := NC.alloc (W.alloc (ndRow y)) z; simpa only [World.size_alloc] using this, ((nl2 W _ _).cell (p := ⟨b, o, none⟩) (World.block_lt_of_cell? W _ kc)).trans kc, hy.next (nl2 _ _ _), hz.next (nl2 _ _ _)⟩
end
/-- The same, without a key. -/
structure LZ (w0 : World) (x : Nd) (g : Nat) (W : World) : Prop extends L0 w0 x W where
  cy : NC g Nd.zero W
  cz : NC (g + 1) Nd.zero W
theorem LZ.next {w0 : World} {x : Nd} {g : Nat} {W W' : World} (h : LZ w0 x g W) (hn : Below W.heap.size W W') : LZ w0 x g W' := ⟨h.toL0.next hn, h.cy.next hn, h.cz.next hn⟩
theorem LZ.start {w0 : World} {x : Nd} {W : World} (h : L0 w0 x W) : LZ w0 x W.heap.size ((W.alloc (ndRow Nd.zero)).alloc (ndRow Nd.zero)) :=
  ⟨h.next (nl2 _ _ _), (NC.alloc W Nd.zero).next (nl1 _ _), by have := NC.alloc (W.alloc (ndRow Nd.zero)) Nd.zero; simpa only [World.size_alloc] using this⟩
theorem LZ.start2 {w0 : World} {x : Nd} {W : World} (h : L0 w0 x W) : LZ w0 x W.heap.size ((W.alloc (.cells #[.bool false, .slice none 0 0, .slice none 0 0, .int .u64 0] 25)).alloc (.cells #[.bool false, .slice none 0 0, .slice none 0 0, .int .u64 0] 25)) := LZ.start h
theorem ris_left {a b : List Nat} (h : ris (a ++ b)) : ris a := by
  intro i hi
  have := h i (by simp; omega)
  simp only [List.getD] at this ⊢
  rw [List.getElem?_append_left (by omega), List.getElem?_append_left (by omega)] at this
  exact this
theorem ris_right {a b : List Nat} (h : ris (a ++ b)) : ris b := by
  intro i hi
  have := h (a.length + i) (by simp; omega)
  simp only [List.getD] at this ⊢
  rw [List.getElem?_append_right (by omega), List.getElem?_append_right (by omega)] at this
  simpa [Nat.add_assoc] using this
theorem cut_join (us : List Nat) (m n : Nat) (hm : m ≤ us.length) (hn : us.length = n) : cutL us 0 m ++ cutL us m n = us := by
  subst hn
  show (us.drop 0).take (m - 0) ++ (us.drop m).take (us.length - m) = us
  rw [List.drop_zero, Nat.sub_zero, List.take_of_length_le (l := us.drop m) (by simp), List.take_append_drop]
theorem fol_parts (x y z : Nd) (m : Nat) (hx : rightP x) (hm : m ≤ x.ks.length) (y0 : y.inner = false) (z0 : z.inner = false) (yk : y.ks = cutL x.ks 0 m) (yv : y.vs = cutL x.vs 0 m) (zk : z.ks = cutL x.ks m x.ks.length) (zv : z.vs = cutL x.vs m x.ks.length) :
    folP y z ∧ y.ks ++ z.ks = x.ks ∧ y.vs ++ z.vs = x.vs := by
  have e1 : y.ks ++ z.ks = x.ks := by rw [yk, zk]; exact cut_join _ _ _ hm rfl
  have e2 : y.vs ++ z.vs = x.vs := by rw [yv, zv]; exact cut_join _ _ _ (by rw [← hx.2.1]; exact hm) hx.2.1.symm
  have hr : ris (y.ks ++ z.ks) := by rw [e1]; exact hx.2.2
  have hl := hx.2.1
  refine ⟨⟨⟨y0, ?_, ris_left hr⟩, ⟨z0, ?_, ris_right hr⟩, hr⟩, e1, e2⟩
  · rw [yk, yv, cutL_len _ _ _ hm, cutL_len _ _ _ (by omega)]
  · rw [zk, zv, cutL_len _ _ _ (Nat.le_refl _), cutL_len _ _ _ (by omega)]
theorem rcut0 (x : Nd) (t : Nat) (h1 : t ≤ x.ks.length) (h2 : t ≤ x.vs.length) (hl : x.ks.length ≤ 1000) (W : World) (hx : NR W x) :
    Calls Try.prog 20 #[ndV x, .int .i64 0, .int .i64 t, .int .u64 0] W fun e w' => ∃ y : Nd, e = .returned (ndV y) ∧ y.inner = false ∧ y.link = 0 ∧ y.ks = cutL x.ks 0 t ∧ y.vs = cutL x.vs 0 t ∧ ON W.heap.size y w' ∧ Below W.heap.size W w' := rcut_any x 0 t 0 (by omega) h1 h2 hl W hx
end Go.Proofs.Ytahpdifneajblaa
