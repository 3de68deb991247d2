/- leaf.glued; gleaningref03.Words, gleaningref10.Same. -/
import Derived.Test.YtahpdifneajblaaLeaf1
namespace Go.Proofs.Ytahpdifneajblaa
set_option linter.unusedVariables false
open Go.RowKit
/-- Nodes that lie in a block, one behind the other. -/
def NB (W : World) (h : Nat) (xs : List Nd) : Prop := ∀ j, j < xs.length → W.cell? ⟨h, j * 4, none⟩ = some (.bool (xs.getD j Nd.zero).inner) ∧ W.cell? ⟨h, j * 4 + 1, none⟩ = some (.slice (xs.getD j Nd.zero).A1 (xs.getD j Nd.zero).ks.length (xs.getD j Nd.zero).c1) ∧
  W.cell? ⟨h, j * 4 + 2, none⟩ = some (.slice (xs.getD j Nd.zero).A2 (xs.getD j Nd.zero).vs.length (xs.getD j Nd.zero).c2) ∧ W.cell? ⟨h, j * 4 + 3, none⟩ = some (.int .u64 ((xs.getD j Nd.zero).link : Nat)) ∧ NR W (xs.getD j Nd.zero)
theorem NB.next {W W' : World} {h : Nat} {xs : List Nd} (k : NB W h xs) (hb : Below W.heap.size W W') : NB W' h xs := by
  intro j hj
  obtain ⟨c0, c1, c2, c3, hr⟩ := k j hj
  have hl : h < W.heap.size := World.block_lt_of_cell? W _ c0
  exact ⟨(hb.cell (p := ⟨h, j * 4, none⟩) hl).trans c0, (hb.cell (p := ⟨h, j * 4 + 1, none⟩) hl).trans c1, (hb.cell (p := ⟨h, j * 4 + 2, none⟩) hl).trans c2, (hb.cell (p := ⟨h, j * 4 + 3, none⟩) hl).trans c3, hr.next hb⟩
theorem NB.one (W : World) (x : Nd) (hx : NR W x) : NB (W.alloc (ndRow x)) W.heap.size [x] := by
  intro j hj
  obtain rfl : j = 0 := by simpa using hj
  exact ⟨by simp, by simp, by simp, by simp, hx.next (nl1 _ _)⟩
abbrev ndCells (x : Nd) : List Value := [.bool x.inner, .slice x.A1 x.ks.length x.c1, .slice x.A2 x.vs.length x.c2, .int .u64 (x.link : Nat)]
/-- The node that is built, the result that waits. -/
structure GN (w0 : World) (link : Nat) (ks vs : List Nat) (v1 v2 : Value) (W : World) : Prop where
  c0 : W.cell? ⟨w0.heap.size + 1, 0, none⟩ = some (.bool false)
  c1 : W.cell? ⟨w0.heap.size + 1, 1, none⟩ = some v1
  c2 : W.cell? ⟨w0.heap.size + 1, 2, none⟩ = some v2
  c3 : W.cell? ⟨w0.heap.size + 1, 3, none⟩ = some (.int .u64 (link : Nat))
  fz : ∀ i, W.frozen? ⟨w0.heap.size + 1, i, none⟩ = false
  z : NC w0.heap.size Nd.zero W
  o1 : W.ownsRow (w0.heap.size + 2) 23 1 v1 ks.length (nw ks)
  o2 : W.ownsRow (w0.heap.size + 2) 23 1 v2 vs.length (nw vs)
  bl : Below w0.heap.size w0 W
  sz : w0.heap.size + 2 ≤ W.heap.size
section
variable {w0 : World} {link : Nat} {ks vs : List Nat} {v1 v2 : Value} {W W' : World}
theorem GN.start (w : World) (link : Nat) : GN w link [] [] (.slice none 0 0) (.slice none 0 0) ((w.alloc (ndRow Nd.zero)).alloc (.cells #[.bool false, .slice none 0 0, .slice none 0 0, .int .u64 (link : Nat)] 25)) :=
  ⟨by simp, by simp, by simp, by simp, fun i => by simp, (NC.alloc w Nd.zero).next (nl1 _ _), World.ownsRow_nil _ _ _ _, World.ownsRow_nil _ _ _ _, nl2 _ _ _, by simp⟩
theorem GN.next (h : GN w0 link ks vs v1 v2 W) (hn : Below W.heap.size W W') : GN w0 link ks vs v1 v2 W' := by
  have hs := h.sz
  have c : ∀ i, W'.cell? ⟨w0.heap.size + 1, i, none⟩ = W.cell? ⟨w0.heap.size + 1, i, none⟩ := fun i => hn.cell (p := ⟨w0.heap.size + 1, i, none⟩) (by show w0.heap.size + 1 < W.heap.size; omega)
  exact ⟨(c _).trans h.c0, (c _).trans h.c1, (c _).trans h.c2, (c _).trans h.c3, fun i => (hn.frozen (p := ⟨w0.heap.size + 1, i, none⟩) (by show w0.heap.size + 1 < W.heap.size; omega)).trans (h.fz i), h.z.next hn, nOwn h.o1 hn, nOwn h.o2 hn, h.bl.trans (hn.mono (by omega)), Nat.le_trans hs hn.size⟩
theorem GN.set1 (h : GN w0 link ks vs v1 v2 W) {v : Value} {us : List Nat} (ho : W.ownsRow (w0.heap.size + 2) 23 1 v us.length (nw us)) : GN w0 link us vs v v2 (W.setCell ⟨w0.heap.size + 1, 1, none⟩ v) := by
  obtain ⟨c0, c1, c2, c3, fz, ⟨z0, z1, z2, z3, zf⟩, o1, o2, bl, sz⟩ := h
  exact ⟨by simp [go_sem, c0], by simp [go_sem, c1], by simp [go_sem, c2], by simp [go_sem, c3], fun i => by simp [go_sem, fz], ⟨by simp [go_sem, z0], by simp [go_sem, z1], by simp [go_sem, z2], by simp [go_sem, z3], fun i => by simp [go_sem, zf]⟩, ownsRow_setCell_below ho (by show w0.heap.size + 1 < _; omega) _, ownsRow_setCell_below o2 (by show w0.heap.size + 1 < _; omega) _, bl.setCell (by simp) _, by simpa using sz⟩
theorem GN.set2 (h : GN w0 link ks vs v1 v2 W) {v : Value} {us : List Nat} (ho : W.ownsRow (w0.heap.size + 2) 23 1 v us.length (nw us)) : GN w0 link ks us v1 v (W.setCell ⟨w0.heap.size + 1, 2, none⟩ v) := by
  obtain ⟨c0, c1, c2, c3, fz, ⟨z0, z1, z2, z3, zf⟩, o1, o2, bl, sz⟩ := h
  exact ⟨by simp [go_sem, c0], by simp [go_sem, c1], by simp [go_sem, c2], by simp [go_sem, c3], fun i => by simp [go_sem, fz], ⟨by simp [go_sem, z0], by simp [go_sem, z1], by simp [go_sem, z2], by simp [go_sem, z3], fun i => by simp [go_sem, zf]⟩, ownsRow_setCell_below o1 (by show w0.heap.size + 1 < _; omega) _, ownsRow_setCell_below ho (by show w0.heap.size + 1 < _; omega) _, bl.setCell (by simp) _, by simpa using sz⟩
end
theorem RL.of_own' {W : World} {B : Nat} {T : TypeId} {A : Option Addr} {c : Nat} {us : List Nat} (h : W.ownsRow B T 1 (.slice A us.length c) us.length (nw us)) : RL W A c us := by
  obtain ⟨A', c', e, hR⟩ := RL.of_own h
  injection e with e1 e2 e3
  subst e1; subst e3; exact hR
theorem new_0 (w : World) (a : Addr) (v x y : Value) (t : TypeId) : ((w.setCell a v).alloc (.cells #[x, y] t)).cell? ⟨w.heap.size, 0, none⟩ = some x := by
  have h := heap_alloc_new (w.setCell a v) (.cells #[x, y] t)
  rw [show (w.setCell a v).heap.size = w.heap.size by simp] at h
  rw [cell_of_row _ _ 0 _ _ _ h]; rfl
theorem new_1 (w : World) (a : Addr) (v x y : Value) (t : TypeId) : ((w.setCell a v).alloc (.cells #[x, y] t)).cell? ⟨w.heap.size, 1, none⟩ = some y := by
  have h := heap_alloc_new (w.setCell a v) (.cells #[x, y] t)
  rw [show (w.setCell a v).heap.size = w.heap.size by simp] at h
  rw [cell_of_row _ _ 1 _ _ _ h]; rfl
theorem set4Own {w : World} {B n : Nat} {e : TypeId} {v : Value} {xs : List Value} (h : w.ownsRow B e 1 v n xs) {g : Nat} (hg : g < B) {a b c d : Value} : ((((w.setCell ⟨g, 0, none⟩ a).setCell ⟨g, 1, none⟩ b).setCell ⟨g, 2, none⟩ c).setCell ⟨g, 3, none⟩ d).ownsRow B e 1 v n xs :=
  ownsRow_setCell_below (ownsRow_setCell_below (ownsRow_setCell_below (ownsRow_setCell_below h (a := ⟨g, 0, none⟩) hg _) (a := ⟨g, 1, none⟩) hg _) (a := ⟨g, 2, none⟩) hg _) (a := ⟨g, 3, none⟩) hg _
/-- A node whose rows are the call's own. -/
structure ON (B : Nat) (y : Nd) (W : World) : Prop where
  k : W.ownsRow B 23 1 (.slice y.A1 y.ks.length y.c1) y.ks.length (nw y.ks)
  v : W.ownsRow B 23 1 (.slice y.A2 y.vs.length y.c2) y.vs.length (nw y.vs)
theorem ON.nr {B : Nat} {y : Nd} {W : World} (h : ON B y W) : NR W y := ⟨RL.of_own' h.k, RL.of_own' h.v⟩
theorem ON.next {B : Nat} {y : Nd} {W W' : World} (h : ON B y W) (hn : Below W.heap.size W W') : ON B y W' := ⟨nOwn h.k hn, nOwn h.v hn⟩
theorem ON.le {B B' : Nat} {y : Nd} {W : World} (h : ON B y W) (hb : B' ≤ B) : ON B' y W := ⟨nLe h.k hb, nLe h.v hb⟩
theorem ON.put {B g : Nat} {y : Nd} {W : World} (h : ON B y W) (hg : g < B) (a b c d : Value) : ON B y ((((W.setCell ⟨g, 0, none⟩ a).setCell ⟨g, 1, none⟩ b).setCell ⟨g, 2, none⟩ c).setCell ⟨g, 3, none⟩ d) := ⟨set4Own h.k hg, set4Own h.v hg⟩
theorem flat_snoc (f : Nd → List Nat) (xs : List Nd) (j : Nat) (hj : j < xs.length) : (xs.take (j + 1)).flatMap f = (xs.take j).flatMap f ++ f (xs.getD j Nd.zero) := by
  have e : xs.getD j Nd.zero = xs[j] := by simp [List.getD, hj]
  rw [e, List.take_succ_eq_append_getElem hj, List.flatMap_append]; simp
theorem flat_le (f : Nd → List Nat) (xs : List Nd) (j : Nat) (hj : j < xs.length) : ((xs.take j).flatMap f).length + (f (xs.getD j Nd.zero)).length ≤ (xs.flatMap f).length := by
  have h := flat_snoc f xs j hj
  have h2 : xs.flatMap f = (xs.take (j + 1)).flatMap f ++ (xs.drop (j + 1)).flatMap f := by rw [← List.flatMap_append, List.take_append_drop]
  rw [h2, h]; simp only [List.length_append]; omega
set_option maxHeartbeats 2000000 in
theorem glued_any (link : Nat) (xs : List Nd) (h c : Nat) (hxs : xs.length ≤ 1000) (l1 : (xs.flatMap Nd.ks).length ≤ 10000) (l2 : (xs.flatMap Nd.vs).length ≤ 10000) (W : World) (hx : NB W h xs) :
    Calls Try.prog 27 #[.int .u64 (link : Nat), .slice (some ⟨h, 0, none⟩) xs.length c] W fun e w' => ∃ y : Nd, e = .returned (ndV y) ∧ y.inner = false ∧ y.link = link ∧ y.ks = xs.flatMap Nd.ks ∧ y.vs = xs.flatMap Nd.vs ∧ ON W.heap.size y w' ∧ Below W.heap.size W w' := by
  have HX := Lib.hid hx
  have H0 := Lib.hid (GN.start W link)
  clear hx
  generalize hn : xs.length = n at hxs ⊢
  have HN := Lib.hid hn
  clear hn
  go_enter Try.func27, Try.ntmps27
  go_wp2
  go_loopg [12] n (fun g i wr => ∃ (j : Nat) (v1 v2 : Value), j ≤ n ∧ g = n - j ∧ i = .int .i64 j ∧ GN W link ((xs.take j).flatMap Nd.ks) ((xs.take j).flatMap Nd.vs) v1 v2 wr)
  case atStart => exact ⟨0, _, _, by omega, by omega, rfl, H0.out⟩
  case round =>
    clear H0
    obtain ⟨j, v1, v2, hj, hg, rfl, hr⟩ := hrel
    by_cases hlt : j < n
    · have hjl : j < xs.length := by rw [HN.out]; exact hlt
      obtain ⟨p0, p1, p2, p3, hR⟩ := HX.out.next hr.bl j hjl
      have HRW := Lib.hid (HX.out j hjl).2.2.2.2
      have K1 := Lib.hid (flat_snoc Nd.ks xs j hjl)
      have K2 := Lib.hid (flat_snoc Nd.vs xs j hjl)
      have L1 := Lib.hid (Nat.le_trans (flat_le Nd.ks xs j hjl) l1)
      have L2 := Lib.hid (Nat.le_trans (flat_le Nd.vs xs j hjl) l2)
      generalize hy : xs.getD j Nd.zero = x at p0 p1 p2 p3 hR HRW K1 K2 L1 L2
      clear hy hjl
      obtain ⟨B1, d1, rfl, Q1⟩ := RL.of_own hr.o1
      obtain ⟨B2, d2, rfl, Q2⟩ := RL.of_own hr.o2
      generalize (xs.take j).flatMap Nd.ks = ks at hr K1 L1 Q1
      generalize (xs.take j).flatMap Nd.vs = vs at hr K2 L2 Q2
      have sz := hr.sz
      have e0 : W.heap.size + 1 < wr.heap.size := by omega
      have e1 : wr.heap.size ≠ W.heap.size + 1 := by omega
      have e2 : W.heap.size + 1 ≠ wr.heap.size := by omega
      have J1 := Lib.hid (joined_any ks x.ks B1 x.A1 d1 x.c1 (wr.heap.size + 1) ((wr.alloc (ndRow x)).alloc (.cells #[.slice B1 ks.length d1, .slice x.A1 x.ks.length x.c1] 22)) (by have := L1.out; omega) (by simp) (by simp) ((Q1.next (nl1 _ _)).next (nl1 _ _)) ((hR.k.next (nl1 _ _)).next (nl1 _ _)))
      have J2 := Lib.hid (fun (h : Nat) (W : World) (d0 : W.cell? ⟨h, 0, none⟩ = some (.slice B2 vs.length d2)) (d1 : W.cell? ⟨h, 1, none⟩ = some (.slice x.A2 x.vs.length x.c2)) (R1 : RL W B2 d2 vs) (R2 : RL W x.A2 x.c2 x.vs) => joined_any vs x.vs B2 x.A2 d2 x.c2 h W (by have := L2.out; omega) d0 d1 R1 R2)
      have c0 := hr.c0
      have c1 := hr.c1
      have HG := Lib.hid ((hr.next (nl1 wr (ndRow x))).next (nl1 _ (.cells #[.slice B1 ks.length d1, .slice x.A1 x.ks.length x.c1] 22)))
      have HA := Lib.hid ((NC.alloc wr x).next (nl1 _ (.cells #[.slice B1 ks.length d1, .slice x.A1 x.ks.length x.c1] 22)))
      have SZ := Lib.hid sz
      have t1 : True := trivial
      have t2 : True := trivial
      clear hr hR Q1 Q2 HX l1 l2 L1 L2
      go_wp2_with (first
        | (go_at_call 36; have _t := t1; refine J1.out.mono ?_; rintro e w1 ⟨v3, rfl, own, hb⟩; clear t1; generalize hus : ks ++ x.ks = us3 at own; have HU3 := Lib.hid hus; clear hus; obtain ⟨B3, d3, rfl, Q3⟩ := RL.of_own own; have G1 := Lib.hid (HG.out.next hb); have O1 := Lib.hid (nLe own (by have := SZ.out; simp; omega : W.heap.size + 2 ≤ _)); have A1 := HA.out.next hb; have q2 := A1.c2; have c2 := G1.out.c2; have fz := G1.out.fz; have HG2 := Lib.hid (GN.set1 G1.out O1.out); have SZ2 := Lib.hid G1.out.sz; clear own hb Q3 A1 c0 c1 O1 p0 p1 p2 p3; have c1 := G1.out.c1; clear G1)
        | (go_at_call 36; have _t := t2; refine (J2.out w1.heap.size _ (new_0 w1 _ _ _ _ _) (new_1 w1 _ _ _ _ _) ((RL.of_own' HG2.out.o2).next (nl1 _ _)) ((HRW.out.v.next HG2.out.bl).next (nl1 _ _))).mono ?_; rintro e w3 ⟨v4, rfl, own, hb⟩; clear t2; generalize hus : vs ++ x.vs = us4 at own; have HU4 := Lib.hid hus; clear hus; obtain ⟨B4, d4, rfl, Q4⟩ := RL.of_own own; have G3 := Lib.hid ((HG2.out.next (nl1 _ _)).next hb); have O3 := Lib.hid (nLe own (by have := SZ2.out; simp; omega : W.heap.size + 2 ≤ _)); have fz := G3.out.fz; have HG4 := Lib.hid (GN.set2 G3.out O3.out); clear own hb Q4 O3 q2 c2 c1 HG2; have c2 := G3.out.c2))
      go_roundg (n - (j + 1))
      case rel => exact ⟨j + 1, _, _, by omega, rfl, by go_num, by rw [K1.out, K2.out, HU3.out, HU4.out]; exact HG4.out⟩
      case measure => omega
    · obtain rfl : j = n := by omega
      rw [← HN.out, List.take_length] at hr
      obtain ⟨B1, d1, rfl, Q1⟩ := RL.of_own hr.o1
      obtain ⟨B2, d2, rfl, Q2⟩ := RL.of_own hr.o2
      have c0 := hr.c0
      have c1 := hr.c1
      have c2 := hr.c2
      have c3 := hr.c3
      have z0 := hr.z.c0
      have z1 := hr.z.c1
      have z2 := hr.z.c2
      have z3 := hr.z.c3
      have fz := hr.z.fz
      have HR := Lib.hid hr
      have R1 := Lib.hid Q1
      have R2 := Lib.hid Q2
      clear hr Q1 Q2
      go_wp2
      have hbl := HR.out.bl
      have o1 := HR.out.o1
      have o2 := HR.out.o2
      exact bodyPost_ret (v := ndV ⟨false, xs.flatMap Nd.ks, xs.flatMap Nd.vs, link, B1, d1, B2, d2⟩) (by simp [results, Try.results27, go_sem, z0, z1, z2, z3]) rfl ⟨⟨false, xs.flatMap Nd.ks, xs.flatMap Nd.vs, link, B1, d1, B2, d2⟩, rfl, rfl, rfl, rfl, rfl, ⟨nLe (set4Own o1 (by omega)) (by omega), nLe (set4Own o2 (by omega)) (by omega)⟩, below_put4 hbl (by omega) _ _ _ _⟩
end Go.Proofs.Ytahpdifneajblaa
