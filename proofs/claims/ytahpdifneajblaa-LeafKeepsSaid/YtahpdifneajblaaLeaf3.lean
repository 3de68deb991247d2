/- gleaningref03.Words, gleaningref10.Same; leaf.Of. -/
import Derived.Test.YtahpdifneajblaaLeaf2
import Derived.Test.YtahpdifneajblaaRec
namespace Go.Proofs.Ytahpdifneajblaa
set_option linter.unusedVariables false
open Go.RowKit
structure W2 (B : Nat) (w0 : World) (b1 o1 b2 o2 : Nat) (x : Nat) (W : World) : Prop where
  c0 : W.cell? ⟨b1, o1, none⟩ = some (.int .u64 x)
  d0 : W.cell? ⟨b2, o2, none⟩ = some (.int .u64 x)
  bl : Below B w0 W
theorem W2.drew {B : Nat} {w0 : World} {b1 o1 b2 o2 x : Nat} {W : World} (h : W2 B w0 b1 o1 b2 o2 x W) : W2 B w0 b1 o1 b2 o2 x W.drew := ⟨h.c0, h.d0, h.bl.drew⟩
set_option maxHeartbeats 1000000 in
theorem words_any (us : List Nat) (hl : us.length ≤ 100000) (A1 A2 : Option Addr) (c1 c2 : Nat) (W : World) (h1 : RL W A1 c1 us) (h2 : RL W A2 c2 us) :
    Calls Try.prog 30 #[.slice A1 us.length c1, .slice A2 us.length c2] W fun x w' => x = .returned (.bool true) ∧ Below W.heap.size W w' := by
  have H1 := Lib.hid h1
  have H2 := Lib.hid h2
  have hmx : us.length ≤ maxLen := by unfold maxLen; omega
  have hne : ((us.length : Int) != (us.length : Int)) = false := by simp
  clear h1 h2
  go_enter Try.func30, Try.ntmps30
  go_wp2
  go_loopg [5] us.length (fun g i wr => ∃ j : Nat, j ≤ us.length ∧ g = us.length - j ∧ i = .int .i64 j ∧ Below W.heap.size W wr)
  case atStart => exact ⟨0, by omega, by omega, rfl, Below.refl _ _⟩
  case round =>
    obtain ⟨j, hj, hg, rfl, hb⟩ := hrel
    by_cases hlt : j < us.length
    · obtain ⟨b1, o1, rfl, l1, m1, k1⟩ := (H1.out.next hb).at (by omega)
      obtain ⟨b2, o2, rfl, l2, m2, k2⟩ := (H2.out.next hb).at (by omega)
      have HS := Lib.hid (show W2 W.heap.size W b1 (o1 + j) b2 (o2 + j) (us.getD j 0) wr from ⟨k1 j hlt, k2 j hlt, hb⟩)
      generalize us.getD j 0 = x at HS
      have HS1 := Lib.hid HS.out.drew
      clear k1 k2 HS hb H1 H2
      go_wp2
      refine wp_region_class (C := W2 W.heap.size W b1 (o1 + j) b2 (o2 + j) x) (by kernel_rfl) (by kernel_rfl) (HS1.out) ?_
      repeat (first
        | go_big_quiet_skip
        | (go_big_quiet_want; go_big_quiet_op; go_big_quiet_on)
        | (go_big_quiet_want; go_big_quiet_op; refine ⟨_, fun _ _ => rfl, ?_⟩; go_big_quiet_on)
        | (go_big_quiet_want
           apply quiet_mk
           · intro u hu
             have c0 := hu.c0; have d0 := hu.d0
             have HU := Lib.hid hu
             clear hu
             go_simp
             first
               | with_reducible rfl
           simp only [Act.put, List.setIfInBounds_toArray, List.set_cons_zero, List.set_cons_succ]
           go_big_quiet_on))
      refine wpQuiet_nil ?_
      intro u hu
      have HB := Lib.hid hu.bl
      clear hu HS1
      go_wp2
      go_roundg (us.length - (j + 1))
      case rel => exact ⟨j + 1, by omega, rfl, by go_num, HB.out⟩
      case measure => omega
    · obtain rfl : j = us.length := by omega
      have HB := Lib.hid hb
      clear hb
      go_wp2
      go_ret
      exact ⟨rfl, HB.out⟩
/-- Two nodes' blocks. -/
structure N2 (B : Nat) (w0 : World) (g : Nat) (x : Nd) (h : Nat) (y : Nd) (W : World) : Prop where
  a : NC g x W
  b : NC h y W
  rx : NR W x
  ry : NR W y
  bl : Below B w0 W
theorem N2.next {B : Nat} {w0 : World} {g : Nat} {x : Nd} {h : Nat} {y : Nd} {W W' : World} (k : N2 B w0 g x h y W) (hB : B ≤ W.heap.size) (hn : Below W.heap.size W W') : N2 B w0 g x h y W' := ⟨k.a.next hn, k.b.next hn, k.rx.next hn, k.ry.next hn, k.bl.trans (hn.mono hB)⟩
theorem same_any (x y : Nd) (hl1 : x.ks.length ≤ 100000) (hl2 : x.vs.length ≤ 100000) (e1 : x.inner = y.inner) (e2 : x.ks = y.ks) (e3 : x.vs = y.vs) (e4 : x.link = y.link) (W : World) (hx : NR W x) (hy : NR W y) :
    Calls Try.prog 15 #[ndV x, ndV y] W fun e w' => e = .returned (.bool true) ∧ Below W.heap.size W w' := by
  obtain ⟨inner, ks, vs, link, A1, c1, A2, c2⟩ := x
  obtain ⟨inner', ks', vs', link', B1, d1, B2, d2⟩ := y
  simp only at e1 e2 e3 e4 hl1 hl2
  subst e1; subst e2; subst e3; subst e4
  have K := Lib.hid (show N2 W.heap.size W W.heap.size ⟨inner, ks, vs, link, A1, c1, A2, c2⟩ (W.heap.size + 1) ⟨inner, ks, vs, link, B1, d1, B2, d2⟩ ((W.alloc (ndRow ⟨inner, ks, vs, link, A1, c1, A2, c2⟩)).alloc (ndRow ⟨inner, ks, vs, link, B1, d1, B2, d2⟩)) from ⟨(NC.alloc W _).next (nl1 _ _), by have := NC.alloc (W.alloc (ndRow ⟨inner, ks, vs, link, A1, c1, A2, c2⟩)) ⟨inner, ks, vs, link, B1, d1, B2, d2⟩; simpa using this, (hx.next (nl1 _ _)).next (nl1 _ _), (hy.next (nl1 _ _)).next (nl1 _ _), nl2 _ _ _⟩)
  have W1 := Lib.hid (fun W' h1 h2 => words_any ks hl1 A1 B1 c1 d1 W' h1 h2)
  have W2 := Lib.hid (fun W' h1 h2 => words_any vs hl2 A2 B2 c2 d2 W' h1 h2)
  have t1 : True := trivial
  have t2 : True := trivial
  clear hx hy hl1 hl2
  go_enter Try.func15, Try.ntmps15
  go_wp2_with (first
    | (go_at_call 30; have _t := t1; refine (W1.out _ K.out.rx.k K.out.ry.k).mono ?_; rintro e w1 ⟨rfl, hn⟩; clear t1; have K1 := Lib.hid (K.out.next (by simp; omega) hn); clear hn; have c2 := K1.out.a.c2; have c3 := K1.out.a.c3; have d2' := K1.out.b.c2; have d3 := K1.out.b.c3)
    | (go_at_call 30; have _t := t2; refine (W2.out _ K1.out.rx.v K1.out.ry.v).mono ?_; rintro e w2 ⟨rfl, hn⟩; clear t2; have K2 := Lib.hid (K1.out.next K1.out.bl.size hn); clear hn c2 c3 d2' d3; have c3 := K2.out.a.c3; have d3 := K2.out.b.c3))
  go_ret
  exact ⟨rfl, K2.out.bl⟩
/-- A node's block whose two rows are the call's own. -/
structure GM (B g : Nat) (w0 : World) (link : Nat) (ks vs : List Nat) (v1 v2 : Value) (W : World) : Prop where
  c0 : W.cell? ⟨g, 0, none⟩ = some (.bool false)
  c1 : W.cell? ⟨g, 1, none⟩ = some v1
  c2 : W.cell? ⟨g, 2, none⟩ = some v2
  c3 : W.cell? ⟨g, 3, none⟩ = some (.int .u64 (link : Nat))
  fz : ∀ i, W.frozen? ⟨g, i, none⟩ = false
  o1 : W.ownsRow B 23 1 v1 ks.length (nw ks)
  o2 : W.ownsRow B 23 1 v2 vs.length (nw vs)
  bl : Below w0.heap.size w0 W
  gB : g < B
  sz : B ≤ W.heap.size
  wg : w0.heap.size ≤ g
  ne : ∀ k, v1.ownBlock = some k → v2.ownBlock ≠ some k
section
variable {B g : Nat} {w0 : World} {link : Nat} {ks vs : List Nat} {v1 v2 : Value} {W W' : World}
theorem GM.next (h : GM B g w0 link ks vs v1 v2 W) (hn : Below W.heap.size W W') : GM B g w0 link ks vs v1 v2 W' := by
  have hs := h.sz
  have hg := h.gB
  have c : ∀ i, W'.cell? ⟨g, i, none⟩ = W.cell? ⟨g, i, none⟩ := fun i => hn.cell (p := ⟨g, i, none⟩) (by show g < W.heap.size; omega)
  exact ⟨(c _).trans h.c0, (c _).trans h.c1, (c _).trans h.c2, (c _).trans h.c3, fun i => (hn.frozen (p := ⟨g, i, none⟩) (by show g < W.heap.size; omega)).trans (h.fz i), nOwn h.o1 hn, nOwn h.o2 hn, h.bl.trans (hn.mono h.bl.size), h.gB, Nat.le_trans hs hn.size, h.wg, h.ne⟩
theorem GM.drew (h : GM B g w0 link ks vs v1 v2 W) : GM B g w0 link ks vs v1 v2 W.drew := ⟨h.c0, h.c1, h.c2, h.c3, h.fz, h.o1, h.o2, h.bl.drew, h.gB, h.sz, h.wg, h.ne⟩
theorem GM.add1 {v' : Value} (h : GM B g w0 link ks vs v1 v2 W) (x : Nat) (ho : W'.ownsRow B 23 1 v' (ks.length + 1) (nw ks ++ [.int .u64 (x : Nat)])) (hg : W.grownBy W' v1.ownBlock) (hl : v'.ownBlock = v1.ownBlock ∨ v'.ownBlock = some W.heap.size) :
    W'.cell? ⟨g, 1, none⟩ = some v1 ∧ W'.cell? ⟨g, 2, none⟩ = some v2 ∧ (∀ i, W'.frozen? ⟨g, i, none⟩ = false) ∧ GM B g w0 link (ks ++ [x]) vs v' v2 (W'.setCell ⟨g, 1, none⟩ v') := by
  have hs := h.sz
  have hgB := h.gB
  have hk : ∀ q, v1.ownBlock = some q → B ≤ q := fun q e => (h.o1.lt q e).1
  have nr : some g ≠ v1.ownBlock := fun e => by have := hk g e.symm; omega
  have c : ∀ i, W'.cell? ⟨g, i, none⟩ = W.cell? ⟨g, i, none⟩ := fun i => hg.cell_far ⟨g, i, none⟩ (by show g < W.heap.size; omega) nr
  have f : ∀ i, W'.frozen? ⟨g, i, none⟩ = false := fun i => (hg.frozen_far ⟨g, i, none⟩ (by show g < W.heap.size; omega) nr).trans (h.fz i)
  have d0 := (c 0).trans h.c0
  have d1 := (c 1).trans h.c1
  have d2 := (c 2).trans h.c2
  have d3 := (c 3).trans h.c3
  have ko : W'.ownsRow B 23 1 v2 vs.length (nw vs) := h.o2.kept hg (by
    cases hb : v2.ownBlock with
    | none => exact .inl rfl
    | some q => exact .inr (fun e => h.ne q e.symm hb))
  have on : W'.ownsRow B 23 1 v' (ks ++ [x]).length (nw (ks ++ [x])) := by simpa [nw] using ho
  have hbl : Below w0.heap.size w0 W' := h.bl.grown hg h.bl.size (fun q e => Nat.le_trans h.wg (by have := hk q e; omega))
  refine ⟨d1, d2, f, ⟨by simp [go_sem, d0], by simp [go_sem, d1], by simp [go_sem, d2], by simp [go_sem, d3], fun i => by simp [go_sem, f], ownsRow_setCell_below on (by show g < B; omega) _, ownsRow_setCell_below ko (by show g < B; omega) _, hbl.setCell (by show w0.heap.size ≤ g; exact h.wg) _, hgB, by have := hg.size; simp; omega, h.wg, ?_⟩⟩
  intro q hq hv
  rcases hl with e | e
  · exact h.ne q (e ▸ hq) hv
  · have := (h.o2.lt q hv).2
    rw [e] at hq
    have : W.heap.size = q := by simpa using hq
    omega
theorem GM.add2 {v' : Value} (h : GM B g w0 link ks vs v1 v2 W) (x : Nat) (ho : W'.ownsRow B 23 1 v' (vs.length + 1) (nw vs ++ [.int .u64 (x : Nat)])) (hg : W.grownBy W' v2.ownBlock) (hl : v'.ownBlock = v2.ownBlock ∨ v'.ownBlock = some W.heap.size) :
    W'.cell? ⟨g, 2, none⟩ = some v2 ∧ W'.cell? ⟨g, 1, none⟩ = some v1 ∧ (∀ i, W'.frozen? ⟨g, i, none⟩ = false) ∧ GM B g w0 link ks (vs ++ [x]) v1 v' (W'.setCell ⟨g, 2, none⟩ v') := by
  have hs := h.sz
  have hgB := h.gB
  have hk : ∀ q, v2.ownBlock = some q → B ≤ q := fun q e => (h.o2.lt q e).1
  have nr : some g ≠ v2.ownBlock := fun e => by have := hk g e.symm; omega
  have c : ∀ i, W'.cell? ⟨g, i, none⟩ = W.cell? ⟨g, i, none⟩ := fun i => hg.cell_far ⟨g, i, none⟩ (by show g < W.heap.size; omega) nr
  have f : ∀ i, W'.frozen? ⟨g, i, none⟩ = false := fun i => (hg.frozen_far ⟨g, i, none⟩ (by show g < W.heap.size; omega) nr).trans (h.fz i)
  have d0 := (c 0).trans h.c0
  have d1 := (c 1).trans h.c1
  have d2 := (c 2).trans h.c2
  have d3 := (c 3).trans h.c3
  have ko : W'.ownsRow B 23 1 v1 ks.length (nw ks) := h.o1.kept hg (by
    cases hb : v1.ownBlock with
    | none => exact .inl rfl
    | some q => exact .inr (fun e => h.ne q hb e.symm))
  have on : W'.ownsRow B 23 1 v' (vs ++ [x]).length (nw (vs ++ [x])) := by simpa [nw] using ho
  have hbl : Below w0.heap.size w0 W' := h.bl.grown hg h.bl.size (fun q e => Nat.le_trans h.wg (by have := hk q e; omega))
  refine ⟨d2, d1, f, ⟨by simp [go_sem, d0], by simp [go_sem, d1], by simp [go_sem, d2], by simp [go_sem, d3], fun i => by simp [go_sem, f], ownsRow_setCell_below ko (by show g < B; omega) _, ownsRow_setCell_below on (by show g < B; omega) _, hbl.setCell (by show w0.heap.size ≤ g; exact h.wg) _, hgB, by have := hg.size; simp; omega, h.wg, ?_⟩⟩
  intro q hq hv
  rcases hl with e | e
  · exact h.ne q hq (e ▸ hv)
  · have := (h.o1.lt q hq).2
    rw [e] at hv
    have : W.heap.size = q := by simpa using hv
    omega
end
theorem NC.grown {g : Nat} {x : Nd} {W W' : World} {row : Option Nat} (h : NC g x W) (hg : W.grownBy W' row) (hne : some g ≠ row) : NC g x W' := by
  have c : ∀ j, W'.cell? ⟨g, j, none⟩ = W.cell? ⟨g, j, none⟩ := fun j => hg.cell_far ⟨g, j, none⟩ h.lt hne
  exact ⟨(c _).trans h.c0, (c _).trans h.c1, (c _).trans h.c2, (c _).trans h.c3, fun i => (hg.frozen_far ⟨g, i, none⟩ h.lt hne).trans (h.fz i)⟩
theorem NC.set {g g' i : Nat} {x : Nd} {W : World} (h : NC g x W) (hne : g' ≠ g) (v : Value) : NC g x (W.setCell ⟨g', i, none⟩ v) := by
  obtain ⟨c0, c1, c2, c3, fz⟩ := h
  have hne2 : g ≠ g' := fun e => hne e.symm
  exact ⟨by simp [go_sem, c0], by simp [go_sem, c1], by simp [go_sem, c2], by simp [go_sem, c3], fun i => by simp [go_sem, fz]⟩
theorem own_sl {w : World} {B n sz : Nat} {e : TypeId} {v : Value} {xs : List Value} (h : w.ownsRow B e sz v n xs) : ∃ A m c, v = .slice A m c := by
  rcases h.2 with ⟨rfl, _⟩ | ⟨g, cap, cur, rfl, _⟩
  · exact ⟨_, _, _, rfl⟩
  · exact ⟨_, _, _, rfl⟩
theorem new_b (w : World) (a : Addr) (v : Value) (cs : Array Value) (t : TypeId) : ((w.setCell a v).alloc (.cells cs t)).heap[w.heap.size]? = some (.cells cs t) := by
  have h := heap_alloc_new (w.setCell a v) (.cells cs t)
  rw [show (w.setCell a v).heap.size = w.heap.size by simp] at h
  exact h
theorem ris_of (ks : List Nat) : ∃ r : Bool, r = true ↔ ris ks := by
  by_cases h : ris ks
  · exact ⟨true, ⟨fun _ => h, fun _ => rfl⟩⟩
  · exact ⟨false, ⟨fun e => (by cases e), fun e => absurd e h⟩⟩
theorem map_take {f : Nat × Nat → Nat} (rs : List (Nat × Nat)) (j : Nat) (hj : j < rs.length) : (rs.take (j + 1)).map f = (rs.take j).map f ++ [f (rs.getD j (0, 0))] := by
  have e : rs.getD j (0, 0) = rs[j] := by simp [List.getD, hj]
  rw [e, List.take_succ_eq_append_getElem hj, List.map_append]; rfl
set_option maxHeartbeats 2000000 in
theorem of_any (link : Nat) (rs : List (Nat × Nat)) (hl : rs.length ≤ 1000) (ks0 vs0 : List Nat) (hks : rs.map Prod.fst = ks0) (hvs : rs.map Prod.snd = vs0) (r : Bool) (hr : r = true ↔ ris ks0) (A : Option Addr) (b off cap : Nat) (W : World) (h1 : RdR W A b off rs) :
    Calls Try.prog 25 #[.int .u64 (link : Nat), .slice A rs.length cap] W fun e w' => ∃ y : Nd, e = .returned (ndV y) ∧ NR w' y ∧ Below W.heap.size W w' ∧ y.inner = false ∧ (r = true → y.ks = ks0 ∧ y.vs = vs0 ∧ y.link = link) ∧ (r = false → y.ks = [] ∧ y.vs = [] ∧ y.link = 0) := by
  have H1 := Lib.hid h1
  have HRR := Lib.hid hr
  have HKS := Lib.hid hks
  have HVS := Lib.hid hvs
  obtain ⟨i0, hi, hz0, hz1, hz2⟩ := info_parts infoW
  have HI := Lib.hid (And.intro hi (And.intro hz0 (And.intro hz1 hz2)))
  have H0 := Lib.hid (show GM (W.heap.size + 2) (W.heap.size + 1) W link [] [] (.slice none 0 0) (.slice none 0 0) ((W.alloc (ndRow Nd.zero)).alloc (.cells #[.bool false, .slice none 0 0, .slice none 0 0, .int .u64 (link : Nat)] 25)) from ⟨by simp, by simp, by simp, by simp, fun i => by simp, World.ownsRow_nil _ _ _ _, World.ownsRow_nil _ _ _ _, nl2 _ _ _, by omega, by simp, by omega, fun k e => by simp [Value.ownBlock] at e⟩)
  have Z0 := Lib.hid (show NC W.heap.size Nd.zero ((W.alloc (ndRow Nd.zero)).alloc (.cells #[.bool false, .slice none 0 0, .slice none 0 0, .int .u64 (link : Nat)] 25)) from (NC.alloc W Nd.zero).next (nl1 _ _))
  clear h1 hi hz0 hz1 hz2 hr hks hvs
  generalize hn : rs.length = n at hl ⊢
  have HN := Lib.hid hn
  clear hn
  go_enter Try.func25, Try.ntmps25
  go_wp2
  go_loopg [12] n (fun g i wr => ∃ (j : Nat) (v1 v2 : Value), j ≤ n ∧ g = n - j ∧ i = .int .i64 j ∧ GM (W.heap.size + 2) (W.heap.size + 1) W link ((rs.take j).map Prod.fst) ((rs.take j).map Prod.snd) v1 v2 wr ∧ NC W.heap.size Nd.zero wr)
  case atStart => exact ⟨0, _, _, by omega, by omega, rfl, H0.out, Z0.out⟩
  case round =>
    clear H0 Z0
    obtain ⟨j, v1, v2, hj, hg, rfl, hr, hz⟩ := hrel
    by_cases hlt : j < n
    · have hjl : j < rs.length := by rw [HN.out]; exact hlt
      obtain rfl := H1.out.a (by omega)
      have k1 := H1.out.next hr.bl
      have p0 := k1.c0 j hjl
      have p1 := k1.c1 j hjl
      have T1 := Lib.hid (map_take (f := Prod.fst) rs j hjl)
      have T2 := Lib.hid (map_take (f := Prod.snd) rs j hjl)
      have F1 := Lib.hid (show ((rs.take j).map Prod.fst).length ≤ 1000 by simp; omega)
      have F2 := Lib.hid (show ((rs.take j).map Prod.snd).length ≤ 1000 by simp; omega)
      generalize rs.getD j (0, 0) = r1 at p0 p1 T1 T2
      obtain ⟨x, y⟩ := r1
      generalize (rs.take j).map Prod.fst = ks at hr T1 F1
      generalize (rs.take j).map Prod.snd = vs at hr T2 F2
      obtain ⟨B1, m1, d1, rfl⟩ := own_sl hr.o1
      obtain ⟨B2, m2, d2, rfl⟩ := own_sl hr.o2
      have sz := hr.sz
      have e0 : W.heap.size + 1 < wr.heap.size := by omega
      have e1 : wr.heap.size ≠ W.heap.size + 1 := by omega
      have e2 : W.heap.size + 1 ≠ wr.heap.size := by omega
      have c1 := hr.c1
      have c2 := hr.c2
      have HG := Lib.hid ((hr.next (nl1 wr (.cells #[.int .u64 (x : Nat), .int .u64 (y : Nat)] 46))).next (nl1 _ (.cells #[.int .u64 (x : Nat)] 23)))
      have HZ := Lib.hid ((hz.next (nl1 wr (.cells #[.int .u64 (x : Nat), .int .u64 (y : Nat)] 46))).next (nl1 _ (.cells #[.int .u64 (x : Nat)] 23)))
      have hq1 : ((wr.alloc (.cells #[.int .u64 (x : Nat), .int .u64 (y : Nat)] 46)).alloc (.cells #[.int .u64 (x : Nat)] 23)).cell? ⟨wr.heap.size, 1, none⟩ = some (.int .u64 (y : Nat)) := ((nl1 (wr.alloc (.cells #[.int .u64 (x : Nat), .int .u64 (y : Nat)] 46)) _).cell (p := ⟨wr.heap.size, 1, none⟩) (by simp)).trans (by simp)
      have hfar : some wr.heap.size ≠ (Value.slice B1 m1 d1).ownBlock := fun e => by have := (hr.o1.lt _ e.symm).2; omega
      have HQ1 := Lib.hid hq1
      have HF := Lib.hid hfar
      have HW1 : RowKit.Hid (((wr.alloc (.cells #[.int .u64 (x : Nat), .int .u64 (y : Nat)] 46)).alloc (.cells #[.int .u64 (x : Nat)] 23)).heap[wr.heap.size + 1]? = some (.cells #[.int .u64 (x : Nat)] 23)) := Lib.hid (by
        have h := heap_alloc_new (wr.alloc (.cells #[.int .u64 (x : Nat), .int .u64 (y : Nat)] 46)) (.cells #[.int .u64 (x : Nat)] 23)
        rw [show (wr.alloc (.cells #[.int .u64 (x : Nat), .int .u64 (y : Nat)] 46)).heap.size = wr.heap.size + 1 by simp] at h
        exact h)
      have t1 : True := trivial
      have t2 : True := trivial
      clear hr hz k1 hjl hq1 hfar
      go_wp2_with (first
        | (at_builtin; have _t := t1; refine wpList_append_own_at _ rfl _ _ 22 rfl (W.heap.size + 2) 23 i0 (.int .u64 0) 1 8 sliceW HI.out.1 HI.out.2.1 HI.out.2.2.1 HI.out.2.2.2 rfl (by decide) _ _ _ rfl HG.out.o1 ⟨wr.heap.size + 1, 0, none⟩ 1 1 [.int .u64 (x : Nat)] rfl rfl (World.news_of_block HW1.out) (by simp [Value.oneCell']) (by have := F1.out; unfold maxLen; omega) (by have := F1.out; omega) HG.out.sz ?_; intro v3 w1 hown hgrow hnil hloc; clear t1; obtain ⟨A3, m3, n3, rfl⟩ := own_sl hown; have hG := GM.add1 HG.out x hown hgrow hloc; obtain ⟨c1', c2', fz', hG1⟩ := hG; have HG1 := Lib.hid (hG1.next (nl1 _ (.cells #[.int .u64 (y : Nat)] 23))); have q1 := (hgrow.cell_far ⟨wr.heap.size, 1, none⟩ (by simp; omega) HF.out).trans HQ1.out; have HZ1 := Lib.hid (((HZ.out.grown hgrow (fun e => by have := (HG.out.o1.lt _ e.symm).1; omega)).set (g' := W.heap.size + 1) (i := 1) (by omega) (.slice A3 m3 n3)).next (nl1 _ (.cells #[.int .u64 (y : Nat)] 23))); clear hG1 hown hgrow hnil hloc c1 c2 p0 p1)
        | (at_builtin; have _t := t2; refine wpList_append_own_at _ rfl _ _ 22 rfl (W.heap.size + 2) 23 i0 (.int .u64 0) 1 8 sliceW HI.out.1 HI.out.2.1 HI.out.2.2.1 HI.out.2.2.2 rfl (by decide) _ _ _ rfl HG1.out.o2 ⟨w1.heap.size, 0, none⟩ 1 1 [.int .u64 (y : Nat)] rfl rfl (World.news_of_block (new_b w1 _ _ _ _)) (by simp [Value.oneCell']) (by have := F2.out; unfold maxLen; omega) (by have := F2.out; omega) HG1.out.sz ?_; intro v4 w2 hown hgrow hnil hloc; clear t2; obtain ⟨A4, m4, n4, rfl⟩ := own_sl hown; have hG := GM.add2 HG1.out y hown hgrow hloc; clear c1' c2' fz' q1; obtain ⟨c2', c1', fz', hG2⟩ := hG; have HG2 := Lib.hid hG2; have HZ2 := Lib.hid ((HZ1.out.grown hgrow (fun e => by have := (HG1.out.o2.lt _ e.symm).1; omega)).set (g' := W.heap.size + 1) (i := 2) (by omega) (.slice A4 m4 n4)); clear hG2 hown hgrow hnil hloc))
      go_roundg (n - (j + 1))
      case rel => exact ⟨j + 1, _, _, by omega, rfl, by go_num, by rw [T1.out, T2.out]; exact HG2.out, HZ2.out⟩
      case measure => omega
    · obtain rfl : j = n := by omega
      rw [← HN.out, List.take_length, HKS.out, HVS.out] at hr
      obtain ⟨B1, d1, rfl, Q1⟩ := RL.of_own hr.o1
      obtain ⟨B2, d2, rfl, Q2⟩ := RL.of_own hr.o2
      have c0 := hr.c0
      have c1 := hr.c1
      have c2 := hr.c2
      have c3 := hr.c3
      have HR := Lib.hid hr
      have HZ := Lib.hid hz
      have RT := Lib.hid (right_any ⟨false, ks0, vs0, link, B1, d1, B2, d2⟩ (by have := HN.out; show ks0.length ≤ _; rw [← HKS.out]; simp; omega) r (by rw [HRR.out]; exact ⟨fun h => ⟨rfl, by show ks0.length = vs0.length; rw [← HKS.out, ← HVS.out]; simp, h⟩, fun h => h.2.2⟩) wr ⟨Q1, Q2⟩)
      clear hr hz Q1 Q2 HRR
      cases r with
      | true =>
        go_wp2_with (go_at_call 14; refine RT.out.mono ?_; rintro e w1 ⟨rfl, hn⟩; have H2 := HR.out.next hn; have Z2 := HZ.out.next hn; clear hn c0 c1 c2 c3; have c0 := H2.c0; have c1 := H2.c1; have c2 := H2.c2; have c3 := H2.c3; have z0 := Z2.c0; have z1 := Z2.c1; have z2 := Z2.c2; have z3 := Z2.c3; have fz := Z2.fz; have O1 := Lib.hid H2.o1; have O2 := Lib.hid H2.o2; have BL := Lib.hid H2.bl; clear H2 Z2)
        exact bodyPost_ret (v := ndV ⟨false, ks0, vs0, link, B1, d1, B2, d2⟩) (by simp [results, Try.results25, go_sem, z0, z1, z2, z3]) rfl ⟨⟨false, ks0, vs0, link, B1, d1, B2, d2⟩, rfl, ⟨RL.of_own' (set4Own O1.out (by omega)), RL.of_own' (set4Own O2.out (by omega))⟩, below_put4 BL.out (by omega) _ _ _ _, by simp⟩
      | false =>
        go_wp2_with (go_at_call 14; refine RT.out.mono ?_; rintro e w1 ⟨rfl, hn⟩; have H2 := HR.out.next hn; have Z2 := HZ.out.next hn; clear hn c0 c1 c2 c3; have z0 := Z2.c0; have z1 := Z2.c1; have z2 := Z2.c2; have z3 := Z2.c3; have fz := Z2.fz; have BL := Lib.hid H2.bl; clear H2 Z2)
        exact bodyPost_ret (v := ndV Nd.zero) (by simp [results, Try.results25, go_sem, z0, z1, z2, z3]) rfl ⟨Nd.zero, rfl, NR.zero _, below_put4 BL.out (by omega) _ _ _ _, by simp⟩
end Go.Proofs.Ytahpdifneajblaa
