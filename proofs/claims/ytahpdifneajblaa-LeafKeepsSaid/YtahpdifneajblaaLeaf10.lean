/- gleaningref12.Join. -/
import Derived.Test.YtahpdifneajblaaLeaf9
namespace Go.Proofs.Ytahpdifneajblaa
set_option linter.unusedVariables false
open Go.RowKit
attribute [local go_sem ↓] Go.wp_at_zero Go.wp_at_succ
theorem ownsSet {w : World} {base : Nat} {e : TypeId} {size : Nat} {v : Value} {n : Nat} {xs : List Value} (h : w.ownsRow base e size v n xs) {a : Addr} (ha : v.ownBlock ≠ some a.block) (u : Value) : (w.setCell a u).ownsRow base e size v n xs := by
  obtain ⟨h1, h2⟩ := h
  refine ⟨h1, ?_⟩
  rcases h2 with h2 | ⟨g, cap, cur, hv, hg, hh, r⟩
  · exact Or.inl h2
  · exact Or.inr ⟨g, cap, cur, hv, hg, by rw [Below.heap_setCell _ _ _ _ (by intro e2; apply ha; rw [hv, ← e2]; rfl)]; exact hh, r⟩
/-- A node's block whose two rows are the call's own, older than the block or younger. -/
structure GJ (B g : Nat) (w0 : World) (link : Nat) (ks vs : List Nat) (v1 v2 : Value) (W : World) : Prop where
  c0 : W.cell? ⟨g, 0, none⟩ = some (.bool false)
  c1 : W.cell? ⟨g, 1, none⟩ = some v1
  c2 : W.cell? ⟨g, 2, none⟩ = some v2
  c3 : W.cell? ⟨g, 3, none⟩ = some (.int .u64 (link : Nat))
  fz : ∀ i, W.frozen? ⟨g, i, none⟩ = false
  o1 : W.ownsRow B 23 1 v1 ks.length (nw ks)
  o2 : W.ownsRow B 23 1 v2 vs.length (nw vs)
  bl : Below w0.heap.size w0 W
  gl : g < W.heap.size
  sz : B ≤ W.heap.size
  wg : w0.heap.size ≤ g
  wb : w0.heap.size ≤ B
  n1 : v1.ownBlock ≠ some g
  n2 : v2.ownBlock ≠ some g
  ne : ∀ k, v1.ownBlock = some k → v2.ownBlock ≠ some k
section
variable {B g : Nat} {w0 : World} {link : Nat} {ks vs : List Nat} {v1 v2 : Value} {W W' : World}
theorem GJ.next (h : GJ B g w0 link ks vs v1 v2 W) (hn : Below W.heap.size W W') : GJ B g w0 link ks vs v1 v2 W' := by
  have c : ∀ i, W'.cell? ⟨g, i, none⟩ = W.cell? ⟨g, i, none⟩ := fun i => hn.cell (p := ⟨g, i, none⟩) h.gl
  exact ⟨(c _).trans h.c0, (c _).trans h.c1, (c _).trans h.c2, (c _).trans h.c3, fun i => (hn.frozen (p := ⟨g, i, none⟩) h.gl).trans (h.fz i), nOwn h.o1 hn, nOwn h.o2 hn, h.bl.trans (hn.mono h.bl.size), Nat.lt_of_lt_of_le h.gl hn.size, Nat.le_trans h.sz hn.size, h.wg, h.wb, h.n1, h.n2, h.ne⟩
theorem GJ.drew (h : GJ B g w0 link ks vs v1 v2 W) : GJ B g w0 link ks vs v1 v2 W.drew := ⟨h.c0, h.c1, h.c2, h.c3, h.fz, h.o1, h.o2, h.bl.drew, h.gl, h.sz, h.wg, h.wb, h.n1, h.n2, h.ne⟩
theorem GJ.add1 {v' : Value} (h : GJ B g w0 link ks vs v1 v2 W) (x : Nat) (ho : W'.ownsRow B 23 1 v' (ks.length + 1) (nw ks ++ [.int .u64 (x : Nat)])) (hg : W.grownBy W' v1.ownBlock) (hl : v'.ownBlock = v1.ownBlock ∨ v'.ownBlock = some W.heap.size) :
    W'.cell? ⟨g, 1, none⟩ = some v1 ∧ W'.cell? ⟨g, 2, none⟩ = some v2 ∧ (∀ i, W'.frozen? ⟨g, i, none⟩ = false) ∧ GJ B g w0 link (ks ++ [x]) vs v' v2 (W'.setCell ⟨g, 1, none⟩ v') := by
  have hs := h.sz
  have hgl := h.gl
  have nr : some g ≠ v1.ownBlock := fun e => h.n1 e.symm
  have c : ∀ i, W'.cell? ⟨g, i, none⟩ = W.cell? ⟨g, i, none⟩ := fun i => hg.cell_far ⟨g, i, none⟩ hgl nr
  have fz : ∀ i, W'.frozen? ⟨g, i, none⟩ = false := fun i => (hg.frozen_far ⟨g, i, none⟩ hgl nr).trans (h.fz i)
  have d0 := (c 0).trans h.c0
  have d1 := (c 1).trans h.c1
  have d2 := (c 2).trans h.c2
  have d3 := (c 3).trans h.c3
  have ko : W'.ownsRow B 23 1 v2 vs.length (nw vs) := h.o2.kept hg (by
    cases hb : v2.ownBlock with
    | none => exact .inl rfl
    | some q => exact .inr (fun e => h.ne q e.symm hb))
  have on : W'.ownsRow B 23 1 v' (ks ++ [x]).length (nw (ks ++ [x])) := by simpa [nw] using ho
  have nn : v'.ownBlock ≠ some g := by
    rcases hl with e | e
    · rw [e]; exact h.n1
    · rw [e]; intro e2; injection e2 with e3; omega
  have hbl : Below w0.heap.size w0 W' := h.bl.grown hg h.bl.size (fun q e => Nat.le_trans h.wb (h.o1.lt q e).1)
  refine ⟨d1, d2, fz, ⟨by simp [go_sem, d0], by simp [go_sem, d1], by simp [go_sem, d2], by simp [go_sem, d3], fun i => by simp [go_sem, fz], ownsSet on nn _, ownsSet ko h.n2 _, hbl.setCell (by show w0.heap.size ≤ g; exact h.wg) _, by have := hg.size; simp; omega, by have := hg.size; simp; omega, h.wg, h.wb, nn, h.n2, ?_⟩⟩
  intro q hq hv
  rcases hl with e | e
  · exact h.ne q (e ▸ hq) hv
  · have := (h.o2.lt q hv).2
    rw [e] at hq
    have : W.heap.size = q := by simpa using hq
    omega
theorem GJ.add2 {v' : Value} (h : GJ B g w0 link ks vs v1 v2 W) (x : Nat) (ho : W'.ownsRow B 23 1 v' (vs.length + 1) (nw vs ++ [.int .u64 (x : Nat)])) (hg : W.grownBy W' v2.ownBlock) (hl : v'.ownBlock = v2.ownBlock ∨ v'.ownBlock = some W.heap.size) :
    W'.cell? ⟨g, 2, none⟩ = some v2 ∧ W'.cell? ⟨g, 1, none⟩ = some v1 ∧ (∀ i, W'.frozen? ⟨g, i, none⟩ = false) ∧ GJ B g w0 link ks (vs ++ [x]) v1 v' (W'.setCell ⟨g, 2, none⟩ v') := by
  have hs := h.sz
  have hgl := h.gl
  have nr : some g ≠ v2.ownBlock := fun e => h.n2 e.symm
  have c : ∀ i, W'.cell? ⟨g, i, none⟩ = W.cell? ⟨g, i, none⟩ := fun i => hg.cell_far ⟨g, i, none⟩ hgl nr
  have fz : ∀ i, W'.frozen? ⟨g, i, none⟩ = false := fun i => (hg.frozen_far ⟨g, i, none⟩ hgl nr).trans (h.fz i)
  have d0 := (c 0).trans h.c0
  have d1 := (c 1).trans h.c1
  have d2 := (c 2).trans h.c2
  have d3 := (c 3).trans h.c3
  have ko : W'.ownsRow B 23 1 v1 ks.length (nw ks) := h.o1.kept hg (by
    cases hb : v1.ownBlock with
    | none => exact .inl rfl
    | some q => exact .inr (fun e => h.ne q hb e.symm))
  have on : W'.ownsRow B 23 1 v' (vs ++ [x]).length (nw (vs ++ [x])) := by simpa [nw] using ho
  have nn : v'.ownBlock ≠ some g := by
    rcases hl with e | e
    · rw [e]; exact h.n2
    · rw [e]; intro e2; injection e2 with e3; omega
  have hbl : Below w0.heap.size w0 W' := h.bl.grown hg h.bl.size (fun q e => Nat.le_trans h.wb (h.o2.lt q e).1)
  refine ⟨d2, d1, fz, ⟨by simp [go_sem, d0], by simp [go_sem, d1], by simp [go_sem, d2], by simp [go_sem, d3], fun i => by simp [go_sem, fz], ownsSet ko h.n1 _, ownsSet on nn _, hbl.setCell (by show w0.heap.size ≤ g; exact h.wg) _, by have := hg.size; simp; omega, by have := hg.size; simp; omega, h.wg, h.wb, h.n1, nn, ?_⟩⟩
  intro q hq hv
  rcases hl with e | e
  · exact h.ne q hq (e ▸ hv)
  · have := (h.o1.lt q hq).2
    rw [e] at hv
    have : W.heap.size = q := by simpa using hv
    omega
theorem GJ.start {p : Nd} (hp : ON B p W) (hi : p.inner = false) (hne : ∀ k, (Value.slice p.A1 p.ks.length p.c1).ownBlock = some k → (Value.slice p.A2 p.vs.length p.c2).ownBlock ≠ some k) (hb : Below w0.heap.size w0 W) (hB : B ≤ W.heap.size) (hw : w0.heap.size ≤ B) :
    GJ B W.heap.size w0 p.link p.ks p.vs (.slice p.A1 p.ks.length p.c1) (.slice p.A2 p.vs.length p.c2) (W.alloc (ndRow p)) := by
  have hn := nl1 W (ndRow p)
  have k := NC.alloc W p
  exact ⟨by rw [k.c0, hi], k.c1, k.c2, k.c3, k.fz, nOwn hp.k hn, nOwn hp.v hn, hb.trans (hn.mono hb.size), by simp, by simp; omega, hb.size, hw, fun e => by have := (hp.k.lt _ e).2; omega, fun e => by have := (hp.v.lt _ e).2; omega, hne⟩
end
theorem GJ.join (W w1 : World) (a b p : Nd) (link : Nat) (op : ON (((W.alloc (ndRow a)).alloc (ndRow b)).alloc (ndRow Nd.zero)).heap.size p w1) (e1 : p.inner = false) (e2 : p.link = link) (hne : ∀ k, (Value.slice p.A1 p.ks.length p.c1).ownBlock = some k → (Value.slice p.A2 p.vs.length p.c2).ownBlock ≠ some k) (K1 : F3 W a b w1)
    (hn : Below (((W.alloc (ndRow a)).alloc (ndRow b)).alloc (ndRow Nd.zero)).heap.size (((W.alloc (ndRow a)).alloc (ndRow b)).alloc (ndRow Nd.zero)) w1) :
    GJ (W.heap.size + 1 + 1 + 1) w1.heap.size W link p.ks p.vs (.slice p.A1 p.ks.length p.c1) (.slice p.A2 p.vs.length p.c2) (w1.alloc (ndRow p)) := by
  have hs := hn.size
  simp only [World.size_alloc] at op hs
  have := GJ.start op e1 hne K1.bl hs (by omega)
  rw [e2] at this
  exact this
theorem take_snoc (us : List Nat) (j : Nat) (hj : j < us.length) : us.take (j + 1) = us.take j ++ [us.getD j 0] := by
  have e : us.getD j 0 = us[j] := by simp [List.getD, hj]
  rw [e, List.take_succ_eq_append_getElem hj]
theorem rcut_all (x : Nd) (link : Nat) (h : x.ks.length = x.vs.length) (hl : x.ks.length ≤ 1000) (W : World) (hx : NR W x) :
    Calls Try.prog 20 #[ndV x, .int .i64 0, .int .i64 x.ks.length, .int .u64 (link : Nat)] W fun e w' => ∃ y : Nd, e = .returned (ndV y) ∧ y.inner = false ∧ y.link = link ∧ y.ks = x.ks ∧ y.vs = x.vs ∧ ON W.heap.size y w' ∧ Below W.heap.size W w' ∧ ∀ k, (Value.slice y.A1 y.ks.length y.c1).ownBlock = some k → (Value.slice y.A2 y.vs.length y.c2).ownBlock ≠ some k := by
  have := rcut_ne x 0 x.ks.length link (by omega) (by omega) (by omega) hl W hx
  refine Calls.mono this ?_
  rintro e w' ⟨y, h1, h2, h3, h4, h5, h6⟩
  refine ⟨y, h1, h2, h3, ?_, ?_, h6⟩
  · rw [h4]; show (x.ks.drop 0).take (x.ks.length - 0) = x.ks; simp
  · rw [h5]; show (x.vs.drop 0).take (x.ks.length - 0) = x.vs; rw [h]; simp
set_option maxHeartbeats 4000000 in
theorem rjoin_any (a b : Nd) (link : Nat) (ea : a.ks.length = a.vs.length) (eb : b.ks.length = b.vs.length) (hla : a.ks.length ≤ 1000) (hlb : b.ks.length ≤ 1000) (W : World) (hna : NR W a) (hnb : NR W b) :
    Calls Try.prog 24 #[ndV a, ndV b, .int .u64 (link : Nat)] W fun e w' => ∃ y : Nd, e = .returned (ndV y) ∧ y.inner = false ∧ y.link = link ∧ y.ks = a.ks ++ b.ks ∧ y.vs = a.vs ++ b.vs ∧ ON W.heap.size y w' ∧ Below W.heap.size W w' := by
  obtain ⟨i0, hi, hz0, hz1, hz2⟩ := info_parts infoW
  have HI := Lib.hid (And.intro hi (And.intro hz0 (And.intro hz1 hz2)))
  clear hi hz0 hz1 hz2
  have CT := Lib.hid (fun W' h => rcut_all a link ea hla W' h)
  obtain ⟨ia, ka, va, la, A1, a1, A2, a2⟩ := a
  obtain ⟨ib, kb, vb, lb, B1, b1, B2, b2⟩ := b
  simp only at ea eb hla hlb
  have NB0 := Lib.hid hnb
  have hmx : kb.length ≤ maxLen := by unfold maxLen; omega
  have HLA := Lib.hid (And.intro ea hla)
  have EB := Lib.hid eb
  have A0 := (F3.start W ⟨ia, ka, va, la, A1, a1, A2, a2⟩ ⟨ib, kb, vb, lb, B1, b1, B2, b2⟩ hna hnb)
  have K0 := Lib.hid A0
  clear A0 hna hnb ea eb
  go_enter Try.func24, Try.ntmps24
  go_wp2_with (go_at_call 20; refine (CT.out _ K0.out.ra).mono ?_; rintro e w1 ⟨p, rfl, e1, e2, e3, e4, op, hn, hne⟩; have K1 := Lib.hid (K0.out.next hn); have G0 := Lib.hid (GJ.join W w1 _ _ p link op e1 e2 hne K1.out hn); have P3 := Lib.hid e3; have P4 := Lib.hid e4; have PI := Lib.hid e1; have PL := Lib.hid e2; clear hn e1 e2 e3 e4 op hne)
  have K2 := Lib.hid (K1.out.next (nl1 w1 (ndRow p)))
  have K1' := Lib.hid K1.out.z.lt
  clear K1
  have GZ := Lib.hid (show W.heap.size + 1 + 1 < w1.heap.size from K1'.out)
  clear K1'
  generalize w1.heap.size = g at G0 GZ ⊢
  go_loopg [8] kb.length (fun gk i wr => ∃ (j : Nat) (v1 v2 : Value), j ≤ kb.length ∧ gk = kb.length - j ∧ i = .int .i64 j ∧ GJ (W.heap.size + 1 + 1 + 1) g W link (p.ks ++ kb.take j) (p.vs ++ vb.take j) v1 v2 wr ∧ NC (W.heap.size + 1) ⟨ib, kb, vb, lb, B1, b1, B2, b2⟩ wr ∧ NC (W.heap.size + 1 + 1) Nd.zero wr)
  case atStart => exact ⟨0, _, _, by omega, by omega, rfl, by rw [List.take_zero, List.take_zero, List.append_nil, List.append_nil]; exact G0.out, K2.out.nb, K2.out.z⟩
  case round =>
    clear G0 K2
    obtain ⟨j, v1, v2, hj, hg, rfl, hr, hb, hz⟩ := hrel
    have hbk := hb.c1
    by_cases hlt : j < kb.length
    · have hjv : j < vb.length := by rw [← EB.out]; exact hlt
      have T1 := Lib.hid (take_snoc kb j hlt)
      have T2 := Lib.hid (take_snoc vb j hjv)
      have F1 := Lib.hid (show (p.ks ++ kb.take j).length ≤ 2000 by rw [P3.out]; simp; omega)
      have F2 := Lib.hid (show (p.vs ++ vb.take j).length ≤ 2000 by rw [P4.out]; have := HLA.out.1; have := EB.out; simp; omega)
      obtain ⟨b1', o1, rfl, q1⟩ := NB0.out.at1 j hlt
      obtain ⟨b2', o2, rfl, q2⟩ := NB0.out.at2 j hjv
      have P1 := Lib.hid (fun W' (h : Below W.heap.size W W') => (h.cell (p := ⟨b1', o1 + j, none⟩) (World.block_lt_of_cell? W _ q1)).trans q1)
      have P2 := Lib.hid (fun W' (h : Below W.heap.size W W') => (h.cell (p := ⟨b2', o2 + j, none⟩) (World.block_lt_of_cell? W _ q2)).trans q2)
      clear q1 q2
      simp only at P1 P2
      generalize kb.getD j 0 = x at P1 T1
      generalize vb.getD j 0 = y at P2 T2
      generalize hks : p.ks ++ kb.take j = ks at hr F1
      generalize hvs : p.vs ++ vb.take j = vs at hr F2
      have HKS := Lib.hid hks
      have HVS := Lib.hid hvs
      clear hks hvs
      have p0 := P1.out _ hr.bl
      have hmk : (j : Int) < (kb.length : Int) := by omega
      have hmv : (j : Int) < (vb.length : Int) := by omega
      have hm0 : (0 : Int) ≤ (j : Int) := by omega
      have cka := hr.c1
      have fka := hr.fz 1
      have sza := hr.sz
      have gba := hr.gl
      have HGa := Lib.hid (hr.drew.next (nl1 wr.drew (.cells #[.int .u64 (x : Nat)] 23)))
      have HK0a := Lib.hid (hb.drew.next (nl1 wr.drew (.cells #[.int .u64 (x : Nat)] 23)))
      have HK1a := Lib.hid (hz.drew.next (nl1 wr.drew (.cells #[.int .u64 (x : Nat)] 23)))
      have HWa : RowKit.Hid ((wr.drew.alloc (.cells #[.int .u64 (x : Nat)] 23)).heap[wr.heap.size]? = some (.cells #[.int .u64 (x : Nat)] 23)) := Lib.hid (heap_alloc_new wr.drew (.cells #[.int .u64 (x : Nat)] 23))
      have e1a : wr.heap.size ≠ g := by omega
      have e2a : g ≠ wr.heap.size := by omega
      have e3a : g < wr.heap.size := by omega
      have e4a := World.new_ne wr _ cka
      have n0a := World.new_ne wr _ p0
      have n1a := World.new_ne wr _ hbk
      clear hr sza gba hb hz
      go_wp2
      go_region_law
        ((refine step_append_lies _ (by rfl) _ _ 22 (by rfl) (W.heap.size + 1 + 1 + 1) 23 i0 (.int .u64 0) 1 8 sliceW HI.out.1 HI.out.2.1 HI.out.2.2.1 HI.out.2.2.2 rfl (by omega) v1 _ _ (by rfl) (HGa.out.o1) ⟨wr.heap.size, 0, none⟩ 1 1 [.int .u64 (x : Nat)] (by rfl) (by rfl) (World.news_of_block HWa.out) (by simp [Value.oneCell']) (by omega) (by have := F1.out; unfold maxLen; omega) (by have := F1.out; omega) HGa.out.sz (wr.heap.size + 1) (by simp) ?_; intro gg1 cap1 w1 hown hgrow hat hlt; have hG := GJ.add1 HGa.out x hown hgrow (by rcases hat with e | e; exact .inl (show some gg1 = _ from e.symm); exact .inr (show some gg1 = some _ by rw [e]; simp)); have hk0a := (HK0a.out.grown hgrow (fun e => by have := (HGa.out.o1.lt _ e.symm).1; omega)).set (g' := g) (i := 1) (by have := GZ.out; omega) (.slice (some ⟨gg1, 0, none⟩) (ks.length + 1) cap1); have HK0ab := Lib.hid hk0a; clear hk0a; have hk1a := (HK1a.out.grown hgrow (fun e => by have := (HGa.out.o1.lt _ e.symm).1; omega)).set (g' := g) (i := 1) (by have := GZ.out; omega) (.slice (some ⟨gg1, 0, none⟩) (ks.length + 1) cap1); have HK1ab := Lib.hid hk1a; clear hk1a; have caa := hG.1; have cba := hG.2.1; have fca := hG.2.2.1; have HXa := Lib.hid hG.2.2.2; clear hG hown hgrow hat hlt))
      all_goals (
        obtain ⟨wm, hwa⟩ : ∃ z : World, z = w1.setCell ⟨g, 1, none⟩ (.slice (some ⟨gg1, 0, none⟩) (ks.length + 1) cap1) := ⟨_, rfl⟩
        have hwm := HXa.out
        have hb := HK0ab.out
        have hz := HK1ab.out
        rw [← hwa] at hwm hb hz ⊢
        clear hwa HXa caa cba fca cka fka e1a e2a e3a e4a HGa HWa n0a n1a HK0a HK0ab HK1a HK1ab
        clear p0 hbk
        generalize (Value.slice (some ⟨gg1, 0, none⟩) (ks.length + 1) cap1) = v3 at hwm
        have p1 := P2.out _ hwm.bl
        have x2 := hb.c2
        have ckb := hwm.c2
        have fkb := hwm.fz 2
        have szb := hwm.sz
        have gbb := hwm.gl
        have HGb := Lib.hid (hwm.drew.next (nl1 wm.drew (.cells #[.int .u64 (y : Nat)] 23)))
        have HK0b := Lib.hid (hb.drew.next (nl1 wm.drew (.cells #[.int .u64 (y : Nat)] 23)))
        have HK1b := Lib.hid (hz.drew.next (nl1 wm.drew (.cells #[.int .u64 (y : Nat)] 23)))
        have HWb : RowKit.Hid ((wm.drew.alloc (.cells #[.int .u64 (y : Nat)] 23)).heap[wm.heap.size]? = some (.cells #[.int .u64 (y : Nat)] 23)) := Lib.hid (heap_alloc_new wm.drew (.cells #[.int .u64 (y : Nat)] 23))
        have e1b : wm.heap.size ≠ g := by omega
        have e2b : g ≠ wm.heap.size := by omega
        have e3b : g < wm.heap.size := by omega
        have e4b := World.new_ne wm _ ckb
        have n0b := World.new_ne wm _ p1
        have n1b := World.new_ne wm _ x2
        clear hwm szb gbb hb hz
        go_wp2
        go_region_law
          ((refine step_append_lies _ (by rfl) _ _ 22 (by rfl) (W.heap.size + 1 + 1 + 1) 23 i0 (.int .u64 0) 1 8 sliceW HI.out.1 HI.out.2.1 HI.out.2.2.1 HI.out.2.2.2 rfl (by omega) v2 _ _ (by rfl) (HGb.out.o2) ⟨wm.heap.size, 0, none⟩ 1 1 [.int .u64 (y : Nat)] (by rfl) (by rfl) (World.news_of_block HWb.out) (by simp [Value.oneCell']) (by omega) (by have := F2.out; unfold maxLen; omega) (by have := F2.out; omega) HGb.out.sz (wm.heap.size + 1) (by simp) ?_; intro gg2 cap2 w2 hown hgrow hat hlt; have hG := GJ.add2 HGb.out y hown hgrow (by rcases hat with e | e; exact .inl (show some gg2 = _ from e.symm); exact .inr (show some gg2 = some _ by rw [e]; simp)); have hk0b := (HK0b.out.grown hgrow (fun e => by have := (HGb.out.o2.lt _ e.symm).1; omega)).set (g' := g) (i := 2) (by have := GZ.out; omega) (.slice (some ⟨gg2, 0, none⟩) (vs.length + 1) cap2); have HK0bb := Lib.hid hk0b; clear hk0b; have hk1b := (HK1b.out.grown hgrow (fun e => by have := (HGb.out.o2.lt _ e.symm).1; omega)).set (g' := g) (i := 2) (by have := GZ.out; omega) (.slice (some ⟨gg2, 0, none⟩) (vs.length + 1) cap2); have HK1bb := Lib.hid hk1b; clear hk1b; have cab := hG.1; have cbb := hG.2.1; have fcb := hG.2.2.1; have HXb := Lib.hid hG.2.2.2; clear hG hown hgrow hat hlt))
        all_goals (
          obtain ⟨wn, hwb⟩ : ∃ z : World, z = w2.setCell ⟨g, 2, none⟩ (.slice (some ⟨gg2, 0, none⟩) (vs.length + 1) cap2) := ⟨_, rfl⟩
          have hwn := HXb.out
          have hb := HK0bb.out
          have hz := HK1bb.out
          rw [← hwb] at hwn hb hz ⊢
          clear hwb HXb cab cbb fcb ckb fkb e1b e2b e3b e4b HGb HWb n0b n1b HK0b HK0bb HK1b HK1bb
          clear p1 x2
          generalize (Value.slice (some ⟨gg2, 0, none⟩) (vs.length + 1) cap2) = v4 at hwn
          have HWN := Lib.hid hwn
          have HBN := Lib.hid hb
          have HZN := Lib.hid hz
          clear hwn hb hz
          go_wp2
          go_roundg (kb.length - (j + 1))
          case rel => exact ⟨j + 1, _, _, by omega, rfl, by go_num, by rw [T1.out, T2.out, ← List.append_assoc, ← List.append_assoc, HKS.out, HVS.out]; exact HWN.out, HBN.out, HZN.out⟩
          case measure => omega))
    · obtain rfl : j = kb.length := by omega
      rw [List.take_length, P3.out, P4.out, EB.out, List.take_length] at hr
      obtain ⟨C1, d1, rfl, Q1⟩ := RL.of_own hr.o1
      obtain ⟨C2, d2, rfl, Q2⟩ := RL.of_own hr.o2
      generalize hks : ka ++ kb = ks at hr Q1
      generalize hvs : va ++ vb = vs at hr Q2
      have HKS := Lib.hid hks
      have HVS := Lib.hid hvs
      clear hks hvs
      have c0 := hr.c0
      have c1 := hr.c1
      have c2 := hr.c2
      have c3 := hr.c3
      have z0 := hz.c0
      have z1 := hz.c1
      have z2 := hz.c2
      have z3 := hz.c3
      have fz := hz.fz
      have HR := Lib.hid hr
      clear hr hb hz Q1 Q2
      go_wp2
      have hbl := HR.out.bl
      have o1 := HR.out.o1
      have o2 := HR.out.o2
      exact bodyPost_ret (v := ndV ⟨false, ks, vs, link, C1, d1, C2, d2⟩) (by simp [results, Try.results24, go_sem, z0, z1, z2, z3]) rfl ⟨⟨false, ks, vs, link, C1, d1, C2, d2⟩, rfl, rfl, rfl, HKS.out.symm, HVS.out.symm, ⟨nLe (set4Own o1 (by omega)) (by omega), nLe (set4Own o2 (by omega)) (by omega)⟩, below_put4 hbl (by omega) _ _ _ _⟩
end Go.Proofs.Ytahpdifneajblaa
