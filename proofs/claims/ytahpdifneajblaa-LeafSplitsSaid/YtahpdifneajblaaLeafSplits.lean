/- gleaninglaw12.LeafSplits: for every input the law returns true, and leaves its arguments as they were. No condition. -/
import Derived.Test.YtahpdifneajblaaRows
import Derived.WalkKit
import Derived.Test.YtahpdifneajblaaOpenN
import Derived.Deep.RegionHeld3
import Derived.Test.YtahpdifneajblaaLeaf9
import Derived.Test.YtahpdifneajblaaTail
import Derived.Test.YtahpdifneajblaaFrame
import Derived.ProofKit
import Derived.OpenShut
namespace Go.Proofs.Ytahpdifneajblaa.leafSplits
open Go.ChangeShapes Go.WideShapes Go.ChangeAt Go.RowKit
set_option linter.unusedVariables false

theorem own : ownKnob Try.prog.godebug = none := by kernel_rfl
theorem laidOut : laidOutB Try.prog = true := by kernel_rfl

set_option maxHeartbeats 4000000 in
theorem walk (w : World) (x0 : Nd) (hN0 : NR w x0) (hk0 : x0.link < 18446744073709551616) (hks0 : ∀ k ∈ x0.ks, k < 18446744073709551616) (hvs0 : ∀ k ∈ x0.vs, k < 18446744073709551616) :
    Calls Try.prog 4 #[ndV x0] w fun e w' => e = .returned (.bool true) ∧ Below w.heap.size w w' := by
  have AW := Lib.hid awake12_any
  have SM := Lib.hid (fun W' => small_any x0 W' (Nat.le_trans hN0.k.le hN0.k.max) (Nat.le_trans hN0.v.le hN0.v.max))
  have K0 := Lib.hid (L0.start w x0 hN0)
  have HN := Lib.hid hN0
  clear hk0 hks0 hvs0
  by_cases hsm : x0.ks.length ≤ 80 ∧ x0.vs.length ≤ 80
  · rw [show decide (x0.ks.length ≤ 80 ∧ x0.vs.length ≤ 80) = true by simp [hsm]] at SM
    have hs1 := hsm.1
    have hs2 := hsm.2
    clear hsm
    by_cases hg : rightP x0 ∧ 2 ≤ x0.ks.length
    · obtain ⟨hr, h2⟩ := hg
      have hv := hr.2.1
      obtain ⟨b, o, hA, hk⟩ := hN0.at1 (x0.ks.length - x0.ks.length / 2) (by omega)
      have SY := Lib.hid (fun W' h => split_yes x0 (by omega) hr h2 W' h)
      have FP := Lib.hid (fun y z y0 z0 yk yv zk zv => fol_parts x0 y z (x0.ks.length - x0.ks.length / 2) hr (by omega) y0 z0 yk yv zk zv)
      have RT := Lib.hid (fun W' h => rright_any x0 (by omega) true (by simp [hr]) W' h)
      have CA := Lib.hid (fun W' h => rcut0 x0 (x0.ks.length - x0.ks.length / 2) (by omega) (by omega) (by omega) W' h)
      have CB := Lib.hid (fun W' h => rcut_any x0 (x0.ks.length - x0.ks.length / 2) x0.ks.length x0.link (by omega) (by omega) (by omega) (by omega) W' h)
      generalize hat : x0.ks.length - x0.ks.length / 2 = at0 at hk SY FP CA CB
      have hatn : at0 < x0.ks.length := by omega
      have hati : (at0 : Int) < (x0.ks.length : Int) := by omega
      have hati0 : (0 : Int) ≤ (at0 : Int) := by omega
      have hw1 : RowKit.wrap64 ((x0.ks.length : Int) + 1) = (x0.ks.length : Int) + 1 := IntWalk.wrap64_in _ ⟨by omega, by omega⟩
      have hw2 : RowKit.wrap64 (((x0.ks.length : Int) + 1) / 2) = (at0 : Int) := by rw [IntWalk.wrap64_in (((x0.ks.length : Int) + 1) / 2) ⟨by omega, by omega⟩]; omega
      have hw3 : RowKit.wrap64 (((x0.ks.length : Int) + 1).tdiv 2) = (at0 : Int) := by rw [Int.tdiv_eq_ediv_of_nonneg (by omega)]; exact hw2
      have hnd : decide ((x0.ks.length : Int) < 2) = false := by simp; omega
      have hnn : (2 : Int) ≤ (x0.ks.length : Int) := by omega
      have hmx : x0.ks.length ≤ maxLen := by unfold maxLen; omega
      generalize hkv : x0.ks.getD at0 0 = kv at hk SY
      have KC := Lib.hid (fun W' (h : Below w.heap.size w W') => (h.cell (p := ⟨b, o + at0, none⟩) (World.block_lt_of_cell? w _ hk)).trans hk)
      have HL := Lib.hid (show x0.ks.length ≤ 1000 ∧ x0.vs.length ≤ 1000 by omega)
      have LEN := Lib.hid (fun (y z : Nd) (e1 : y.ks = cutL x0.ks 0 at0) (e2 : y.vs = cutL x0.vs 0 at0) (e3 : z.ks = cutL x0.ks at0 x0.ks.length) (e4 : z.vs = cutL x0.vs at0 x0.ks.length) => (show y.ks.length ≤ 1000 ∧ y.vs.length ≤ 1000 ∧ z.ks.length ≤ 1000 ∧ z.vs.length ≤ 1000 by rw [e1, e2, e3, e4, cutL_len _ _ _ (by omega), cutL_len _ _ _ (by omega), cutL_len _ _ _ (by omega), cutL_len _ _ _ (by omega)]; omega))
      have HIN := Lib.hid hr.1
      have HAT := Lib.hid (show at0 ≤ x0.ks.length ∧ at0 ≤ x0.vs.length by omega)
      obtain ⟨inner, ks, vs, lk, A1, c1, A2, c2⟩ := x0
      simp only at hA hatn hati hw1 hw2 hw3 hnd hnn hmx
      subst hA
      have t1 : True := trivial
      have t2 : True := trivial
      have t3 : True := trivial
      have t4 : True := trivial
      have t5 : True := trivial
      clear hN0 hr h2 hv hs1 hs2 hk hat hkv
      go_enter Try.func4, Try.ntmps4
      go_wp2_with (first
        | (go_at_call 8; refine (SM.out _).mono ?_; rintro e w1 ⟨rfl, hn⟩; have K1 := Lib.hid (K0.out.next hn); clear hn K0; have c0 := K1.out.n.c0; have c1' := K1.out.n.c1; have c2' := K1.out.n.c2; have c3 := K1.out.n.c3)
        | (go_at_call 19; refine (SY.out _ K1.out.r).mono ?_; rintro e w2 ⟨y, z, rfl, hn, oy, oz, y0, z0, yl, zl, yk, yv, zk, zv⟩; have K2 := Lib.hid (LS.start (K1.out.next hn) (KC.out _ (K1.out.next hn).bl) oy.nr oz.nr); have E0 := Lib.hid (And.intro y0 z0); have E1 := Lib.hid (And.intro yl zl); have E2 := Lib.hid (And.intro yk yv); have E3 := Lib.hid (And.intro zk zv); have FO := Lib.hid (FP.out y z y0 z0 yk yv zk zv); clear c0 c1' c2' c3 hn oy oz y0 z0 yl zl yk yv zk zv K1 FP KC SY SM; generalize hgg : w2.heap.size = g at K2 ⊢; have c0 := K2.out.n.c0; have c1' := K2.out.n.c1; have c2' := K2.out.n.c2; have c3 := K2.out.n.c3)
        | (go_at_call 13; refine (RT.out _ K2.out.r).mono ?_; rintro e w3 ⟨rfl, hn⟩; have K3 := Lib.hid (K2.out.next hn); clear hn c0 c1' c2' c3 K2; have c1' := K3.out.n.c1))
      clear c1'
      have hs := LS.all (K3.out.next (Below.refl _ _).drew)
      go_region_held3 (fun w' => w'.cell? ⟨w.heap.size, 0, none⟩ = some (.bool inner) ∧ w'.cell? ⟨w.heap.size, 1, none⟩ = some (.slice (some ⟨b, o, none⟩) ks.length c1) ∧ w'.cell? ⟨w.heap.size, 2, none⟩ = some (.slice A2 vs.length c2) ∧ w'.cell? ⟨w.heap.size, 3, none⟩ = some (.int .u64 (lk : Nat)) ∧ w'.cell? ⟨g, 0, none⟩ = some (.bool y.inner) ∧ w'.cell? ⟨g, 1, none⟩ = some (.slice y.A1 y.ks.length y.c1) ∧ w'.cell? ⟨g, 2, none⟩ = some (.slice y.A2 y.vs.length y.c2) ∧ w'.cell? ⟨g, 3, none⟩ = some (.int .u64 (y.link : Nat)) ∧ w'.cell? ⟨g + 1, 0, none⟩ = some (.bool z.inner) ∧ w'.cell? ⟨g + 1, 1, none⟩ = some (.slice z.A1 z.ks.length z.c1) ∧ w'.cell? ⟨g + 1, 2, none⟩ = some (.slice z.A2 z.vs.length z.c2) ∧ w'.cell? ⟨g + 1, 3, none⟩ = some (.int .u64 (z.link : Nat)) ∧ w'.cell? ⟨b, o + at0, none⟩ = some (.int .u64 (kv : Nat)) ∧ LS w (⟨inner, ks, vs, lk, some ⟨b, o, none⟩, c1, A2, c2⟩ : Nd) g y z b (o + at0) kv w') (first | with_reducible exact hs | exact hs)
        (first
          | (go_at_call 20; have _t := t1; refine (CA.out _ (LS.of (w0 := w) (x := (⟨inner, ks, vs, lk, some ⟨b, o, none⟩, c1, A2, c2⟩ : Nd)) (g := g) (y := y) (z := z) (b := b) (o := o + at0) (kv := kv) (by assumption)).r).mono ?_; rintro e k1 ⟨p1, rfl, e1, e2, e3, e4, op, hn⟩; clear t1; have hs := LS.all ((LS.of (w0 := w) (x := (⟨inner, ks, vs, lk, some ⟨b, o, none⟩, c1, A2, c2⟩ : Nd)) (g := g) (y := y) (z := z) (b := b) (o := o + at0) (kv := kv) (by assumption)).next hn); have E4 := Lib.hid (And.intro e1 (And.intro e2 (And.intro e3 (And.intro e4 op.nr)))); clear hn e1 e2 e3 e4 op)
          | (go_at_call 15; have _t := t2; refine (same_any y p1 (Nat.le_trans (LEN.out y z E2.out.1 E2.out.2 E3.out.1 E3.out.2).1 (by omega)) (Nat.le_trans (LEN.out y z E2.out.1 E2.out.2 E3.out.1 E3.out.2).2.1 (by omega)) (E0.out.1.trans E4.out.1.symm) (E2.out.1.trans E4.out.2.2.1.symm) (E2.out.2.trans E4.out.2.2.2.1.symm) (E1.out.1.trans E4.out.2.1.symm) _ (LS.of (w0 := w) (x := (⟨inner, ks, vs, lk, some ⟨b, o, none⟩, c1, A2, c2⟩ : Nd)) (g := g) (y := y) (z := z) (b := b) (o := o + at0) (kv := kv) (by assumption)).ry E4.out.2.2.2.2).mono ?_; rintro e k2 ⟨rfl, hn⟩; clear t2; have hs := LS.all ((LS.of (w0 := w) (x := (⟨inner, ks, vs, lk, some ⟨b, o, none⟩, c1, A2, c2⟩ : Nd)) (g := g) (y := y) (z := z) (b := b) (o := o + at0) (kv := kv) (by assumption)).next hn); clear hn E4)
          | (go_at_call 20; have _t := t3; refine (CB.out _ (LS.of (w0 := w) (x := (⟨inner, ks, vs, lk, some ⟨b, o, none⟩, c1, A2, c2⟩ : Nd)) (g := g) (y := y) (z := z) (b := b) (o := o + at0) (kv := kv) (by assumption)).r).mono ?_; rintro e k3 ⟨p2, rfl, e1, e2, e3, e4, op, hn⟩; clear t3; have hs := LS.all ((LS.of (w0 := w) (x := (⟨inner, ks, vs, lk, some ⟨b, o, none⟩, c1, A2, c2⟩ : Nd)) (g := g) (y := y) (z := z) (b := b) (o := o + at0) (kv := kv) (by assumption)).next hn); have E5 := Lib.hid (And.intro e1 (And.intro e2 (And.intro e3 (And.intro e4 op.nr)))); clear hn e1 e2 e3 e4 op)
          | (go_at_call 15; have _t := t4; refine (same_any z p2 (Nat.le_trans (LEN.out y z E2.out.1 E2.out.2 E3.out.1 E3.out.2).2.2.1 (by omega)) (Nat.le_trans (LEN.out y z E2.out.1 E2.out.2 E3.out.1 E3.out.2).2.2.2 (by omega)) (E0.out.2.trans E5.out.1.symm) (E3.out.1.trans E5.out.2.2.1.symm) (E3.out.2.trans E5.out.2.2.2.1.symm) (E1.out.2.trans E5.out.2.1.symm) _ (LS.of (w0 := w) (x := (⟨inner, ks, vs, lk, some ⟨b, o, none⟩, c1, A2, c2⟩ : Nd)) (g := g) (y := y) (z := z) (b := b) (o := o + at0) (kv := kv) (by assumption)).rz E5.out.2.2.2.2).mono ?_; rintro e k4 ⟨rfl, hn⟩; clear t4; have hs := LS.all ((LS.of (w0 := w) (x := (⟨inner, ks, vs, lk, some ⟨b, o, none⟩, c1, A2, c2⟩ : Nd)) (g := g) (y := y) (z := z) (b := b) (o := o + at0) (kv := kv) (by assumption)).next hn); clear hn E5)
          | (go_at_call 21; refine (merge_yes y z (LEN.out y z E2.out.1 E2.out.2 E3.out.1 E3.out.2).1 (LEN.out y z E2.out.1 E2.out.2 E3.out.1 E3.out.2).2.1 (LEN.out y z E2.out.1 E2.out.2 E3.out.1 E3.out.2).2.2.1 (LEN.out y z E2.out.1 E2.out.2 E3.out.1 E3.out.2).2.2.2 FO.out.1 _ (LS.of (w0 := w) (x := (⟨inner, ks, vs, lk, some ⟨b, o, none⟩, c1, A2, c2⟩ : Nd)) (g := g) (y := y) (z := z) (b := b) (o := o + at0) (kv := kv) (by assumption)).ry (LS.of (w0 := w) (x := (⟨inner, ks, vs, lk, some ⟨b, o, none⟩, c1, A2, c2⟩ : Nd)) (g := g) (y := y) (z := z) (b := b) (o := o + at0) (kv := kv) (by assumption)).rz).mono ?_; rintro e k5 ⟨q, rfl, e1, e2, e3, e4, oq, hn⟩; have hs := LS.all ((LS.of (w0 := w) (x := (⟨inner, ks, vs, lk, some ⟨b, o, none⟩, c1, A2, c2⟩ : Nd)) (g := g) (y := y) (z := z) (b := b) (o := o + at0) (kv := kv) (by assumption)).next hn); have E6 := Lib.hid (And.intro e1 (And.intro e2 (And.intro (e3.trans FO.out.2.1) (And.intro (e4.trans FO.out.2.2) oq.nr)))); clear hn e1 e2 e3 e4 oq)
          | (go_at_call 15; have _t := t5; refine (same_any q (⟨inner, ks, vs, lk, some ⟨b, o, none⟩, c1, A2, c2⟩ : Nd) (by have e := E6.out.2.2.1; rw [e]; exact Nat.le_trans HL.out.1 (by omega)) (by have e := E6.out.2.2.2.1; rw [e]; exact Nat.le_trans HL.out.2 (by omega)) (E6.out.1.trans HIN.out.symm) E6.out.2.2.1 E6.out.2.2.2.1 (E6.out.2.1.trans E1.out.2) _ E6.out.2.2.2.2 (LS.of (w0 := w) (x := (⟨inner, ks, vs, lk, some ⟨b, o, none⟩, c1, A2, c2⟩ : Nd)) (g := g) (y := y) (z := z) (b := b) (o := o + at0) (kv := kv) (by assumption)).r).mono ?_; rintro e k6 ⟨rfl, hn⟩; clear t5; have hs := LS.all ((LS.of (w0 := w) (x := (⟨inner, ks, vs, lk, some ⟨b, o, none⟩, c1, A2, c2⟩ : Nd)) (g := g) (y := y) (z := z) (b := b) (o := o + at0) (kv := kv) (by assumption)).next hn); clear hn E6)
          | (go_at_call 9; refine (AW.out _).mono ?_; rintro e k7 ⟨rfl, hn⟩; have hs := LS.all ((LS.of (w0 := w) (x := (⟨inner, ks, vs, lk, some ⟨b, o, none⟩, c1, A2, c2⟩ : Nd)) (g := g) (y := y) (z := z) (b := b) (o := o + at0) (kv := kv) (by assumption)).next hn); clear hn))
      all_goals (
        have BL := Lib.hid (LS.of (w0 := w) (x := (⟨inner, ks, vs, lk, some ⟨b, o, none⟩, c1, A2, c2⟩ : Nd)) (g := g) (y := y) (z := z) (b := b) (o := o + at0) (kv := kv) hs).bl
        clear hs
        go_wp2
        go_ret
        exact ⟨rfl, BL.out⟩)
    · have SN := Lib.hid (fun W' h => split_no x0 (by omega) hg W' h)
      obtain ⟨r, hr⟩ := rightB x0
      have RT := Lib.hid (fun W' h => rright_any x0 (by omega) r hr W' h)
      have hlt : r = true → (x0.ks.length : Int) < 2 := fun h => by have hk : ¬ 2 ≤ x0.ks.length := fun k => hg ⟨hr.1 h, k⟩; omega
      have HLT := Lib.hid hlt
      have ZZ := Lib.hid (fun W' => same_any Nd.zero Nd.zero (by simp) (by simp) rfl rfl rfl rfl W' (NR.zero _) (NR.zero _))
      have t1 : True := trivial
      have t2 : True := trivial
      clear hN0 hs1 hs2 hr hlt hg
      cases r with
      | true =>
        have hq := HLT.out rfl
        have hd : decide ((x0.ks.length : Int) < 2) = true := by simpa using hq
        clear HLT
        go_enter Try.func4, Try.ntmps4
        go_wp2_with (first
          | (go_at_call 8; refine (SM.out _).mono ?_; rintro e w1 ⟨rfl, hn⟩; have K1 := Lib.hid (K0.out.next hn); clear hn K0; have c0 := K1.out.n.c0; have c1' := K1.out.n.c1; have c2' := K1.out.n.c2; have c3 := K1.out.n.c3)
          | (go_at_call 19; refine (SN.out _ K1.out.r).mono ?_; rintro e w2 ⟨rfl, hn⟩; have K2 := Lib.hid (LZ.start2 (K1.out.next hn)); clear c0 c1' c2' c3 hn; have c0 := K2.out.n.c0; have c1' := K2.out.n.c1; have c2' := K2.out.n.c2; have c3 := K2.out.n.c3)
          | (go_at_call 13; refine (RT.out _ K2.out.r).mono ?_; rintro e w3 ⟨rfl, hn⟩; have K3 := Lib.hid (K2.out.next hn); clear hn c0 c1' c2' c3; have c1' := K3.out.n.c1; have c0 := K3.out.cy.c0; have d1 := K3.out.cy.c1; have d2 := K3.out.cy.c2; have d3 := K3.out.cy.c3)
          | (go_at_call 15; have _t := t1; refine (ZZ.out _).mono ?_; rintro e w4 ⟨rfl, hn⟩; clear t1; have K4 := Lib.hid (K3.out.next hn); clear hn c0 d1 d2 d3 c1'; have c0 := K4.out.cz.c0; have d1 := K4.out.cz.c1; have d2 := K4.out.cz.c2; have d3 := K4.out.cz.c3)
          | (go_at_call 15; have _t := t2; refine (ZZ.out _).mono ?_; rintro e w5 ⟨rfl, hn⟩; clear t2; have K5 := Lib.hid (K4.out.next hn); clear hn c0 d1 d2 d3)
          | (go_at_call 9; refine (AW.out _).mono ?_; rintro e w6 ⟨rfl, hn⟩; have B6 := Lib.hid (K5.out.next hn).bl; clear hn))
        go_ret
        exact ⟨rfl, B6.out⟩
      | false =>
        clear HLT
        go_enter Try.func4, Try.ntmps4
        go_wp2_with (first
          | (go_at_call 8; refine (SM.out _).mono ?_; rintro e w1 ⟨rfl, hn⟩; have K1 := Lib.hid (K0.out.next hn); clear hn K0; have c0 := K1.out.n.c0; have c1' := K1.out.n.c1; have c2' := K1.out.n.c2; have c3 := K1.out.n.c3)
          | (go_at_call 19; refine (SN.out _ K1.out.r).mono ?_; rintro e w2 ⟨rfl, hn⟩; have K2 := Lib.hid (LZ.start2 (K1.out.next hn)); clear c0 c1' c2' c3 hn; have c0 := K2.out.n.c0; have c1' := K2.out.n.c1; have c2' := K2.out.n.c2; have c3 := K2.out.n.c3)
          | (go_at_call 13; refine (RT.out _ K2.out.r).mono ?_; rintro e w3 ⟨rfl, hn⟩; have K3 := Lib.hid (K2.out.next hn); clear hn c0 c1' c2' c3; have c1' := K3.out.n.c1; have c0 := K3.out.cy.c0; have d1 := K3.out.cy.c1; have d2 := K3.out.cy.c2; have d3 := K3.out.cy.c3)
          | (go_at_call 15; have _t := t1; refine (ZZ.out _).mono ?_; rintro e w4 ⟨rfl, hn⟩; clear t1; have K4 := Lib.hid (K3.out.next hn); clear hn c0 d1 d2 d3 c1'; have c0 := K4.out.cz.c0; have d1 := K4.out.cz.c1; have d2 := K4.out.cz.c2; have d3 := K4.out.cz.c3)
          | (go_at_call 15; have _t := t2; refine (ZZ.out _).mono ?_; rintro e w5 ⟨rfl, hn⟩; clear t2; have K5 := Lib.hid (K4.out.next hn); clear hn c0 d1 d2 d3)
          | (go_at_call 9; refine (AW.out _).mono ?_; rintro e w6 ⟨rfl, hn⟩; have B6 := Lib.hid (K5.out.next hn).bl; clear hn))
        go_ret
        exact ⟨rfl, B6.out⟩
  · rw [show decide (x0.ks.length ≤ 80 ∧ x0.vs.length ≤ 80) = false by simp only [hsm, decide_false]] at SM
    clear hN0 hsm
    go_enter Try.func4, Try.ntmps4
    go_wp2_with (first
      | (go_at_call 8; refine (SM.out _).mono ?_; rintro e w1 ⟨rfl, hn⟩; have K1 := Lib.hid (K0.out.next hn); clear hn)
      | (go_at_call 9; refine (AW.out _).mono ?_; rintro e w2 ⟨rfl, hn⟩; have K2 := Lib.hid (K1.out.next hn); clear hn))
    go_ret
    exact ⟨rfl, K2.out.bl⟩

set_option maxRecDepth 100000 in
theorem lifted (os : Os) (started : os.Started) (H : Type) (enc : TypeId × Value → H) :
    ReturnsInHanded {} Try.checked os 4 .any (Rows.leafSplitsSpec.pre6 enc Try.prog Try.f4 Rows.leafSplitsRow.domain false) (Rows.leafSplitsSpec.post enc Try.prog Try.f4 false true false false) := by
  refine returnsInHanded_of_change (C := Try.checked) own started (by kernel_rfl) Try.func4
    (ChangeSpec.witness6 (enc := enc) (C := Try.checked) false ⟨#[], #[.agg #[.bool false, .slice none 0 0, .slice none 0 0, .int .u64 0]], []⟩ 8 (by kernel_rfl) (by kernel_rfl) (by kernel_rfl) (by kernel_rfl)) ?_
  intro W base args ds gs before hval0 hW hcnd _
  have hval : ∀ (j : Nat) t v, Try.f4.params[j]? = some t → args[j]? = some v → Value.okWide Try.prog W .any base t v := hval0
  have hW' := hW
  obtain ⟨p, q, hA0, hV, rfl, hfz, hnd⟩ := hW
  have hA : DataW.TrodAll enc Try.prog W 0 (fun _ => true) true Try.f4.params.toList args.toList ds p := hA0
  rw [Try.params4] at hA hval
  obtain ⟨v0, vs0, d0, ds0, p0, q0, hargs, rfl, rfl, h0, r0⟩ := trodAll_cons hA
  obtain ⟨rfl, rfl, rfl⟩ := trodAll_nil r0
  obtain rfl : args = #[v0] := by cases args; simp_all
  obtain ⟨rfl, rfl⟩ := trodVars_none hV
  have k0 := h0
  obtain ⟨x0, h0v, hN0, hk0, hks0, hvs0⟩ := open_node (e := 23) Try.underlying25 (by kernel_rfl) (by kernel_rfl) (by kernel_rfl) (by kernel_rfl) (by kernel_rfl) (by kernel_rfl) (by kernel_rfl) (by kernel_rfl) (hval 0 25 v0 rfl rfl) h0
  obtain rfl : v0 = ndV x0 := h0v
  clear hA0 hval0
  simp only [List.append_nil] at hW'
  have hlt0 : ∀ x ∈ p0, x.block < W.heap.size := fun x hx => by simpa using hW'.lt x (by simp [hx])
  refine (walk W x0 hN0 hk0 hks0 hvs0).mono fun e W' ⟨he, hg⟩ => ?_
  subst he
  exact ⟨_, rfl, post_of_below2 (pv := []) hW' (fun _ _ _ => (trodAll_cons_mk (shut_bool Try.underlying4 _) trodAll_mk0)) (trodAll_cons_mk (Below.trod laidOut (by kernel_rfl) (of_decide_eq_true (by kernel_rfl)) k0 hg hlt0) trodAll_mk0) rfl (by simp) (hg.frame _)⟩

theorem over : Rows.leafSplitsRow.holds Try.pinned (OpenSpec.ofChange Rows.leafSplitsSpec) :=
  OpenClaim.holds_of_wide 4 Try.f4 rfl rfl rfl rfl rfl rfl rfl ⟨rfl, rfl, rfl, rfl, rfl⟩ rfl rfl rfl rfl rfl (by kernel_rfl) Try.func4 (by kernel_rfl)
    (of_decide_eq_true (by kernel_rfl)) (by unfold Func.isWrapper; first | (rw [if_pos (by decide +kernel)]; kernel_rfl) | (rw [if_neg (by decide +kernel)]; exact ⟨rfl, rfl⟩))
    (fun os started H enc _ => lifted os started H enc)

theorem proved : Rows.LeafSplitsSaid :=
  over

#print axioms proved
end Go.Proofs.Ytahpdifneajblaa.leafSplits
