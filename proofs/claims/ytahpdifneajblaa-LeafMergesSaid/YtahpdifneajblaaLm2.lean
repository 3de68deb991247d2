/- LeafMerges: a case. -/
import Derived.Test.YtahpdifneajblaaLeaf12
namespace Go.Proofs.Ytahpdifneajblaa
set_option linter.unusedVariables false
open Go.RowKit
set_option maxRecDepth 100000 in
set_option maxHeartbeats 20000000 in
theorem lm_n2 (a b : Nd) (l1 : a.ks.length ≤ 80) (l2 : a.vs.length ≤ 80) (l3 : b.ks.length ≤ 80) (l4 : b.vs.length ≤ 80) (ha : rightP a) (hb : ¬ rightP b) (w : World) (hN0 : NR w a) (hN1 : NR w b) :
    Calls Try.prog 5 #[ndV a, ndV b] w fun e w' => e = .returned (.bool true) ∧ Below w.heap.size w w' := by
  have AW := Lib.hid awake12_any
  have SMa := Lib.hid (fun W' => small_any a W' (Nat.le_trans hN0.k.le hN0.k.max) (Nat.le_trans hN0.v.le hN0.v.max))
  have SMb := Lib.hid (fun W' => small_any b W' (Nat.le_trans hN1.k.le hN1.k.max) (Nat.le_trans hN1.v.le hN1.v.max))
  have K0 := Lib.hid (F2.start w a b hN0 hN1)
  rw [show decide (a.ks.length ≤ 80 ∧ a.vs.length ≤ 80) = true by simp [l1, l2]] at SMa
  rw [show decide (b.ks.length ≤ 80 ∧ b.vs.length ≤ 80) = true by simp [l3, l4]] at SMb
  have MG := Lib.hid (fun W' h h' => merge_any a b (by omega) (by omega) (by omega) (by omega) W' h h')
  have FR := Lib.hid (fun W' h h' => fromRight_any a b (by omega) (by omega) (by omega) (by omega) W' h h')
  have FL := Lib.hid (fun W' h h' => fromLeft_any a b (by omega) (by omega) (by omega) (by omega) W' h h')
  have LL := Lib.hid (And.intro l1 (And.intro l2 (And.intro l3 l4)))
  have HNO := Lib.hid (show ¬ folP a b from fun hh => hb hh.2.1)
  have RA := Lib.hid (fun W' h => rright_any a (by omega) true (by simp [ha]) W' h)
  have RB := Lib.hid (fun W' h => rright_any b (by omega) false (by simp [hb]) W' h)
  clear ha hb hN0 hN1 l1 l2 l3 l4
  have s1 : True := trivial
  have s2 : True := trivial
  have r1 : True := trivial
  have r2 : True := trivial
  have r3 : True := trivial
  have y1 : True := trivial
  have y2 : True := trivial
  have y3 : True := trivial
  have y4 : True := trivial
  have y5 : True := trivial
  go_enter Try.func5, Try.ntmps5
  go_wp2_with (first
    | (go_at_call 8; have _t := s1; refine (SMa.out _).mono ?_; rintro e0 w1 ⟨rfl, hn⟩; clear s1; have K1 := Lib.hid (K0.out.next hn); clear hn; have b0' := K1.out.nb.c0; have b1' := K1.out.nb.c1; have b2' := K1.out.nb.c2; have b3' := K1.out.nb.c3)
    | (go_at_call 8; have _t := s2; refine (SMb.out _).mono ?_; rintro e0 w2 ⟨rfl, hn⟩; clear s2; have K2 := Lib.hid (K1.out.next hn); clear hn; clear b0' b1' b2' b3'; have a0' := K2.out.na.c0; have a1' := K2.out.na.c1; have a2' := K2.out.na.c2; have a3' := K2.out.na.c3; have b0' := K2.out.nb.c0; have b1' := K2.out.nb.c1; have b2' := K2.out.nb.c2; have b3' := K2.out.nb.c3)
    | (go_at_call 21; refine (MG.out _ K2.out.ra K2.out.rb).mono ?_; rintro e0 w3 ⟨m, rfl, hm, rm, hn⟩; have K3 := Lib.hid (M5.start (K2.out.next hn) rm); have ZM := Lib.hid (hm.2 HNO.out); clear hn rm hm; clear a0' a1' a2' a3' b0' b1' b2' b3'; generalize hg5 : w3.heap.size = g5 at K3 ⊢; have a0' := K3.out.na.c0; have a1' := K3.out.na.c1; have a2' := K3.out.na.c2; have a3' := K3.out.na.c3; have b0' := K3.out.nb.c0; have b1' := K3.out.nb.c1; have b2' := K3.out.nb.c2; have b3' := K3.out.nb.c3)
    | (go_at_call 22; refine (FR.out _ K3.out.ra K3.out.rb).mono ?_; rintro e0 w4 ⟨c, d, k, rfl, hc, rc, rd, hn⟩; have K4 := Lib.hid (M7.start (K3.out.next hn) rc rd); obtain ⟨z1, z2, z3⟩ := hc.2 (fun hh => HNO.out hh.1); subst z3; have ZC := Lib.hid z1; have ZD := Lib.hid z2; clear hc z1 z2; clear hn rc rd; clear a0' a1' a2' a3' b0' b1' b2' b3'; generalize hg6 : w4.heap.size = g6 at K4 ⊢; have a0' := K4.out.na.c0; have a1' := K4.out.na.c1; have a2' := K4.out.na.c2; have a3' := K4.out.na.c3; have b0' := K4.out.nb.c0; have b1' := K4.out.nb.c1; have b2' := K4.out.nb.c2; have b3' := K4.out.nb.c3)
    | (go_at_call 23; refine (FL.out _ K4.out.ra K4.out.rb).mono ?_; rintro e0 w5 ⟨e, f, h, rfl, hf, re, rf, hn⟩; have K5 := Lib.hid (MS.start (K4.out.next hn) re rf); obtain ⟨z1, z2, z3⟩ := hf.2 (fun hh => HNO.out hh.1); subst z3; have ZE := Lib.hid z1; have ZF := Lib.hid z2; clear hf z1 z2; clear hn re rf; clear a0' a1' a2' a3' b0' b1' b2' b3'; generalize hg9 : w5.heap.size = g9 at K5 ⊢; have a0' := K5.out.na.c0; have a1' := K5.out.na.c1; have a2' := K5.out.na.c2; have a3' := K5.out.na.c3)
    | (go_at_call 13; have _t := r1; refine (RA.out _ K5.out.ra).mono ?_; rintro e0 w6 ⟨rfl, hn⟩; clear r1; have K6 := Lib.hid (K5.out.next hn); clear hn; clear a0' a1' a2' a3'; have b0' := K6.out.nb.c0; have b1' := K6.out.nb.c1; have b2' := K6.out.nb.c2; have b3' := K6.out.nb.c3)
    | (go_at_call 13; have _t := r2; refine (RB.out _ K6.out.rb).mono ?_; rintro e0 w7 ⟨rfl, hn⟩; clear r2; have K7 := Lib.hid (K6.out.next hn); clear hn; clear b0' b1' b2' b3'; have m0' := K7.out.nm.c0; have m1' := K7.out.nm.c1; have m2' := K7.out.nm.c2; have m3' := K7.out.nm.c3)
    | (go_at_call 15; have _t := y1; refine (zsame m ZM.out _).mono ?_; rintro e0 wa ⟨rfl, hn⟩; clear y1; have Ka := Lib.hid (K7.out.next hn); clear hn; clear m0' m1' m2' m3'; have c0' := Ka.out.nc.c0; have c1' := Ka.out.nc.c1; have c2' := Ka.out.nc.c2; have c3' := Ka.out.nc.c3; have d0' := Ka.out.nd.c0; have d1' := Ka.out.nd.c1; have d2' := Ka.out.nd.c2; have d3' := Ka.out.nd.c3)
    | (go_at_call 15; have _t := y2; refine (zsame2 c d ZC.out ZD.out _).mono ?_; rintro e0 wb ⟨rfl, hn⟩; clear y2; have Kb := Lib.hid (Ka.out.next hn); clear hn; clear c0' c1' c2' c3' d0' d1' d2' d3'; have e0' := Kb.out.ne.c0; have e1' := Kb.out.ne.c1; have e2' := Kb.out.ne.c2; have e3' := Kb.out.ne.c3; have f0' := Kb.out.nf.c0; have f1' := Kb.out.nf.c1; have f2' := Kb.out.nf.c2; have f3' := Kb.out.nf.c3)
    | (go_at_call 15; have _t := y3; refine (zsame2 e f ZE.out ZF.out _).mono ?_; rintro e0 wc ⟨rfl, hn⟩; clear y3; have Kc := Lib.hid (Kb.out.next hn); clear hn; clear e0' e1' e2' e3' f0' f1' f2' f3'; have c0' := Kc.out.nc.c0; have c1' := Kc.out.nc.c1; have c2' := Kc.out.nc.c2; have c3' := Kc.out.nc.c3)
    | (go_at_call 15; have _t := y4; refine (zsame c ZC.out _).mono ?_; rintro e0 wd ⟨rfl, hn⟩; clear y4; have Kd := Lib.hid (Kc.out.next hn); clear hn; clear c0' c1' c2' c3'; have e0' := Kd.out.ne.c0; have e1' := Kd.out.ne.c1; have e2' := Kd.out.ne.c2; have e3' := Kd.out.ne.c3)
    | (go_at_call 15; have _t := y5; refine (zsame e ZE.out _).mono ?_; rintro e0 we ⟨rfl, hn⟩; clear y5; have Ke := Lib.hid (Kd.out.next hn); clear hn; clear e0' e1' e2' e3'; skip)
    | (go_at_call 9; refine (AW.out _).mono ?_; rintro e0 wf ⟨rfl, hn⟩; have Kf := Lib.hid (Ke.out.next hn); clear hn; skip; skip))
  go_ret
  exact ⟨rfl, Kf.out.bl⟩
end Go.Proofs.Ytahpdifneajblaa
