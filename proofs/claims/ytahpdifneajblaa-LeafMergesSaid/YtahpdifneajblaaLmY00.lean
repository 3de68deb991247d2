/- LeafMerges: a case. -/
import Derived.Test.YtahpdifneajblaaLm0
import Derived.Deep.RegionHeld3
namespace Go.Proofs.Ytahpdifneajblaa
set_option linter.unusedVariables false
open Go.RowKit
set_option maxRecDepth 100000 in
set_option maxHeartbeats 20000000 in
theorem lm_y00 (a b : Nd) (l1 : a.ks.length ≤ 80) (l2 : a.vs.length ≤ 80) (l3 : b.ks.length ≤ 80) (l4 : b.vs.length ≤ 80) (hfo : folP a b) (hnb : ¬ 2 ≤ b.ks.length) (hna : ¬ 1 ≤ a.ks.length) (w : World) (hN0 : NR w a) (hN1 : NR w b) :
    Calls Try.prog 5 #[ndV a, ndV b] w fun e w' => e = .returned (.bool true) ∧ Below w.heap.size w w' := by
  have AW := Lib.hid awake12_any
  have SMa := Lib.hid (fun W' => small_any a W' (Nat.le_trans hN0.k.le hN0.k.max) (Nat.le_trans hN0.v.le hN0.v.max))
  have SMb := Lib.hid (fun W' => small_any b W' (Nat.le_trans hN1.k.le hN1.k.max) (Nat.le_trans hN1.v.le hN1.v.max))
  have K0 := Lib.hid (F2.start w a b hN0 hN1)
  rw [show decide (a.ks.length ≤ 80 ∧ a.vs.length ≤ 80) = true by simp [l1, l2]] at SMa
  rw [show decide (b.ks.length ≤ 80 ∧ b.vs.length ≤ 80) = true by simp [l3, l4]] at SMb
  have MG := Lib.hid (fun W' h h' => merge_any a b (by omega) (by omega) (by omega) (by omega) W' h h')
  have FR := Lib.hid (fun W' h h' => fromRight_any a b (by omega) (by omega) (by omega) (by omega) W' h h')
  have FL := Lib.hid (fun W' h h' => fromLeft_any a b (by omega) (by omega) (by omega) (by omega) W' h h')
  have LL := Lib.hid (And.intro l1 (And.intro l2 (And.intro l3 l4)))
  have ra := hfo.1
  have rb := hfo.2.1
  have RA := Lib.hid (fun W' h => rright_any a (by omega) true (by simp [ra]) W' h)
  have RB := Lib.hid (fun W' h => rright_any b (by omega) true (by simp [rb]) W' h)
  have JN := Lib.hid (fun W' (h : NR W' a) (h' : NR W' b) => rjoin_0 a b ra.2.1 rb.2.1 (by omega) (by omega) W' h h')
  have JL := Lib.hid (fun W' (h : NR W' a) (h' : NR W' b) => rjoin_any a b b.link ra.2.1 rb.2.1 (by omega) (by omega) W' h h')
  have RJ := Lib.hid (fun (z : Nd) (hz : z.inner = false) (h1 : z.ks = a.ks ++ b.ks) (h2 : z.vs = a.vs ++ b.vs) W' h => rright_any z (by rw [h1]; simp; omega) true (by simp only [true_iff]; exact ⟨hz, by rw [h1, h2]; simp [ra.2.1, rb.2.1], by rw [h1]; exact hfo.2.2⟩) W' h)
  have HFO := Lib.hid hfo
  have EA := Lib.hid ra.2.1
  have EB := Lib.hid rb.2.1
  have HB := Lib.hid hnb
  have HA := Lib.hid hna
  have LM := Lib.hid (fun (z : Nd) (h1 : z.ks = a.ks ++ b.ks) (h2 : z.vs = a.vs ++ b.vs) => show z.ks.length ≤ 100000 ∧ z.vs.length ≤ 100000 by rw [h1, h2]; simp; omega)
  have hmxa : a.ks.length ≤ maxLen := by unfold maxLen; omega
  have hmxb : b.ks.length ≤ maxLen := by unfold maxLen; omega
  have hnbd : decide ((b.ks.length : Int) < 2) = true := by simp; omega
  have hnbl : (b.ks.length : Int) < 2 := by omega
  have hnad : decide ((a.ks.length : Int) < 1) = true := by simp; omega
  have hnal : (a.ks.length : Int) < 1 := by omega
  clear hfo hnb hna ra rb l1 l2 l3 l4 hN0 hN1
  have x1 : True := trivial
  have x2 : True := trivial
  have x3 : True := trivial
  have x4 : True := trivial
  have x5 : True := trivial
  have y2' : True := trivial
  have s1 : True := trivial
  have s2 : True := trivial
  have r1 : True := trivial
  have r2 : True := trivial
  have r3 : True := trivial
  have y1 : True := trivial
  have y2 : True := trivial
  have y3 : True := trivial
  have y4 : True := trivial
  have y5 : True := trivial
  go_enter Try.func5, Try.ntmps5
  go_wp2_with (first
    | (go_at_call 8; have _t := s1; refine (SMa.out _).mono ?_; rintro e0 w1 ⟨rfl, hn⟩; clear s1; have K1 := Lib.hid (K0.out.next hn); clear hn; have b0' := K1.out.nb.c0; have b1' := K1.out.nb.c1; have b2' := K1.out.nb.c2; have b3' := K1.out.nb.c3)
    | (go_at_call 8; have _t := s2; refine (SMb.out _).mono ?_; rintro e0 w2 ⟨rfl, hn⟩; clear s2; have K2 := Lib.hid (K1.out.next hn); clear hn; clear b0' b1' b2' b3'; have a0' := K2.out.na.c0; have a1' := K2.out.na.c1; have a2' := K2.out.na.c2; have a3' := K2.out.na.c3; have b0' := K2.out.nb.c0; have b1' := K2.out.nb.c1; have b2' := K2.out.nb.c2; have b3' := K2.out.nb.c3)
    | (go_at_call 21; refine (MG.out _ K2.out.ra K2.out.rb).mono ?_; rintro e0 w3 ⟨m, rfl, hm, rm, hn⟩; have K3 := Lib.hid (M5.start (K2.out.next hn) rm); have MM := Lib.hid (hm.1 HFO.out); clear hn rm hm; clear a0' a1' a2' a3' b0' b1' b2' b3'; generalize hg5 : w3.heap.size = g5 at K3 ⊢; have a0' := K3.out.na.c0; have a1' := K3.out.na.c1; have a2' := K3.out.na.c2; have a3' := K3.out.na.c3; have b0' := K3.out.nb.c0; have b1' := K3.out.nb.c1; have b2' := K3.out.nb.c2; have b3' := K3.out.nb.c3)
    | (go_at_call 22; refine (FR.out _ K3.out.ra K3.out.rb).mono ?_; rintro e0 w4 ⟨c, d, k, rfl, hc, rc, rd, hn⟩; have K4 := Lib.hid (M7.start (K3.out.next hn) rc rd); obtain ⟨z1, z2, z3⟩ := hc.2 (fun hh => HB.out hh.2); subst z3; have ZC := Lib.hid z1; have ZD := Lib.hid z2; clear hc z1 z2; clear hn rc rd; clear a0' a1' a2' a3' b0' b1' b2' b3'; generalize hg6 : w4.heap.size = g6 at K4 ⊢; have a0' := K4.out.na.c0; have a1' := K4.out.na.c1; have a2' := K4.out.na.c2; have a3' := K4.out.na.c3; have b0' := K4.out.nb.c0; have b1' := K4.out.nb.c1; have b2' := K4.out.nb.c2; have b3' := K4.out.nb.c3)
    | (go_at_call 23; refine (FL.out _ K4.out.ra K4.out.rb).mono ?_; rintro e0 w5 ⟨e, f, h, rfl, hf, re, rf, hn⟩; have K5 := Lib.hid (MS.start (K4.out.next hn) re rf); obtain ⟨z1, z2, z3⟩ := hf.2 (fun hh => HA.out hh.2); subst z3; have ZE := Lib.hid z1; have ZF := Lib.hid z2; clear hf z1 z2; clear hn re rf; clear a0' a1' a2' a3' b0' b1' b2' b3'; generalize hg9 : w5.heap.size = g9 at K5 ⊢; have a0' := K5.out.na.c0; have a1' := K5.out.na.c1; have a2' := K5.out.na.c2; have a3' := K5.out.na.c3)
    | (go_at_call 13; have _t := r1; refine (RA.out _ K5.out.ra).mono ?_; rintro e0 w6 ⟨rfl, hn⟩; clear r1; have K6 := Lib.hid (K5.out.next hn); clear hn; clear a0' a1' a2' a3'; have b0' := K6.out.nb.c0; have b1' := K6.out.nb.c1; have b2' := K6.out.nb.c2; have b3' := K6.out.nb.c3)
    | (go_at_call 13; have _t := r2; refine (RB.out _ K6.out.rb).mono ?_; rintro e0 w7 ⟨rfl, hn⟩; clear r2; have K7 := Lib.hid (K6.out.next hn); clear hn; clear b0' b1' b2' b3'; have a0' := K7.out.na.c0; have a1' := K7.out.na.c1; have a2' := K7.out.na.c2; have a3' := K7.out.na.c3; have b0' := K7.out.nb.c0; have b1' := K7.out.nb.c1; have b2' := K7.out.nb.c2; have b3' := K7.out.nb.c3)
    | (go_at_call 24; refine (JN.out _ K7.out.ra K7.out.rb).mono ?_; rintro e0 w8 ⟨y, rfl, e1, e2, e3, e4, oy, hn⟩; have K8 := Lib.hid (K7.out.next hn); have RY := Lib.hid (RJ.out y e1 e3 e4 _ oy.nr); clear e1 e2 e3 e4 oy; clear hn; clear a0' a1' a2' a3' b0' b1' b2' b3'; skip)
    | (go_at_call 13; have _t := r3; refine (RY.out).mono ?_; rintro e0 w9 ⟨rfl, hn⟩; clear r3; have K9 := Lib.hid (K8.out.next hn); clear hn; skip; skip))
  have KA := Lib.hid (K9.out.next (Below.refl _ _).drew)
  have hs : (fun w' => w'.cell? ⟨w.heap.size, 0, none⟩ = some (.bool a.inner) ∧ w'.cell? ⟨w.heap.size, 1, none⟩ = some (.slice a.A1 a.ks.length a.c1) ∧ w'.cell? ⟨w.heap.size, 2, none⟩ = some (.slice a.A2 a.vs.length a.c2) ∧ w'.cell? ⟨w.heap.size, 3, none⟩ = some (.int .u64 (a.link : Nat)) ∧ w'.cell? ⟨w.heap.size + 1, 0, none⟩ = some (.bool b.inner) ∧ w'.cell? ⟨w.heap.size + 1, 1, none⟩ = some (.slice b.A1 b.ks.length b.c1) ∧ w'.cell? ⟨w.heap.size + 1, 2, none⟩ = some (.slice b.A2 b.vs.length b.c2) ∧ w'.cell? ⟨w.heap.size + 1, 3, none⟩ = some (.int .u64 (b.link : Nat)) ∧ w'.cell? ⟨g5, 0, none⟩ = some (.bool m.inner) ∧ w'.cell? ⟨g5, 1, none⟩ = some (.slice m.A1 m.ks.length m.c1) ∧ w'.cell? ⟨g5, 2, none⟩ = some (.slice m.A2 m.vs.length m.c2) ∧ w'.cell? ⟨g5, 3, none⟩ = some (.int .u64 (m.link : Nat)) ∧ MS w a b g5 m g6 c d g9 e f w') _ := ⟨KA.out.na.c0, KA.out.na.c1, KA.out.na.c2, KA.out.na.c3, KA.out.nb.c0, KA.out.nb.c1, KA.out.nb.c2, KA.out.nb.c3, KA.out.nm.c0, KA.out.nm.c1, KA.out.nm.c2, KA.out.nm.c3, KA.out⟩
  go_region_held3 (fun w' => w'.cell? ⟨w.heap.size, 0, none⟩ = some (.bool a.inner) ∧ w'.cell? ⟨w.heap.size, 1, none⟩ = some (.slice a.A1 a.ks.length a.c1) ∧ w'.cell? ⟨w.heap.size, 2, none⟩ = some (.slice a.A2 a.vs.length a.c2) ∧ w'.cell? ⟨w.heap.size, 3, none⟩ = some (.int .u64 (a.link : Nat)) ∧ w'.cell? ⟨w.heap.size + 1, 0, none⟩ = some (.bool b.inner) ∧ w'.cell? ⟨w.heap.size + 1, 1, none⟩ = some (.slice b.A1 b.ks.length b.c1) ∧ w'.cell? ⟨w.heap.size + 1, 2, none⟩ = some (.slice b.A2 b.vs.length b.c2) ∧ w'.cell? ⟨w.heap.size + 1, 3, none⟩ = some (.int .u64 (b.link : Nat)) ∧ w'.cell? ⟨g5, 0, none⟩ = some (.bool m.inner) ∧ w'.cell? ⟨g5, 1, none⟩ = some (.slice m.A1 m.ks.length m.c1) ∧ w'.cell? ⟨g5, 2, none⟩ = some (.slice m.A2 m.vs.length m.c2) ∧ w'.cell? ⟨g5, 3, none⟩ = some (.int .u64 (m.link : Nat)) ∧ MS w a b g5 m g6 c d g9 e f w') (first | with_reducible exact hs | exact hs)
    (first
    | (go_at_call 24; refine (JL.out _ KA.out.ra KA.out.rb).mono ?_; rintro e0 wa ⟨y2, rfl, e1, e2, e3, e4, oy, hn⟩; have KB := Lib.hid (KA.out.next hn); have hs : (fun w' => w'.cell? ⟨w.heap.size, 0, none⟩ = some (.bool a.inner) ∧ w'.cell? ⟨w.heap.size, 1, none⟩ = some (.slice a.A1 a.ks.length a.c1) ∧ w'.cell? ⟨w.heap.size, 2, none⟩ = some (.slice a.A2 a.vs.length a.c2) ∧ w'.cell? ⟨w.heap.size, 3, none⟩ = some (.int .u64 (a.link : Nat)) ∧ w'.cell? ⟨w.heap.size + 1, 0, none⟩ = some (.bool b.inner) ∧ w'.cell? ⟨w.heap.size + 1, 1, none⟩ = some (.slice b.A1 b.ks.length b.c1) ∧ w'.cell? ⟨w.heap.size + 1, 2, none⟩ = some (.slice b.A2 b.vs.length b.c2) ∧ w'.cell? ⟨w.heap.size + 1, 3, none⟩ = some (.int .u64 (b.link : Nat)) ∧ w'.cell? ⟨g5, 0, none⟩ = some (.bool m.inner) ∧ w'.cell? ⟨g5, 1, none⟩ = some (.slice m.A1 m.ks.length m.c1) ∧ w'.cell? ⟨g5, 2, none⟩ = some (.slice m.A2 m.vs.length m.c2) ∧ w'.cell? ⟨g5, 3, none⟩ = some (.int .u64 (m.link : Nat)) ∧ MS w a b g5 m g6 c d g9 e f w') _ := ⟨KB.out.na.c0, KB.out.na.c1, KB.out.na.c2, KB.out.na.c3, KB.out.nb.c0, KB.out.nb.c1, KB.out.nb.c2, KB.out.nb.c3, KB.out.nm.c0, KB.out.nm.c1, KB.out.nm.c2, KB.out.nm.c3, KB.out⟩; have Y2 := Lib.hid (And.intro e1 (And.intro e2 (And.intro e3 (And.intro e4 oy.nr)))); clear hn e1 e2 e3 e4 oy)
    | (go_at_call 15; refine (same_any m y2 (LM.out m MM.out.2.2.1 MM.out.2.2.2).1 (LM.out m MM.out.2.2.1 MM.out.2.2.2).2 (MM.out.1.trans Y2.out.1.symm) (MM.out.2.2.1.trans Y2.out.2.2.1.symm) (MM.out.2.2.2.trans Y2.out.2.2.2.1.symm) (MM.out.2.1.trans Y2.out.2.1.symm) _ KB.out.rm Y2.out.2.2.2.2).mono ?_; rintro e0 wb ⟨rfl, hn⟩; have KC := Lib.hid (KB.out.next hn); have hs : (fun w' => w'.cell? ⟨w.heap.size, 0, none⟩ = some (.bool a.inner) ∧ w'.cell? ⟨w.heap.size, 1, none⟩ = some (.slice a.A1 a.ks.length a.c1) ∧ w'.cell? ⟨w.heap.size, 2, none⟩ = some (.slice a.A2 a.vs.length a.c2) ∧ w'.cell? ⟨w.heap.size, 3, none⟩ = some (.int .u64 (a.link : Nat)) ∧ w'.cell? ⟨w.heap.size + 1, 0, none⟩ = some (.bool b.inner) ∧ w'.cell? ⟨w.heap.size + 1, 1, none⟩ = some (.slice b.A1 b.ks.length b.c1) ∧ w'.cell? ⟨w.heap.size + 1, 2, none⟩ = some (.slice b.A2 b.vs.length b.c2) ∧ w'.cell? ⟨w.heap.size + 1, 3, none⟩ = some (.int .u64 (b.link : Nat)) ∧ w'.cell? ⟨g5, 0, none⟩ = some (.bool m.inner) ∧ w'.cell? ⟨g5, 1, none⟩ = some (.slice m.A1 m.ks.length m.c1) ∧ w'.cell? ⟨g5, 2, none⟩ = some (.slice m.A2 m.vs.length m.c2) ∧ w'.cell? ⟨g5, 3, none⟩ = some (.int .u64 (m.link : Nat)) ∧ MS w a b g5 m g6 c d g9 e f w') _ := ⟨KC.out.na.c0, KC.out.na.c1, KC.out.na.c2, KC.out.na.c3, KC.out.nb.c0, KC.out.nb.c1, KC.out.nb.c2, KC.out.nb.c3, KC.out.nm.c0, KC.out.nm.c1, KC.out.nm.c2, KC.out.nm.c3, KC.out⟩; clear hn))
  all_goals (
    clear hs
    have a1' := KC.out.na.c1
    have b1' := KC.out.nb.c1
    have c0' := KC.out.nc.c0; have c1' := KC.out.nc.c1; have c2' := KC.out.nc.c2; have c3' := KC.out.nc.c3
    go_wp2_with (first
    | (go_at_call 15; have _t := y1; refine (zsame c ZC.out _).mono ?_; rintro e0 wc ⟨rfl, hn⟩; clear y1; have KF := Lib.hid (KC.out.next hn); clear hn; clear c0' c1' c2' c3'; have d0' := KF.out.nd.c0; have d1' := KF.out.nd.c1; have d2' := KF.out.nd.c2; have d3' := KF.out.nd.c3)
    | (go_at_call 15; have _t := y2'; refine (zsame d ZD.out _).mono ?_; rintro e0 wd ⟨rfl, hn⟩; clear y2'; have KJ := Lib.hid (KF.out.next hn); clear hn; clear d0' d1' d2' d3'; have e0' := KJ.out.ne.c0; have e1' := KJ.out.ne.c1; have e2' := KJ.out.ne.c2; have e3' := KJ.out.ne.c3)
    | (go_at_call 15; have _t := x1; refine (zsame e ZE.out _).mono ?_; rintro e0 wh ⟨rfl, hn⟩; clear x1; have KK := Lib.hid (KJ.out.next hn); clear hn; clear e0' e1' e2' e3'; have f0' := KK.out.nf.c0; have f1' := KK.out.nf.c1; have f2' := KK.out.nf.c2; have f3' := KK.out.nf.c3)
    | (go_at_call 15; have _t := x2; refine (zsame f ZF.out _).mono ?_; rintro e0 wi ⟨rfl, hn⟩; clear x2; have KL := Lib.hid (KK.out.next hn); clear hn; clear f0' f1' f2' f3')
    | (go_at_call 9; refine (AW.out _).mono ?_; rintro e0 wj ⟨rfl, hn⟩; have KM := Lib.hid (KL.out.next hn); clear hn))
    go_ret
    exact ⟨rfl, KM.out.bl⟩)
end Go.Proofs.Ytahpdifneajblaa
