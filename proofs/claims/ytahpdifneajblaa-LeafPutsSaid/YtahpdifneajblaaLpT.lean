/- LeafPuts: a case. -/
import Derived.Test.YtahpdifneajblaaLpB
import Derived.Deep.RegionHeld3
namespace Go.Proofs.Ytahpdifneajblaa
set_option linter.unusedVariables false
open Go.RowKit
set_option maxRecDepth 100000 in
set_option maxHeartbeats 20000000 in
theorem lp_t (x : Nd) (q v : Nat) (l1 : x.ks.length ≤ 80) (l2 : x.vs.length ≤ 80) (hr : rightP x) (hq : hasB x.ks q = true) (w : World) (hN0 : NR w x) :
    Calls Try.prog 3 #[ndV x, .int .u64 (q : Nat), .int .u64 (v : Nat)] w fun e w' => e = .returned (.bool true) ∧ Below w.heap.size w w' := by
  have AW := Lib.hid awake12_any
  have SMa := Lib.hid (fun W' => small_any x W' (Nat.le_trans hN0.k.le hN0.k.max) (Nat.le_trans hN0.v.le hN0.v.max))
  have K0 := Lib.hid (PX.start w x hN0)
  rw [show decide (x.ks.length ≤ 80 ∧ x.vs.length ≤ 80) = true by simp [l1, l2]] at SMa
  have ra := hr.2.1
  have e0 := cnt_le x.ks q
  have e5 := ((has_at x.ks q hr.2.2).1 hq).1
  have FD0 := fun W' h => find_yes x q (by omega) hr W' h
  rw [hq] at FD0
  have FD := Lib.hid FD0
  have RF0 := fun W' h => rfind_any x q (by omega) W' h
  rw [hq] at RF0
  have RF := Lib.hid RF0
  have RR := Lib.hid (fun W' h => rright_any x (by omega) true (by simp [hr]) W' h)
  have RT := Lib.hid (fun W' h => right_any x (by omega) true (by simp [hr]) W' h)
  have PT := Lib.hid (fun W' h => put_there x q v (by omega) hr hq W' h)
  have DR := Lib.hid (fun W' h => drop_there x q (by omega) hr hq W' h)
  have RP := Lib.hid (fun W' h => rput_there x q v (by omega) hr hq W' h)
  have RD := Lib.hid (fun W' h => rdrop_there x q (by omega) hr hq W' h)
  have LM := Lib.hid (fun (z : Nd) (h1 : z.ks = cutL x.ks 0 (cnt x.ks q) ++ ([q] ++ cutL x.ks (cnt x.ks q + 1) x.ks.length)) (h2 : z.vs = cutL x.vs 0 (cnt x.ks q) ++ ([v] ++ cutL x.vs (cnt x.ks q + 1) x.ks.length)) => show z.ks.length ≤ 100000 ∧ z.vs.length ≤ 100000 by
    have u1 := cutL_le x.ks 0 (cnt x.ks q); have u2 := cutL_le x.ks (cnt x.ks q + 1) x.ks.length; have u3 := cutL_le x.vs 0 (cnt x.ks q); have u4 := cutL_le x.vs (cnt x.ks q + 1) x.ks.length
    rw [h1, h2]; simp only [List.length_append, List.length_cons, List.length_nil]; omega)
  have LN := Lib.hid (fun (z : Nd) (h1 : z.ks = cutL x.ks 0 (cnt x.ks q) ++ cutL x.ks (cnt x.ks q + 1) x.ks.length) (h2 : z.vs = cutL x.vs 0 (cnt x.ks q) ++ cutL x.vs (cnt x.ks q + 1) x.ks.length) => show z.ks.length ≤ 100000 ∧ z.vs.length ≤ 100000 by
    have u1 := cutL_le x.ks 0 (cnt x.ks q); have u2 := cutL_le x.ks (cnt x.ks q + 1) x.ks.length; have u3 := cutL_le x.vs 0 (cnt x.ks q); have u4 := cutL_le x.vs (cnt x.ks q + 1) x.ks.length
    rw [h1, h2]; simp only [List.length_append]; omega)
  generalize cnt x.ks q = n0 at e0 e5 FD RF PT DR RP RD LM LN
  obtain ⟨kb, o, hA, qk⟩ := hN0.at2 n0 (by omega)
  have hkl := World.block_lt_of_cell? w _ qk
  generalize hkv : x.vs.getD n0 0 = kv at qk PT DR
  have KC := Lib.hid (fun W' (h : Below w.heap.size w W') => (h.cell (p := ⟨kb, o + n0, none⟩) hkl).trans qk)
  have hn1 : (n0 : Int) < (x.vs.length : Int) := by omega
  have hn0 : (0 : Int) ≤ (n0 : Int) := by omega
  have hmx : x.vs.length ≤ maxLen := by unfold maxLen; omega
  obtain ⟨inner, ks, vs, lk, A1, c1, A2, c2⟩ := x
  simp only at hA hn1 hmx
  subst hA
  clear hkv hkl qk e5
  clear FD0 RF0 hr hq ra e0 hN0 l1 l2
  have y1 : True := trivial
  have y2 : True := trivial
  go_enter Try.func3, Try.ntmps3
  go_wp2_with (first
    | (go_at_call 8; refine (SMa.out _).mono ?_; rintro e0 w1 ⟨rfl, hn⟩; have K1 := Lib.hid (K0.out.next hn); clear hn; have c0' := K1.out.n.c0; have c1' := K1.out.n.c1; have c2' := K1.out.n.c2; have c3' := K1.out.n.c3)
    | (go_at_call 10; refine (FD.out _ K1.out.xr).mono ?_; rintro e0 w2 ⟨rfl, hn⟩; have K2 := Lib.hid (K1.out.next hn); clear hn; clear c0' c1' c2' c3'; have c0' := K2.out.n.c0; have c1' := K2.out.n.c1; have c2' := K2.out.n.c2; have c3' := K2.out.n.c3)
    | (go_at_call 11; refine (PT.out _ K2.out.xr).mono ?_; rintro e0 w3 ⟨a, rfl, e1, e2, e3, e4, oy, hn⟩; have K3 := Lib.hid (PY.start (K2.out.next hn) oy.nr); have EA := Lib.hid (And.intro e1 (And.intro e2 (And.intro e3 e4))); clear e1 e2 e3 e4 oy; clear hn; clear c0' c1' c2' c3'; generalize hg5 : w3.heap.size = g5 at K3 ⊢; have c0' := K3.out.n.c0; have c1' := K3.out.n.c1; have c2' := K3.out.n.c2; have c3' := K3.out.n.c3)
    | (go_at_call 12; refine (DR.out _ K3.out.xr).mono ?_; rintro e0 w4 ⟨b, rfl, e1, e2, e3, e4, oy, hn⟩; have K4 := Lib.hid (PZ.start (K3.out.next hn) oy.nr); have EB := Lib.hid (And.intro e1 (And.intro e2 (And.intro e3 e4))); clear e1 e2 e3 e4 oy; clear hn; clear c0' c1' c2' c3'; generalize hg6 : w4.heap.size = g6 at K4 ⊢; have c0' := K4.out.n.c0; have c1' := K4.out.n.c1; have c2' := K4.out.n.c2; have c3' := K4.out.n.c3)
    | (go_at_call 13; refine (RR.out _ K4.out.xr).mono ?_; rintro e0 w5 ⟨rfl, hn⟩; have K5 := Lib.hid (K4.out.next hn); clear hn; clear c0' c1' c2' c3'; have c0' := K5.out.n.c0; have c1' := K5.out.n.c1; have c2' := K5.out.n.c2; have c3' := K5.out.n.c3)
    | (go_at_call 16; refine (RF.out _ K5.out.xr).mono ?_; rintro e0 w6 ⟨rfl, hn⟩; have K6 := Lib.hid (K5.out.next hn); clear hn; clear c0' c1' c2' c3'; have c2' := K6.out.n.c2; have kc' := KC.out _ K6.out.bl))
  have KA := Lib.hid (K6.out.next (Below.refl _ _).drew)
  clear c2' kc'
  have hs : (fun w' => w'.cell? ⟨w.heap.size, 0, none⟩ = some (.bool inner) ∧ w'.cell? ⟨w.heap.size, 1, none⟩ = some (.slice A1 ks.length c1) ∧ w'.cell? ⟨w.heap.size, 2, none⟩ = some (.slice (some ⟨kb, o, none⟩) vs.length c2) ∧ w'.cell? ⟨w.heap.size, 3, none⟩ = some (.int .u64 (lk : Nat)) ∧ w'.cell? ⟨g5, 0, none⟩ = some (.bool a.inner) ∧ w'.cell? ⟨g5, 1, none⟩ = some (.slice a.A1 a.ks.length a.c1) ∧ w'.cell? ⟨g5, 2, none⟩ = some (.slice a.A2 a.vs.length a.c2) ∧ w'.cell? ⟨g5, 3, none⟩ = some (.int .u64 (a.link : Nat)) ∧ w'.cell? ⟨g6, 0, none⟩ = some (.bool b.inner) ∧ w'.cell? ⟨g6, 1, none⟩ = some (.slice b.A1 b.ks.length b.c1) ∧ w'.cell? ⟨g6, 2, none⟩ = some (.slice b.A2 b.vs.length b.c2) ∧ w'.cell? ⟨g6, 3, none⟩ = some (.int .u64 (b.link : Nat)) ∧ PZ w (⟨inner, ks, vs, lk, A1, c1, some ⟨kb, o, none⟩, c2⟩ : Nd) g5 a g6 b w') _ := ⟨KA.out.n.c0, KA.out.n.c1, KA.out.n.c2, KA.out.n.c3, KA.out.na.c0, KA.out.na.c1, KA.out.na.c2, KA.out.na.c3, KA.out.nb.c0, KA.out.nb.c1, KA.out.nb.c2, KA.out.nb.c3, KA.out⟩
  go_region_held3 (fun w' => w'.cell? ⟨w.heap.size, 0, none⟩ = some (.bool inner) ∧ w'.cell? ⟨w.heap.size, 1, none⟩ = some (.slice A1 ks.length c1) ∧ w'.cell? ⟨w.heap.size, 2, none⟩ = some (.slice (some ⟨kb, o, none⟩) vs.length c2) ∧ w'.cell? ⟨w.heap.size, 3, none⟩ = some (.int .u64 (lk : Nat)) ∧ w'.cell? ⟨g5, 0, none⟩ = some (.bool a.inner) ∧ w'.cell? ⟨g5, 1, none⟩ = some (.slice a.A1 a.ks.length a.c1) ∧ w'.cell? ⟨g5, 2, none⟩ = some (.slice a.A2 a.vs.length a.c2) ∧ w'.cell? ⟨g5, 3, none⟩ = some (.int .u64 (a.link : Nat)) ∧ w'.cell? ⟨g6, 0, none⟩ = some (.bool b.inner) ∧ w'.cell? ⟨g6, 1, none⟩ = some (.slice b.A1 b.ks.length b.c1) ∧ w'.cell? ⟨g6, 2, none⟩ = some (.slice b.A2 b.vs.length b.c2) ∧ w'.cell? ⟨g6, 3, none⟩ = some (.int .u64 (b.link : Nat)) ∧ PZ w (⟨inner, ks, vs, lk, A1, c1, some ⟨kb, o, none⟩, c2⟩ : Nd) g5 a g6 b w') (first | with_reducible exact hs | exact hs)
    (first
    | (go_at_call 14; refine (RT.out _ KA.out.xr).mono ?_; rintro e0 wa ⟨rfl, hn⟩; have KB := Lib.hid (KA.out.next hn); have hs : (fun w' => w'.cell? ⟨w.heap.size, 0, none⟩ = some (.bool inner) ∧ w'.cell? ⟨w.heap.size, 1, none⟩ = some (.slice A1 ks.length c1) ∧ w'.cell? ⟨w.heap.size, 2, none⟩ = some (.slice (some ⟨kb, o, none⟩) vs.length c2) ∧ w'.cell? ⟨w.heap.size, 3, none⟩ = some (.int .u64 (lk : Nat)) ∧ w'.cell? ⟨g5, 0, none⟩ = some (.bool a.inner) ∧ w'.cell? ⟨g5, 1, none⟩ = some (.slice a.A1 a.ks.length a.c1) ∧ w'.cell? ⟨g5, 2, none⟩ = some (.slice a.A2 a.vs.length a.c2) ∧ w'.cell? ⟨g5, 3, none⟩ = some (.int .u64 (a.link : Nat)) ∧ w'.cell? ⟨g6, 0, none⟩ = some (.bool b.inner) ∧ w'.cell? ⟨g6, 1, none⟩ = some (.slice b.A1 b.ks.length b.c1) ∧ w'.cell? ⟨g6, 2, none⟩ = some (.slice b.A2 b.vs.length b.c2) ∧ w'.cell? ⟨g6, 3, none⟩ = some (.int .u64 (b.link : Nat)) ∧ PZ w (⟨inner, ks, vs, lk, A1, c1, some ⟨kb, o, none⟩, c2⟩ : Nd) g5 a g6 b w') _ := ⟨KB.out.n.c0, KB.out.n.c1, KB.out.n.c2, KB.out.n.c3, KB.out.na.c0, KB.out.na.c1, KB.out.na.c2, KB.out.na.c3, KB.out.nb.c0, KB.out.nb.c1, KB.out.nb.c2, KB.out.nb.c3, KB.out⟩; clear hn)
    | (go_at_call 17; refine (RP.out _ KB.out.xr).mono ?_; rintro e0 wb ⟨y1n, rfl, e1, e2, e3, e4, oy, hn⟩; have KC1 := Lib.hid (KB.out.next hn); have hs : (fun w' => w'.cell? ⟨w.heap.size, 0, none⟩ = some (.bool inner) ∧ w'.cell? ⟨w.heap.size, 1, none⟩ = some (.slice A1 ks.length c1) ∧ w'.cell? ⟨w.heap.size, 2, none⟩ = some (.slice (some ⟨kb, o, none⟩) vs.length c2) ∧ w'.cell? ⟨w.heap.size, 3, none⟩ = some (.int .u64 (lk : Nat)) ∧ w'.cell? ⟨g5, 0, none⟩ = some (.bool a.inner) ∧ w'.cell? ⟨g5, 1, none⟩ = some (.slice a.A1 a.ks.length a.c1) ∧ w'.cell? ⟨g5, 2, none⟩ = some (.slice a.A2 a.vs.length a.c2) ∧ w'.cell? ⟨g5, 3, none⟩ = some (.int .u64 (a.link : Nat)) ∧ w'.cell? ⟨g6, 0, none⟩ = some (.bool b.inner) ∧ w'.cell? ⟨g6, 1, none⟩ = some (.slice b.A1 b.ks.length b.c1) ∧ w'.cell? ⟨g6, 2, none⟩ = some (.slice b.A2 b.vs.length b.c2) ∧ w'.cell? ⟨g6, 3, none⟩ = some (.int .u64 (b.link : Nat)) ∧ PZ w (⟨inner, ks, vs, lk, A1, c1, some ⟨kb, o, none⟩, c2⟩ : Nd) g5 a g6 b w') _ := ⟨KC1.out.n.c0, KC1.out.n.c1, KC1.out.n.c2, KC1.out.n.c3, KC1.out.na.c0, KC1.out.na.c1, KC1.out.na.c2, KC1.out.na.c3, KC1.out.nb.c0, KC1.out.nb.c1, KC1.out.nb.c2, KC1.out.nb.c3, KC1.out⟩; have Y1 := Lib.hid (And.intro e1 (And.intro e2 (And.intro e3 (And.intro e4 oy.nr)))); clear hn e1 e2 e3 e4 oy)
    | (go_at_call 15; have _t := y1; refine (same_any a y1n (LM.out a EA.out.2.2.1 EA.out.2.2.2).1 (LM.out a EA.out.2.2.1 EA.out.2.2.2).2 (EA.out.1.trans Y1.out.1.symm) (EA.out.2.2.1.trans Y1.out.2.2.1.symm) (EA.out.2.2.2.trans Y1.out.2.2.2.1.symm) (EA.out.2.1.trans Y1.out.2.1.symm) _ KC1.out.ra Y1.out.2.2.2.2).mono ?_; rintro e0 wc ⟨rfl, hn⟩; clear y1; have KD := Lib.hid (KC1.out.next hn); have hs : (fun w' => w'.cell? ⟨w.heap.size, 0, none⟩ = some (.bool inner) ∧ w'.cell? ⟨w.heap.size, 1, none⟩ = some (.slice A1 ks.length c1) ∧ w'.cell? ⟨w.heap.size, 2, none⟩ = some (.slice (some ⟨kb, o, none⟩) vs.length c2) ∧ w'.cell? ⟨w.heap.size, 3, none⟩ = some (.int .u64 (lk : Nat)) ∧ w'.cell? ⟨g5, 0, none⟩ = some (.bool a.inner) ∧ w'.cell? ⟨g5, 1, none⟩ = some (.slice a.A1 a.ks.length a.c1) ∧ w'.cell? ⟨g5, 2, none⟩ = some (.slice a.A2 a.vs.length a.c2) ∧ w'.cell? ⟨g5, 3, none⟩ = some (.int .u64 (a.link : Nat)) ∧ w'.cell? ⟨g6, 0, none⟩ = some (.bool b.inner) ∧ w'.cell? ⟨g6, 1, none⟩ = some (.slice b.A1 b.ks.length b.c1) ∧ w'.cell? ⟨g6, 2, none⟩ = some (.slice b.A2 b.vs.length b.c2) ∧ w'.cell? ⟨g6, 3, none⟩ = some (.int .u64 (b.link : Nat)) ∧ PZ w (⟨inner, ks, vs, lk, A1, c1, some ⟨kb, o, none⟩, c2⟩ : Nd) g5 a g6 b w') _ := ⟨KD.out.n.c0, KD.out.n.c1, KD.out.n.c2, KD.out.n.c3, KD.out.na.c0, KD.out.na.c1, KD.out.na.c2, KD.out.na.c3, KD.out.nb.c0, KD.out.nb.c1, KD.out.nb.c2, KD.out.nb.c3, KD.out⟩; clear hn)
    | (go_at_call 18; refine (RD.out _ KD.out.xr).mono ?_; rintro e0 wd ⟨y2n, rfl, e1, e2, e3, e4, oy, hn⟩; have KE := Lib.hid (KD.out.next hn); have hs : (fun w' => w'.cell? ⟨w.heap.size, 0, none⟩ = some (.bool inner) ∧ w'.cell? ⟨w.heap.size, 1, none⟩ = some (.slice A1 ks.length c1) ∧ w'.cell? ⟨w.heap.size, 2, none⟩ = some (.slice (some ⟨kb, o, none⟩) vs.length c2) ∧ w'.cell? ⟨w.heap.size, 3, none⟩ = some (.int .u64 (lk : Nat)) ∧ w'.cell? ⟨g5, 0, none⟩ = some (.bool a.inner) ∧ w'.cell? ⟨g5, 1, none⟩ = some (.slice a.A1 a.ks.length a.c1) ∧ w'.cell? ⟨g5, 2, none⟩ = some (.slice a.A2 a.vs.length a.c2) ∧ w'.cell? ⟨g5, 3, none⟩ = some (.int .u64 (a.link : Nat)) ∧ w'.cell? ⟨g6, 0, none⟩ = some (.bool b.inner) ∧ w'.cell? ⟨g6, 1, none⟩ = some (.slice b.A1 b.ks.length b.c1) ∧ w'.cell? ⟨g6, 2, none⟩ = some (.slice b.A2 b.vs.length b.c2) ∧ w'.cell? ⟨g6, 3, none⟩ = some (.int .u64 (b.link : Nat)) ∧ PZ w (⟨inner, ks, vs, lk, A1, c1, some ⟨kb, o, none⟩, c2⟩ : Nd) g5 a g6 b w') _ := ⟨KE.out.n.c0, KE.out.n.c1, KE.out.n.c2, KE.out.n.c3, KE.out.na.c0, KE.out.na.c1, KE.out.na.c2, KE.out.na.c3, KE.out.nb.c0, KE.out.nb.c1, KE.out.nb.c2, KE.out.nb.c3, KE.out⟩; have Y2 := Lib.hid (And.intro e1 (And.intro e2 (And.intro e3 (And.intro e4 oy.nr)))); clear hn e1 e2 e3 e4 oy)
    | (go_at_call 15; have _t := y2; refine (same_any b y2n (LN.out b EB.out.2.2.1 EB.out.2.2.2).1 (LN.out b EB.out.2.2.1 EB.out.2.2.2).2 (EB.out.1.trans Y2.out.1.symm) (EB.out.2.2.1.trans Y2.out.2.2.1.symm) (EB.out.2.2.2.trans Y2.out.2.2.2.1.symm) (EB.out.2.1.trans Y2.out.2.1.symm) _ KE.out.rb Y2.out.2.2.2.2).mono ?_; rintro e0 we ⟨rfl, hn⟩; clear y2; have KF := Lib.hid (KE.out.next hn); have hs : (fun w' => w'.cell? ⟨w.heap.size, 0, none⟩ = some (.bool inner) ∧ w'.cell? ⟨w.heap.size, 1, none⟩ = some (.slice A1 ks.length c1) ∧ w'.cell? ⟨w.heap.size, 2, none⟩ = some (.slice (some ⟨kb, o, none⟩) vs.length c2) ∧ w'.cell? ⟨w.heap.size, 3, none⟩ = some (.int .u64 (lk : Nat)) ∧ w'.cell? ⟨g5, 0, none⟩ = some (.bool a.inner) ∧ w'.cell? ⟨g5, 1, none⟩ = some (.slice a.A1 a.ks.length a.c1) ∧ w'.cell? ⟨g5, 2, none⟩ = some (.slice a.A2 a.vs.length a.c2) ∧ w'.cell? ⟨g5, 3, none⟩ = some (.int .u64 (a.link : Nat)) ∧ w'.cell? ⟨g6, 0, none⟩ = some (.bool b.inner) ∧ w'.cell? ⟨g6, 1, none⟩ = some (.slice b.A1 b.ks.length b.c1) ∧ w'.cell? ⟨g6, 2, none⟩ = some (.slice b.A2 b.vs.length b.c2) ∧ w'.cell? ⟨g6, 3, none⟩ = some (.int .u64 (b.link : Nat)) ∧ PZ w (⟨inner, ks, vs, lk, A1, c1, some ⟨kb, o, none⟩, c2⟩ : Nd) g5 a g6 b w') _ := ⟨KF.out.n.c0, KF.out.n.c1, KF.out.n.c2, KF.out.n.c3, KF.out.na.c0, KF.out.na.c1, KF.out.na.c2, KF.out.na.c3, KF.out.nb.c0, KF.out.nb.c1, KF.out.nb.c2, KF.out.nb.c3, KF.out⟩; clear hn)
    | (go_at_call 9; refine (AW.out _).mono ?_; rintro e0 wf ⟨rfl, hn⟩; have KG := Lib.hid (KF.out.next hn); have hs : (fun w' => w'.cell? ⟨w.heap.size, 0, none⟩ = some (.bool inner) ∧ w'.cell? ⟨w.heap.size, 1, none⟩ = some (.slice A1 ks.length c1) ∧ w'.cell? ⟨w.heap.size, 2, none⟩ = some (.slice (some ⟨kb, o, none⟩) vs.length c2) ∧ w'.cell? ⟨w.heap.size, 3, none⟩ = some (.int .u64 (lk : Nat)) ∧ w'.cell? ⟨g5, 0, none⟩ = some (.bool a.inner) ∧ w'.cell? ⟨g5, 1, none⟩ = some (.slice a.A1 a.ks.length a.c1) ∧ w'.cell? ⟨g5, 2, none⟩ = some (.slice a.A2 a.vs.length a.c2) ∧ w'.cell? ⟨g5, 3, none⟩ = some (.int .u64 (a.link : Nat)) ∧ w'.cell? ⟨g6, 0, none⟩ = some (.bool b.inner) ∧ w'.cell? ⟨g6, 1, none⟩ = some (.slice b.A1 b.ks.length b.c1) ∧ w'.cell? ⟨g6, 2, none⟩ = some (.slice b.A2 b.vs.length b.c2) ∧ w'.cell? ⟨g6, 3, none⟩ = some (.int .u64 (b.link : Nat)) ∧ PZ w (⟨inner, ks, vs, lk, A1, c1, some ⟨kb, o, none⟩, c2⟩ : Nd) g5 a g6 b w') _ := ⟨KG.out.n.c0, KG.out.n.c1, KG.out.n.c2, KG.out.n.c3, KG.out.na.c0, KG.out.na.c1, KG.out.na.c2, KG.out.na.c3, KG.out.nb.c0, KG.out.nb.c1, KG.out.nb.c2, KG.out.nb.c3, KG.out⟩; clear hn))
  all_goals (
    clear hs
    go_wp2
    go_ret
    exact ⟨rfl, KG.out.bl⟩)
end Go.Proofs.Ytahpdifneajblaa
