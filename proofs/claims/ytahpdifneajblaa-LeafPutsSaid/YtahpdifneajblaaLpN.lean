/- LeafPuts: a case. -/
import Derived.Test.YtahpdifneajblaaLpB
import Derived.Deep.RegionHeld3
namespace Go.Proofs.Ytahpdifneajblaa
set_option linter.unusedVariables false
open Go.RowKit
set_option maxRecDepth 100000 in
set_option maxHeartbeats 20000000 in
theorem lp_n (x : Nd) (q v : Nat) (l1 : x.ks.length ≤ 80) (l2 : x.vs.length ≤ 80) (hr : ¬ rightP x) (w : World) (hN0 : NR w x) :
    Calls Try.prog 3 #[ndV x, .int .u64 (q : Nat), .int .u64 (v : Nat)] w fun e w' => e = .returned (.bool true) ∧ Below w.heap.size w w' := by
  have AW := Lib.hid awake12_any
  have SMa := Lib.hid (fun W' => small_any x W' (Nat.le_trans hN0.k.le hN0.k.max) (Nat.le_trans hN0.v.le hN0.v.max))
  have K0 := Lib.hid (PX.start w x hN0)
  rw [show decide (x.ks.length ≤ 80 ∧ x.vs.length ≤ 80) = true by simp [l1, l2]] at SMa
  have FD := Lib.hid (fun W' h => find_no x q (by omega) hr W' h)
  have PT := Lib.hid (fun W' h => put_no2 x q v (by omega) hr W' h)
  have DR := Lib.hid (fun W' h => drop_no2 x q (by omega) hr W' h)
  have RR := Lib.hid (fun W' h => rright_any x (by omega) false (by simp [hr]) W' h)
  have RT := Lib.hid (fun W' h => right_any x (by omega) false (by simp [hr]) W' h)
  have y1 : True := trivial
  have y2 : True := trivial
  clear hr hN0 l1 l2
  go_enter Try.func3, Try.ntmps3
  go_wp2_with (first
    | (go_at_call 8; refine (SMa.out _).mono ?_; rintro e0 w1 ⟨rfl, hn⟩; have K1 := Lib.hid (K0.out.next hn); clear hn; have c0' := K1.out.n.c0; have c1' := K1.out.n.c1; have c2' := K1.out.n.c2; have c3' := K1.out.n.c3)
    | (go_at_call 10; refine (FD.out _ K1.out.xr).mono ?_; rintro e0 w2 ⟨rfl, hn⟩; have K2 := Lib.hid (K1.out.next hn); clear hn; clear c0' c1' c2' c3'; have c0' := K2.out.n.c0; have c1' := K2.out.n.c1; have c2' := K2.out.n.c2; have c3' := K2.out.n.c3)
    | (go_at_call 11; refine (PT.out _ K2.out.xr).mono ?_; rintro e0 w3 ⟨a, rfl, za, hn⟩; have K3 := Lib.hid (PY.start (K2.out.next hn) (zNR za _)); have ZA := Lib.hid za; clear hn za; clear c0' c1' c2' c3'; generalize hg5 : w3.heap.size = g5 at K3 ⊢; have c0' := K3.out.n.c0; have c1' := K3.out.n.c1; have c2' := K3.out.n.c2; have c3' := K3.out.n.c3)
    | (go_at_call 12; refine (DR.out _ K3.out.xr).mono ?_; rintro e0 w4 ⟨b, rfl, zb, hn⟩; have K4 := Lib.hid (PZ.start (K3.out.next hn) (zNR zb _)); have ZB := Lib.hid zb; clear hn zb; clear c0' c1' c2' c3'; generalize hg6 : w4.heap.size = g6 at K4 ⊢; have c0' := K4.out.n.c0; have c1' := K4.out.n.c1; have c2' := K4.out.n.c2; have c3' := K4.out.n.c3)
    | (go_at_call 13; refine (RR.out _ K4.out.xr).mono ?_; rintro e0 w5 ⟨rfl, hn⟩; have K5 := Lib.hid (K4.out.next hn); clear hn; clear c0' c1' c2' c3'; have c0' := K5.out.n.c0; have c1' := K5.out.n.c1; have c2' := K5.out.n.c2; have c3' := K5.out.n.c3)
    | (go_at_call 14; refine (RT.out _ K5.out.xr).mono ?_; rintro e0 w6 ⟨rfl, hn⟩; have K6 := Lib.hid (K5.out.next hn); clear hn; clear c0' c1' c2' c3'; have a0' := K6.out.na.c0; have a1' := K6.out.na.c1; have a2' := K6.out.na.c2; have a3' := K6.out.na.c3)
    | (go_at_call 15; have _t := y1; refine (zsame a ZA.out _).mono ?_; rintro e0 w7 ⟨rfl, hn⟩; clear y1; have K7 := Lib.hid (K6.out.next hn); clear hn; clear a0' a1' a2' a3'; have b0' := K7.out.nb.c0; have b1' := K7.out.nb.c1; have b2' := K7.out.nb.c2; have b3' := K7.out.nb.c3)
    | (go_at_call 15; have _t := y2; refine (zsame b ZB.out _).mono ?_; rintro e0 w8 ⟨rfl, hn⟩; clear y2; have K8 := Lib.hid (K7.out.next hn); clear hn; clear b0' b1' b2' b3')
    | (go_at_call 9; refine (AW.out _).mono ?_; rintro e0 w9 ⟨rfl, hn⟩; have K9 := Lib.hid (K8.out.next hn); clear hn))
  go_ret
  exact ⟨rfl, K9.out.bl⟩
end Go.Proofs.Ytahpdifneajblaa
