/- gleaninglaw18.AdvanceKept: for every input the law returns true, and leaves its arguments as they were. The package-level variables that it reads hold what the program's text lays in them (a tied card); no other condition. -/
import Derived.Test.YthcmgagmbioofaaDoorRows
import Derived.WalkKit
import Derived.Test.YthcmgagmbioofaaDoorCards
import Derived.Test.YthcmgagmbioofaaDoorTie
import Derived.Test.YthcmgagmbioofaaDoorLaid
import Derived.SevenTiedAt
import Derived.Test.YthcmgagmbioofaaDoorOpenR
import Derived.Test.YthcmgagmbioofaaDoorOpen
import Derived.Deep.QuietTactic
import Derived.BigQuiet
import Derived.Deep.RegionWith
import Derived.Deep.LoopGhost
import Derived.Test.YthcmgagmbioofaaDoorKept8
import Derived.Test.YthcmgagmbioofaaDoorOpenR
import Derived.Test.YthcmgagmbioofaaDoorTail
import Derived.Test.YthcmgagmbioofaaDoorLaid
import Derived.Test.YthcmgagmbioofaaDoorOpen
import Derived.Test.YthcmgagmbioofaaDoorFrame
import Derived.ProofKit
import Derived.OpenShut
namespace Go.Proofs.YthcmgagmbioofaaDoor.advanceKept
open Go.ChangeShapes Go.WideShapes Go.ChangeAt Go.RowKit
set_option linter.unusedVariables false

theorem own : ownKnob Tryd.prog.godebug = none := by kernel_rfl
theorem laidOut : laidOutB Tryd.prog = true := by kernel_rfl

set_option maxRecDepth 100000 in
set_option maxHeartbeats 40000000 in
theorem walk (w : World) (hG : GL w) (a0_0 : Int) (w0_0 : (Lit.int .i64 a0_0).wf = true) (a0_1 : Int) (w0_1 : (Lit.int .i64 a0_1).wf = true) (a0_2 : Int) (w0_2 : (Lit.int .i64 a0_2).wf = true) (a0_3 : Int) (w0_3 : (Lit.int .i64 a0_3).wf = true) (a0_4 : Int) (w0_4 : (Lit.int .i64 a0_4).wf = true) (a1 : Int) (w1 : (Lit.int .i64 a1).wf = true) (A2 : Option Addr) (len2 cap2 b2 off2 : Nat) (rs2 : List (List Int)) (hl2 : rs2.length = len2) (hm2 : len2 ≤ cap2 ∧ len2 ≤ maxLen) (hR2 : RdS w [.i64, .u64] A2 b2 off2 rs2) (hb2 : ∀ r ∈ rs2, wfRow [.i64, .u64] r) :
    Calls Tryd.prog 4 #[.agg #[.int .i64 a0_0, .int .i64 a0_1, .int .i64 a0_2, .int .i64 a0_3, .int .i64 a0_4], .int .i64 a1, .slice A2 len2 cap2] w fun e w' => e = .returned (.bool true) ∧ Below w.heap.size w w' := by
  have AW := Lib.hid awake18_any
  have HG := Lib.hid hG
  clear w0_0 w0_1 w0_2 w0_3 w0_4 w1 hG
  have RB := Lib.hid (rowsLt rs2 hb2)
  have H2 := Lib.hid (RW2.of_rows hR2 hb2)
  obtain ⟨ws, hws⟩ : ∃ q, rs2.map wqOf = q := ⟨_, rfl⟩
  rw [hws] at H2 RB
  have HW := Lib.hid (show ws.length = len2 by rw [← hws, List.length_map]; exact hl2)
  clear hws hR2 hb2 hl2
  have hk : K5 w.heap.size w w.heap.size a0_0 a0_1 a0_2 a0_3 a0_4 (w.alloc (.cells #[.int .i64 a0_0, .int .i64 a0_1, .int .i64 a0_2, .int .i64 a0_3, .int .i64 a0_4] 23)) := ⟨by simp, by simp, by simp, by simp, by simp, below1 _ _, by simp⟩
  have K0 := Lib.hid hk
  clear hk
  by_cases hlen : (len2 : Int) ≤ 100
  · by_cases hok : okC a0_0 a0_1 a0_2 a0_3 a0_4
    · obtain ⟨n, hn, h0, hbig⟩ := size_nat a0_0 a0_1 a0_2 a0_3 a0_4 hok
      have R := Lib.hid (rwrong_yes a0_0 a0_1 a0_2 a0_3 a0_4 hok)
      have SR0 := fun W' => rsize_yes a0_0 a0_1 a0_2 a0_3 a0_4 hok W'
      rw [hn] at SR0
      have SR := Lib.hid SR0
      clear SR0
      by_cases h5 : n ≤ 5000
      · by_cases hth0 : 0 ≤ a1
        · by_cases hth : a1 < a0_1
          · have hn5 : (n : Int) ≤ 5000 := by omega
            have hln : len2 ≤ 100 := by omega
            have NE := Lib.hid (rnew10_any a0_0 a0_1 a0_2 a0_3 a0_4 hok n hn (by omega))
            have HOK := Lib.hid hok
            have hT := hok.2.1
            have h3 : 3 + a0_1.toNat ≤ n := by
              have hs : sizeL a0_0 a0_1 a0_2 = 3 + a0_1 + 2 * a0_1 + (a0_0 + 1) * (3 + 2 * a0_2) := by unfold sizeL; rw [if_neg (by have := hok.1; omega)]
              have hm : 0 ≤ (a0_0 + 1) * (3 + 2 * a0_2) := Int.mul_nonneg (by have := hok.1; omega) (by have := hok.2.2.1; omega)
              omega
            clear hok hn h0 hbig
            go_enter Tryd.func4, Tryd.ntmps4
            go_wp2_with (first
              | (go_at_call 19; refine (R.out _).mono ?_; rintro e u1 ⟨rfl, hn⟩; have K1 := Lib.hid (K0.out.next hn); clear hn; have c0 := K1.out.c0; have c1 := K1.out.c1; have c2 := K1.out.c2; have c3 := K1.out.c3; have c4 := K1.out.c4)
              | (go_at_call 20; refine (SR.out _).mono ?_; rintro e u2 ⟨rfl, hn⟩; have K2 := Lib.hid (K1.out.next hn); clear hn; clear c0 c1 c2 c3 c4; have c0 := K2.out.c0; have c1 := K2.out.c1; have c2 := K2.out.c2; have c3 := K2.out.c3; have c4 := K2.out.c4)
              | (go_at_call 21; refine (NE.out _).mono ?_; rintro e u3 ⟨gw, rfl, hg, hsw, hn⟩; have hgw : w.heap.size < gw := (by have := K2.out.bl.size; omega); have HSW := Lib.hid hsw; have K3 := Lib.hid (K2.out.next hn); have HGW := Lib.hid hgw; clear hn hg hsw hgw; clear c0 c1 c2 c3 c4))
            obtain ⟨us0, hb0, hul0, hus0⟩ := HSW.out
            have HS0 := Lib.hid (show KW0 w a0_0 a0_1 a0_2 a0_3 a0_4 gw us0 u3 from ⟨K3.out, hb0, HGW.out⟩)
            have HU0 := Lib.hid (And.intro hul0 hus0)
            clear hb0 hul0 hus0 HSW K1 K2 K3 NE R SR K0
            go_loopg [8] len2 (fun gk i wr => ∃ (j : Nat) (us : List Nat), j ≤ len2 ∧ gk = len2 - j ∧ i = .int .i64 (j : Nat) ∧ KW0 w a0_0 a0_1 a0_2 a0_3 a0_4 gw us wr ∧ us.length = n ∧ ∀ u ∈ us, u < 18446744073709551616)
            case atStart => exact ⟨0, us0, by omega, by omega, rfl, HS0.out, HU0.out.1, HU0.out.2⟩
            case round =>
              clear HS0 HU0
              obtain ⟨j, us, hj, hgk, rfl, hr, hul, hus⟩ := hrel
              by_cases hlt : j < len2
              · have hjw : j < ws.length := by rw [HW.out]; exact hlt
                obtain rfl := H2.out.a (by omega)
                have hv : (ws.getD j (0, 0)).2 < 18446744073709551616 := RB.out _ (mem_getD ws j (0, 0) hjw)
                have hb2l := H2.out.lt (by omega)
                have HQ := Lib.hid ((show QWA w a0_0 a0_1 a0_2 a0_3 a0_4 gw us b2 (off2 + j * 2) (ws.getD j (0, 0)).1 (ws.getD j (0, 0)).2 wr from ⟨hr, (hr.k.bl.cell (p := ⟨b2, off2 + j * 2, none⟩) hb2l).trans (H2.out.c0 j hjw), (hr.k.bl.cell (p := ⟨b2, off2 + j * 2 + 1, none⟩) hb2l).trans (H2.out.c1 j hjw), hb2l⟩).next (Below.refl _ _).drew)
                generalize (ws.getD j (0, 0)).1 = wa at HQ
                generalize (ws.getD j (0, 0)).2 = wv at HQ hv
                have HV := Lib.hid hv
                have HU := Lib.hid (And.intro hul hus)
                have DO := Lib.hid (fun W' h => rdo_any gw us 2 wa 0 wv (by rw [HU.out.1]; omega) W' h)
                rw [hul] at DO
                clear hr hv hul hus
                go_wp2
                refine wp_region_class_tail (C := QWA w a0_0 a0_1 a0_2 a0_3 a0_4 gw us b2 (off2 + j * 2) wa wv) 12 (by kernel_rfl) (by kernel_rfl) (HQ.out) ?_
                simp only [List.take_succ_cons, List.take_zero, List.drop_succ_cons, List.drop_zero]
                repeat (first
                  | go_big_quiet_skip
                  | (go_big_quiet_want; go_big_quiet_op; go_big_quiet_on)
                  | (go_big_quiet_want; go_big_quiet_op; refine ⟨_, fun _ _ => rfl, ?_⟩; go_big_quiet_on)
                  | (go_big_quiet_want
                     apply quiet_mk
                     · intro u hu
                       have x0 := hu.x0; have x1 := hu.x1
                       have HU := Lib.hid hu
                       clear hu
                       go_simp
                       first
                         | with_reducible rfl
                         | (fail)
                     simp only [Act.put, List.setIfInBounds_toArray, List.set_cons_zero, List.set_cons_succ]
                     go_big_quiet_on))
                refine wpQuiet_nil ?_
                intro u hu
                have HQ2 := Lib.hid hu
                clear hu HQ
                go_wp2_with (go_at_call 22; refine (DO.out _ HQ2.out.b).mono ?_; rintro e ux ⟨rfl, hwb, hbt⟩; have HN := Lib.hid (HQ2.out.toKW0.but hbt hwb); clear hwb hbt)
                go_roundg (len2 - (j + 1))
                case rel => exact ⟨j + 1, _, by omega, rfl, by go_num, HN.out, by rw [doF_len]; exact HU.out.1, doF_sm HU.out.2 HV.out⟩
                case measure => omega
              · obtain rfl : j = len2 := by omega
                have HU := Lib.hid (And.intro hul hus)
                have HR := Lib.hid hr
                have CP := Lib.hid (fun W' h => rcopy_any gw us n HU.out.1 (by omega) (by omega) W' h)
                have NW := Lib.hid (fun W' h => new_yes a0_0 a0_1 a0_2 a0_3 a0_4 W' h HOK.out)
                have NA := Lib.hid (anew_yes a0_0 a0_1 a0_2 a0_3 a0_4 a1 (.inl HOK.out) hth0 hth)
                have D0 := Lib.hid (adone_no a0_0 a0_1 a0_2 a0_3 a0_4 a1 1 0 0 0 0 0 0 (by omega))
                have c0 := hr.k.c0; have c1 := hr.k.c1; have c2 := hr.k.c2; have c3 := hr.k.c3; have c4 := hr.k.c4
                clear hr hul hus hlt hgk RB H2 HW
                go_wp2_with (first
                  | (go_at_call 23; refine (CP.out _ HR.out.b).mono ?_; rintro e y1 ⟨gc, qc, rfl, hq1, hq2, hgc, hwc, hn⟩; have M1 := Lib.hid (HR.out.next hn); have HWC := Lib.hid hwc; have HGC := Lib.hid (show gw < gc from (by have := HR.out.b.lt; omega)); clear hn hwc hgc; clear c0 c1 c2 c3 c4; have c0 := M1.out.k.c0; have c1 := M1.out.k.c1; have c2 := M1.out.k.c2; have c3 := M1.out.k.c3; have c4 := M1.out.k.c4)
                  | (go_at_call 8; refine (NW.out _ (HG.out.next M1.out.k.bl)).mono ?_; rintro e y2 ⟨rfl, hn⟩; have M2 := Lib.hid (M1.out.next hn); have HWC2 := Lib.hid (HWC.out.next hn); clear hn; clear c0 c1 c2 c3 c4)
                  | (go_at_call 7; refine (NA.out _).mono ?_; rintro e y3 ⟨rfl, hn⟩; have M3 := Lib.hid (M2.out.next hn); have HWC3 := Lib.hid (HWC2.out.next hn); clear hn)
                  | (go_at_call 10; refine (D0.out _).mono ?_; rintro e y4 ⟨rfl, hn⟩; have KK := Lib.hid (show KW1 w a0_0 a0_1 a0_2 a0_3 a0_4 y3.heap.size ⟨a0_0, a0_1, a0_2, a0_3, a0_4, a1, 1, 0, 0, 0, 0, 0, 0⟩ gw us gc us y4 from ⟨(M3.out.k.next (below1 y3 (adRow ⟨a0_0, a0_1, a0_2, a0_3, a0_4, a1, 1, 0, 0, 0, 0, 0, 0⟩))).next hn, (AC.alloc y3 ⟨a0_0, a0_1, a0_2, a0_3, a0_4, a1, 1, 0, 0, 0, 0, 0, 0⟩).next hn, (M3.out.b.next (below1 y3 (adRow ⟨a0_0, a0_1, a0_2, a0_3, a0_4, a1, 1, 0, 0, 0, 0, 0, 0⟩))).next hn, (HWC3.out.next (below1 y3 (adRow ⟨a0_0, a0_1, a0_2, a0_3, a0_4, a1, 1, 0, 0, 0, 0, 0, 0⟩))).next hn, World.block_lt_of_cell? y3 _ M3.out.k.c0, M3.out.lg, Nat.lt_trans M3.out.lg HGC.out, Nat.ne_of_gt M3.out.b.lt, Nat.ne_of_gt HWC3.out.lt, Nat.ne_of_lt HGC.out⟩); clear hn))
                clear HR CP NW NA D0 M1 M2 M3 HWC HWC2 HWC3 HGC
                generalize y3.heap.size = g1 at KK ⊢
                have hAOK0 : AOK ⟨a0_0, a0_1, a0_2, a0_3, a0_4, a1, 1, 0, 0, 0, 0, 0, 0⟩ := ⟨⟨by simp, by simp⟩, hT.2, by have := HOK.out.2.2.2.2.2; show a0_4 ≤ _; omega, ⟨0, rfl, by omega⟩, ⟨0, rfl, by omega⟩, ⟨0, rfl, by omega⟩, ⟨0, rfl, by omega⟩⟩
                have AK0 := Lib.hid hAOK0
                clear hAOK0
                go_loopg [11, 13] (3 * a0_1.toNat + 3) (fun gk nn okv wr => ∃ (k : Nat) (x : Ad) (vs : List Nat), gk = 3 * a0_1.toNat + 3 - k ∧ (k : Int) ≤ 2 + 3 * (a0_1 - 1) ∧ nn = .int .i64 (k : Nat) ∧ okv = .bool (x.st == 0) ∧ Run a0_0 a0_1 a0_2 a0_3 a0_4 a1 us x vs k ∧ AOK x ∧ vs.length = n ∧ KW1 w a0_0 a0_1 a0_2 a0_3 a0_4 g1 x gw vs gc us wr)
                case atStart => exact ⟨0, ⟨a0_0, a0_1, a0_2, a0_3, a0_4, a1, 1, 0, 0, 0, 0, 0, 0⟩, us, by omega, by omega, rfl, rfl, .begins, AK0.out, HU.out.1, KK.out⟩
                case round =>
                  clear KK AK0
                  obtain ⟨k, x, vs, hgk, hkt, rfl, rfl, hrun, hx, hvl, hr⟩ := hrel
                  have c1' := hr.k.c1
                  by_cases hs : x.st = 0
                  · have hok1 : (x.st == 0) = true := by simp [hs]
                    have FIN := run_fin hrun (by rw [HU.out.1]; exact h3) hs
                    obtain ⟨oc, hoc, hDN⟩ := run_done hrun
                    rw [hoc hs, hok1] at hDN
                    have DN := Lib.hid hDN
                    have FN := Lib.hid FIN
                    have hkn := FIN.n
                    have HK := Lib.hid hr
                    have HVL := Lib.hid hvl
                    clear hrun hx hvl hr hDN hs hoc FIN
                    simp only [hok1]
                    clear hok1
                    go_wp2
                    go_loopg [14, 15] a0_1.toNat (fun gk fr tt wr3 => ∃ j : Nat, (j : Int) ≤ a0_1 ∧ gk = a0_1.toNat - j ∧ tt = .int .i64 (j : Nat) ∧ fr = .bool (frB us a1 a0_4 j) ∧ KW1 w a0_0 a0_1 a0_2 a0_3 a0_4 g1 x gw vs gc us wr3)
                    case atStart => exact ⟨0, by omega, by omega, rfl, rfl, HK.out⟩
                    case round =>
                      clear HK
                      obtain ⟨j, hj, hgk3, rfl, rfl, hr⟩ := hrel
                      have c1' := hr.k.c1
                      by_cases hlt : (j : Int) < a0_1
                      · have hyw := FN.out.w j hlt
                        have hin : 3 + j < n := by omega
                        have hX := sm_get HU.out.2 (3 + j)
                        have hE := sm_get HU.out.2 0
                        have hC := sm_get HU.out.2 1
                        have AN := Lib.hid (rannK a0_0 a0_1 a0_2 a0_3 a0_4 j (by omega))
                        have hfr : frB us a1 a0_4 (j + 1) = (frB us a1 a0_4 j && (!blk us a1 j || stl us a0_4 j)) := rfl
                        have hbl : blk us a1 j = (decide ((j : Int) ≠ a1) && awBlocks (us.getD (3 + j) 0) (us.getD 0 0)) := rfl
                        have hst : stl us a0_4 j = awStalled (us.getD (3 + j) 0) (us.getD 1 0) a0_4 := rfl
                        have hevx : evx (us.getD (3 + j) 0) = us.getD (3 + j) 0 - us.getD (3 + j) 0 % 4 + 2 := rfl
                        have H3 := KW3.of (i := 3 + j) hr (by rw [HU.out.1]; exact hin) (by rw [HVL.out, HU.out.1]) (by rw [HU.out.1]; omega) rfl rfl rfl rfl rfl
                        clear hr
                        generalize hbv : blk us a1 j = bv at hfr hbl hyw
                        generalize hsv : stl us a0_4 j = sv at hfr hst
                        generalize hfv : frB us a1 a0_4 j = fv at hfr ⊢
                        generalize hgv : frB us a1 a0_4 (j + 1) = gv at hfr hyw
                        generalize evx (us.getD (3 + j) 0) = ex at hevx hyw
                        generalize us.getD (3 + j) 0 = X at hX hbl hst hevx hyw H3
                        generalize vs.getD (3 + j) 0 = Y at hyw H3
                        generalize us.getD 0 0 = E at hE hbl H3
                        generalize us.getD 1 0 = C at hC hst H3
                        generalize vs.getD 0 0 = V at H3
                        have BL := Lib.hid (rablocks_any X E hX hE)
                        have SL := Lib.hid (rastalled_any X C a0_4 hX hC (by have := HOK.out.2.2.2.2.2; omega))
                        have EX := Lib.hid (raevict_any X hX)
                        rw [← hevx] at EX
                        have GV := Lib.hid hgv
                        have HH := Lib.hid H3
                        have gin : ((3 + j : Nat) : Int) < (n : Int) := by omega
                        have gin0 : (0 : Int) < (n : Int) := by omega
                        have gin1 : (1 : Int) < (n : Int) := by omega
                        generalize 3 + j = ix at AN gin HH
                        have k1 : True := trivial
                        by_cases hj1 : (j : Int) = a1
                        · cases fv with
                          | true =>
                            have hown : ((j : Int) != a1) = false := by simp [hj1]
                            obtain rfl : X = Y := Eq.symm (by simpa [hfr, hbl, hst, hj1] using hyw)
                            have hg9 : frB us a1 a0_4 (j + 1) = true := by rw [GV.out]; simp [hfr, hbl, hst, hj1]
                            have hneq : ((X : Int) != (X : Int)) = false := by simp
                            have G9 := Lib.hid hg9
                            have HJ := Lib.hid hj1
                            clear hj1
                            have d0 := HH.out.k.c0; have d1 := HH.out.k.c1; have d2 := HH.out.k.c2; have d3 := HH.out.k.c3; have d4 := HH.out.k.c4
                            clear hg9 hfr hbl hst hevx hyw hbv hsv hfv hgv H3 c1' hX hE hC
                            go_wp2_with (first
                              | (go_at_call 24; have _t := k1; refine (AN.out _).mono ?_; rintro e z1 ⟨rfl, hn⟩; clear k1; have P1 := Lib.hid (HH.out.next hn); clear hn d0 d1 d2 d3 d4; have xi := P1.out.xi; have d0 := P1.out.k.c0; have d1 := P1.out.k.c1; have d2 := P1.out.k.c2; have d3 := P1.out.k.c3; have d4 := P1.out.k.c4)
                              | (go_at_call 24; refine (AN.out _).mono ?_; rintro e z2 ⟨rfl, hn⟩; have P2 := Lib.hid (P1.out.next hn); clear hn xi d0 d1 d2 d3 d4; have yi := P2.out.yi; have u0 := P2.out.u0)
                              | fail)
                            have P3 := Lib.hid P2.out.drew
                            refine wp_region_class (C := KW3 w a0_0 a0_1 a0_2 a0_3 a0_4 g1 x gw vs gc us ix X X E C V) (by kernel_rfl) (by kernel_rfl) (P3.out) ?_
                            repeat (first
                              | go_big_quiet_skip
                              | (go_big_quiet_want; go_big_quiet_op; go_big_quiet_on)
                              | (go_big_quiet_want; go_big_quiet_op; refine ⟨_, fun _ _ => rfl, ?_⟩; go_big_quiet_on)
                              | (go_big_quiet_want
                                 apply quiet_mk
                                 · intro u hu
                                   have xi := hu.xi; have yi := hu.yi; have u0 := hu.u0; have u1 := hu.u1; have v0 := hu.v0; have p4 := hu.p4
                                   have HU := Lib.hid hu
                                   clear hu
                                   go_simp
                                   first
                                     | with_reducible rfl
                                     | (fail)
                                 simp only [Act.put, List.setIfInBounds_toArray, List.set_cons_zero, List.set_cons_succ]
                                 go_big_quiet_on))
                            refine wpQuiet_nil ?_
                            intro u hu
                            have P4 := Lib.hid hu
                            clear hu P1 P2 P3 HH
                            go_wp2
                            go_roundg (a0_1.toNat - (j + 1))
                            case rel => exact ⟨j + 1, by omega, rfl, by go_num, by rw [G9.out], P4.out.toKW1⟩
                            case measure => omega
                          | false =>
                            have hown : ((j : Int) != a1) = false := by simp [hj1]
                            obtain rfl : X = Y := Eq.symm (by simpa [hfr, hbl, hst, hj1] using hyw)
                            have hg9 : frB us a1 a0_4 (j + 1) = false := by rw [GV.out]; simp [hfr, hbl, hst, hj1]
                            have hneq : ((X : Int) != (X : Int)) = false := by simp
                            have G9 := Lib.hid hg9
                            have HJ := Lib.hid hj1
                            clear hj1
                            have d0 := HH.out.k.c0; have d1 := HH.out.k.c1; have d2 := HH.out.k.c2; have d3 := HH.out.k.c3; have d4 := HH.out.k.c4
                            clear hg9 hfr hbl hst hevx hyw hbv hsv hfv hgv H3 c1' hX hE hC
                            go_wp2_with (first
                              | (go_at_call 24; have _t := k1; refine (AN.out _).mono ?_; rintro e z1 ⟨rfl, hn⟩; clear k1; have P1 := Lib.hid (HH.out.next hn); clear hn d0 d1 d2 d3 d4; have xi := P1.out.xi; have d0 := P1.out.k.c0; have d1 := P1.out.k.c1; have d2 := P1.out.k.c2; have d3 := P1.out.k.c3; have d4 := P1.out.k.c4)
                              | (go_at_call 24; refine (AN.out _).mono ?_; rintro e z2 ⟨rfl, hn⟩; have P2 := Lib.hid (P1.out.next hn); clear hn xi d0 d1 d2 d3 d4; have yi := P2.out.yi; have u0 := P2.out.u0)
                              | fail)
                            have P3 := Lib.hid P2.out.drew
                            refine wp_region_class (C := KW3 w a0_0 a0_1 a0_2 a0_3 a0_4 g1 x gw vs gc us ix X X E C V) (by kernel_rfl) (by kernel_rfl) (P3.out) ?_
                            repeat (first
                              | go_big_quiet_skip
                              | (go_big_quiet_want; go_big_quiet_op; go_big_quiet_on)
                              | (go_big_quiet_want; go_big_quiet_op; refine ⟨_, fun _ _ => rfl, ?_⟩; go_big_quiet_on)
                              | (go_big_quiet_want
                                 apply quiet_mk
                                 · intro u hu
                                   have xi := hu.xi; have yi := hu.yi; have u0 := hu.u0; have u1 := hu.u1; have v0 := hu.v0; have p4 := hu.p4
                                   have HU := Lib.hid hu
                                   clear hu
                                   go_simp
                                   first
                                     | with_reducible rfl
                                     | (fail)
                                 simp only [Act.put, List.setIfInBounds_toArray, List.set_cons_zero, List.set_cons_succ]
                                 go_big_quiet_on))
                            refine wpQuiet_nil ?_
                            intro u hu
                            have P4 := Lib.hid hu
                            clear hu P1 P2 P3 HH
                            go_wp2
                            go_roundg (a0_1.toNat - (j + 1))
                            case rel => exact ⟨j + 1, by omega, rfl, by go_num, by rw [G9.out], P4.out.toKW1⟩
                            case measure => omega
                        · cases hb1 : awBlocks X E with
                          | false =>
                            cases fv with
                            | true =>
                              have hown : ((j : Int) != a1) = true := by simp [hj1]
                              rw [hb1] at BL
                              obtain rfl : X = Y := Eq.symm (by simpa [hfr, hbl, hst, hj1, hb1] using hyw)
                              have hg9 : frB us a1 a0_4 (j + 1) = true := by rw [GV.out]; simp [hfr, hbl, hst, hj1, hb1]
                              have hneq : ((X : Int) != (X : Int)) = false := by simp
                              have G9 := Lib.hid hg9
                              have d0 := HH.out.k.c0; have d1 := HH.out.k.c1; have d2 := HH.out.k.c2; have d3 := HH.out.k.c3; have d4 := HH.out.k.c4
                              clear hg9 hfr hbl hst hevx hyw hbv hsv hfv hgv H3 c1' hX hE hC
                              go_wp2_with (first
                                | (go_at_call 24; have _t := k1; refine (AN.out _).mono ?_; rintro e z1 ⟨rfl, hn⟩; clear k1; have P1 := Lib.hid (HH.out.next hn); clear hn d0 d1 d2 d3 d4; have xi := P1.out.xi; have d0 := P1.out.k.c0; have d1 := P1.out.k.c1; have d2 := P1.out.k.c2; have d3 := P1.out.k.c3; have d4 := P1.out.k.c4)
                                | (go_at_call 24; refine (AN.out _).mono ?_; rintro e z2 ⟨rfl, hn⟩; have P2 := Lib.hid (P1.out.next hn); clear hn xi d0 d1 d2 d3 d4; have yi := P2.out.yi; have u0 := P2.out.u0)
                                | (go_at_call 25; refine (BL.out _).mono ?_; rintro e z3 ⟨rfl, rfl⟩)
                                | fail)
                              have P3 := Lib.hid P2.out.drew
                              refine wp_region_class (C := KW3 w a0_0 a0_1 a0_2 a0_3 a0_4 g1 x gw vs gc us ix X X E C V) (by kernel_rfl) (by kernel_rfl) (P3.out) ?_
                              repeat (first
                                | go_big_quiet_skip
                                | (go_big_quiet_want; go_big_quiet_op; go_big_quiet_on)
                                | (go_big_quiet_want; go_big_quiet_op; refine ⟨_, fun _ _ => rfl, ?_⟩; go_big_quiet_on)
                                | (go_big_quiet_want
                                   apply quiet_mk
                                   · intro u hu
                                     have xi := hu.xi; have yi := hu.yi; have u0 := hu.u0; have u1 := hu.u1; have v0 := hu.v0; have p4 := hu.p4
                                     have HU := Lib.hid hu
                                     clear hu
                                     go_simp
                                     first
                                       | with_reducible rfl
                                       | (fail)
                                   simp only [Act.put, List.setIfInBounds_toArray, List.set_cons_zero, List.set_cons_succ]
                                   go_big_quiet_on))
                              refine wpQuiet_nil ?_
                              intro u hu
                              have P4 := Lib.hid hu
                              clear hu P1 P2 P3 HH
                              go_wp2
                              go_roundg (a0_1.toNat - (j + 1))
                              case rel => exact ⟨j + 1, by omega, rfl, by go_num, by rw [G9.out], P4.out.toKW1⟩
                              case measure => omega
                            | false =>
                              have hown : ((j : Int) != a1) = true := by simp [hj1]
                              rw [hb1] at BL
                              obtain rfl : X = Y := Eq.symm (by simpa [hfr, hbl, hst, hj1, hb1] using hyw)
                              have hg9 : frB us a1 a0_4 (j + 1) = false := by rw [GV.out]; simp [hfr, hbl, hst, hj1, hb1]
                              have hneq : ((X : Int) != (X : Int)) = false := by simp
                              have G9 := Lib.hid hg9
                              have d0 := HH.out.k.c0; have d1 := HH.out.k.c1; have d2 := HH.out.k.c2; have d3 := HH.out.k.c3; have d4 := HH.out.k.c4
                              clear hg9 hfr hbl hst hevx hyw hbv hsv hfv hgv H3 c1' hX hE hC
                              go_wp2_with (first
                                | (go_at_call 24; have _t := k1; refine (AN.out _).mono ?_; rintro e z1 ⟨rfl, hn⟩; clear k1; have P1 := Lib.hid (HH.out.next hn); clear hn d0 d1 d2 d3 d4; have xi := P1.out.xi; have d0 := P1.out.k.c0; have d1 := P1.out.k.c1; have d2 := P1.out.k.c2; have d3 := P1.out.k.c3; have d4 := P1.out.k.c4)
                                | (go_at_call 24; refine (AN.out _).mono ?_; rintro e z2 ⟨rfl, hn⟩; have P2 := Lib.hid (P1.out.next hn); clear hn xi d0 d1 d2 d3 d4; have yi := P2.out.yi; have u0 := P2.out.u0)
                                | (go_at_call 25; refine (BL.out _).mono ?_; rintro e z3 ⟨rfl, rfl⟩)
                                | fail)
                              have P3 := Lib.hid P2.out.drew
                              refine wp_region_class (C := KW3 w a0_0 a0_1 a0_2 a0_3 a0_4 g1 x gw vs gc us ix X X E C V) (by kernel_rfl) (by kernel_rfl) (P3.out) ?_
                              repeat (first
                                | go_big_quiet_skip
                                | (go_big_quiet_want; go_big_quiet_op; go_big_quiet_on)
                                | (go_big_quiet_want; go_big_quiet_op; refine ⟨_, fun _ _ => rfl, ?_⟩; go_big_quiet_on)
                                | (go_big_quiet_want
                                   apply quiet_mk
                                   · intro u hu
                                     have xi := hu.xi; have yi := hu.yi; have u0 := hu.u0; have u1 := hu.u1; have v0 := hu.v0; have p4 := hu.p4
                                     have HU := Lib.hid hu
                                     clear hu
                                     go_simp
                                     first
                                       | with_reducible rfl
                                       | (fail)
                                   simp only [Act.put, List.setIfInBounds_toArray, List.set_cons_zero, List.set_cons_succ]
                                   go_big_quiet_on))
                              refine wpQuiet_nil ?_
                              intro u hu
                              have P4 := Lib.hid hu
                              clear hu P1 P2 P3 HH
                              go_wp2
                              go_roundg (a0_1.toNat - (j + 1))
                              case rel => exact ⟨j + 1, by omega, rfl, by go_num, by rw [G9.out], P4.out.toKW1⟩
                              case measure => omega
                          | true =>
                            cases fv with
                            | false =>
                              have hown : ((j : Int) != a1) = true := by simp [hj1]
                              rw [hb1] at BL
                              obtain rfl : X = Y := Eq.symm (by simpa [hfr, hbl, hst, hj1, hb1] using hyw)
                              have hg9 : frB us a1 a0_4 (j + 1) = false := by rw [GV.out]; simp [hfr, hbl, hst, hj1, hb1]
                              have hneq : ((X : Int) != (X : Int)) = false := by simp
                              have G9 := Lib.hid hg9
                              have d0 := HH.out.k.c0; have d1 := HH.out.k.c1; have d2 := HH.out.k.c2; have d3 := HH.out.k.c3; have d4 := HH.out.k.c4
                              clear hg9 hfr hbl hst hevx hyw hbv hsv hfv hgv H3 c1' hX hE hC
                              go_wp2_with (first
                                | (go_at_call 24; have _t := k1; refine (AN.out _).mono ?_; rintro e z1 ⟨rfl, hn⟩; clear k1; have P1 := Lib.hid (HH.out.next hn); clear hn d0 d1 d2 d3 d4; have xi := P1.out.xi; have d0 := P1.out.k.c0; have d1 := P1.out.k.c1; have d2 := P1.out.k.c2; have d3 := P1.out.k.c3; have d4 := P1.out.k.c4)
                                | (go_at_call 24; refine (AN.out _).mono ?_; rintro e z2 ⟨rfl, hn⟩; have P2 := Lib.hid (P1.out.next hn); clear hn xi d0 d1 d2 d3 d4; have yi := P2.out.yi; have u0 := P2.out.u0)
                                | (go_at_call 25; refine (BL.out _).mono ?_; rintro e z3 ⟨rfl, rfl⟩)
                                | fail)
                              have P3 := Lib.hid P2.out.drew
                              refine wp_region_class (C := KW3 w a0_0 a0_1 a0_2 a0_3 a0_4 g1 x gw vs gc us ix X X E C V) (by kernel_rfl) (by kernel_rfl) (P3.out) ?_
                              repeat (first
                                | go_big_quiet_skip
                                | (go_big_quiet_want; go_big_quiet_op; go_big_quiet_on)
                                | (go_big_quiet_want; go_big_quiet_op; refine ⟨_, fun _ _ => rfl, ?_⟩; go_big_quiet_on)
                                | (go_big_quiet_want
                                   apply quiet_mk
                                   · intro u hu
                                     have xi := hu.xi; have yi := hu.yi; have u0 := hu.u0; have u1 := hu.u1; have v0 := hu.v0; have p4 := hu.p4
                                     have HU := Lib.hid hu
                                     clear hu
                                     go_simp
                                     first
                                       | with_reducible rfl
                                       | (fail)
                                   simp only [Act.put, List.setIfInBounds_toArray, List.set_cons_zero, List.set_cons_succ]
                                   go_big_quiet_on))
                              refine wpQuiet_nil ?_
                              intro u hu
                              have P4 := Lib.hid hu
                              clear hu P1 P2 P3 HH
                              go_wp2
                              go_roundg (a0_1.toNat - (j + 1))
                              case rel => exact ⟨j + 1, by omega, rfl, by go_num, by rw [G9.out], P4.out.toKW1⟩
                              case measure => omega
                            | true =>
                              cases hs1 : awStalled X C a0_4 with
                              | true =>
                                have hown : ((j : Int) != a1) = true := by simp [hj1]
                                rw [hb1] at BL
                                rw [hs1] at SL
                                obtain rfl : ex = Y := Eq.symm (by simpa [hfr, hbl, hst, hj1, hb1, hs1] using hyw)
                                have hg9 : frB us a1 a0_4 (j + 1) = true := by rw [GV.out]; simp [hfr, hbl, hst, hj1, hb1, hs1]
                                have hneq : ((ex : Int) != (ex : Int)) = false := by simp
                                have G9 := Lib.hid hg9
                                have d0 := HH.out.k.c0; have d1 := HH.out.k.c1; have d2 := HH.out.k.c2; have d3 := HH.out.k.c3; have d4 := HH.out.k.c4
                                clear hg9 hfr hbl hst hevx hyw hbv hsv hfv hgv H3 c1' hX hE hC
                                go_wp2_with (first
                                  | (go_at_call 24; have _t := k1; refine (AN.out _).mono ?_; rintro e z1 ⟨rfl, hn⟩; clear k1; have P1 := Lib.hid (HH.out.next hn); clear hn d0 d1 d2 d3 d4; have xi := P1.out.xi; have d0 := P1.out.k.c0; have d1 := P1.out.k.c1; have d2 := P1.out.k.c2; have d3 := P1.out.k.c3; have d4 := P1.out.k.c4)
                                  | (go_at_call 24; refine (AN.out _).mono ?_; rintro e z2 ⟨rfl, hn⟩; have P2 := Lib.hid (P1.out.next hn); clear hn xi d0 d1 d2 d3 d4; have yi := P2.out.yi; have u0 := P2.out.u0)
                                  | (go_at_call 25; refine (BL.out _).mono ?_; rintro e z3 ⟨rfl, rfl⟩)
                                  | fail)
                                have P3 := Lib.hid P2.out.drew
                                refine wp_region_class (C := KW3 w a0_0 a0_1 a0_2 a0_3 a0_4 g1 x gw vs gc us ix X ex E C V) (by kernel_rfl) (by kernel_rfl) (P3.out) ?_
                                repeat (first
                                  | go_big_quiet_skip
                                  | (go_big_quiet_want; go_big_quiet_op; go_big_quiet_on)
                                  | (go_big_quiet_want; go_big_quiet_op; refine ⟨_, fun _ _ => rfl, ?_⟩; go_big_quiet_on)
                                  | (go_big_quiet_want
                                     apply quiet_mk
                                     · intro u hu
                                       have xi := hu.xi; have yi := hu.yi; have u0 := hu.u0; have u1 := hu.u1; have v0 := hu.v0; have p4 := hu.p4
                                       have HU := Lib.hid hu
                                       clear hu
                                       go_simp
                                       first
                                         | with_reducible rfl
                                         | (go_at_call 26; refine (SL.out _).mono ?_; rintro e w' ⟨rfl, rfl⟩; exact ⟨rfl, HU.out⟩)
                                     simp only [Act.put, List.setIfInBounds_toArray, List.set_cons_zero, List.set_cons_succ]
                                     go_big_quiet_on))
                                refine wpQuiet_nil ?_
                                intro u hu
                                have P4 := Lib.hid hu
                                clear hu P1 P2 P3 HH
                                go_wp2_with (go_at_call 27; refine (EX.out _).mono ?_; rintro e z4 ⟨rfl, rfl⟩)
                                go_roundg (a0_1.toNat - (j + 1))
                                case rel => exact ⟨j + 1, by omega, rfl, by go_num, by rw [G9.out], P4.out.toKW1⟩
                                case measure => omega
                              | false =>
                                have hown : ((j : Int) != a1) = true := by simp [hj1]
                                rw [hb1] at BL
                                rw [hs1] at SL
                                obtain rfl : X = Y := Eq.symm (by simpa [hfr, hbl, hst, hj1, hb1, hs1] using hyw)
                                have hg9 : frB us a1 a0_4 (j + 1) = false := by rw [GV.out]; simp [hfr, hbl, hst, hj1, hb1, hs1]
                                have hneq : ((X : Int) != (X : Int)) = false := by simp
                                have G9 := Lib.hid hg9
                                have d0 := HH.out.k.c0; have d1 := HH.out.k.c1; have d2 := HH.out.k.c2; have d3 := HH.out.k.c3; have d4 := HH.out.k.c4
                                clear hg9 hfr hbl hst hevx hyw hbv hsv hfv hgv H3 c1' hX hE hC
                                go_wp2_with (first
                                  | (go_at_call 24; have _t := k1; refine (AN.out _).mono ?_; rintro e z1 ⟨rfl, hn⟩; clear k1; have P1 := Lib.hid (HH.out.next hn); clear hn d0 d1 d2 d3 d4; have xi := P1.out.xi; have d0 := P1.out.k.c0; have d1 := P1.out.k.c1; have d2 := P1.out.k.c2; have d3 := P1.out.k.c3; have d4 := P1.out.k.c4)
                                  | (go_at_call 24; refine (AN.out _).mono ?_; rintro e z2 ⟨rfl, hn⟩; have P2 := Lib.hid (P1.out.next hn); clear hn xi d0 d1 d2 d3 d4; have yi := P2.out.yi; have u0 := P2.out.u0)
                                  | (go_at_call 25; refine (BL.out _).mono ?_; rintro e z3 ⟨rfl, rfl⟩)
                                  | fail)
                                have P3 := Lib.hid P2.out.drew
                                refine wp_region_class (C := KW3 w a0_0 a0_1 a0_2 a0_3 a0_4 g1 x gw vs gc us ix X X E C V) (by kernel_rfl) (by kernel_rfl) (P3.out) ?_
                                repeat (first
                                  | go_big_quiet_skip
                                  | (go_big_quiet_want; go_big_quiet_op; go_big_quiet_on)
                                  | (go_big_quiet_want; go_big_quiet_op; refine ⟨_, fun _ _ => rfl, ?_⟩; go_big_quiet_on)
                                  | (go_big_quiet_want
                                     apply quiet_mk
                                     · intro u hu
                                       have xi := hu.xi; have yi := hu.yi; have u0 := hu.u0; have u1 := hu.u1; have v0 := hu.v0; have p4 := hu.p4
                                       have HU := Lib.hid hu
                                       clear hu
                                       go_simp
                                       first
                                         | with_reducible rfl
                                         | (go_at_call 26; refine (SL.out _).mono ?_; rintro e w' ⟨rfl, rfl⟩; exact ⟨rfl, HU.out⟩)
                                     simp only [Act.put, List.setIfInBounds_toArray, List.set_cons_zero, List.set_cons_succ]
                                     go_big_quiet_on))
                                refine wpQuiet_nil ?_
                                intro u hu
                                have P4 := Lib.hid hu
                                clear hu P1 P2 P3 HH
                                go_wp2
                                go_roundg (a0_1.toNat - (j + 1))
                                case rel => exact ⟨j + 1, by omega, rfl, by go_num, by rw [G9.out], P4.out.toKW1⟩
                                case measure => omega
                      · have hjn : a0_1.toNat = j := by omega
                        have H3 := KW3.of (i := 0) hr (by rw [HU.out.1]; omega) (by rw [HVL.out, HU.out.1]) (by rw [HU.out.1]; omega) rfl rfl rfl rfl rfl
                        have hE := sm_get HU.out.2 0
                        have FE := FN.out.e
                        rw [hjn] at FE
                        generalize frB us a1 a0_4 j = fv at FE ⊢
                        generalize us.getD 0 0 = E at FE H3 hE
                        generalize vs.getD 0 0 = V at FE H3
                        generalize us.getD 1 0 = C at H3
                        have HH := Lib.hid H3
                        have c0 := hr.e.c0
                        have c1 := hr.e.c1
                        have c2 := hr.e.c2
                        have c3 := hr.e.c3
                        have c4 := hr.e.c4
                        have c5 := hr.e.c5
                        have c6 := hr.e.c6
                        have c7 := hr.e.c7
                        have c8 := hr.e.c8
                        have c9 := hr.e.c9
                        have c10 := hr.e.c10
                        have c11 := hr.e.c11
                        have c12 := hr.e.c12
                        have gin0 : (0 : Int) < (n : Int) := by omega
                        clear hr H3 hgk3 hgk hkt hjn
                        generalize x.oc = oc2 at FE DN
                        rcases FE with ⟨rfl, rfl, hV⟩ | ⟨rfl, rfl, hV⟩
                        · have hwv : IntKind.u64.wrap ((E : Int) + 1) = (V : Nat) := by rw [IntKind.wrap_u64]; omega
                          clear hV
                          go_wp2_with (go_at_call 10; refine (DN.out _).mono ?_; rintro e z6 ⟨rfl, hn⟩; have P1 := Lib.hid (HH.out.next hn); clear hn c0 c1 c2 c3 c4 c5 c6 c7 c8 c9 c10 c11 c12)
                          have P3 := Lib.hid P1.out.drew
                          refine wp_region_class (C := KW3 w a0_0 a0_1 a0_2 a0_3 a0_4 g1 x gw vs gc us 0 E V E C V) (by kernel_rfl) (by kernel_rfl) (P3.out) ?_
                          repeat (first
                            | go_big_quiet_skip
                            | (go_big_quiet_want; go_big_quiet_op; go_big_quiet_on)
                            | (go_big_quiet_want; go_big_quiet_op; refine ⟨_, fun _ _ => rfl, ?_⟩; go_big_quiet_on)
                            | (go_big_quiet_want
                               apply quiet_mk
                               · intro u hu
                                 have u0 := hu.u0; have v0 := hu.v0
                                 have HU := Lib.hid hu
                                 clear hu
                                 go_simp
                                 first
                                   | with_reducible rfl
                                   | (go_at_call 6; refine (AW.out _ (HG.out.next HU.out.k.bl)).mono ?_; rintro e w' ⟨rfl, hn⟩; exact ⟨rfl, HU.out.next hn⟩)
                               simp only [Act.put, List.setIfInBounds_toArray, List.set_cons_zero, List.set_cons_succ]
                               go_big_quiet_on))
                          refine wpQuiet_nil ?_
                          intro u hu
                          have P4 := Lib.hid hu
                          clear hu
                          go_wp2
                          go_ret
                          exact ⟨rfl, P4.out.k.bl⟩
                        · obtain rfl : V = E := hV
                          go_wp2_with (go_at_call 10; refine (DN.out _).mono ?_; rintro e z6 ⟨rfl, hn⟩; have P1 := Lib.hid (HH.out.next hn); clear hn c0 c1 c2 c3 c4 c5 c6 c7 c8 c9 c10 c11 c12)
                          have P3 := Lib.hid P1.out.drew
                          refine wp_region_class (C := KW3 w a0_0 a0_1 a0_2 a0_3 a0_4 g1 x gw vs gc us 0 V V V C V) (by kernel_rfl) (by kernel_rfl) (P3.out) ?_
                          repeat (first
                            | go_big_quiet_skip
                            | (go_big_quiet_want; go_big_quiet_op; go_big_quiet_on)
                            | (go_big_quiet_want; go_big_quiet_op; refine ⟨_, fun _ _ => rfl, ?_⟩; go_big_quiet_on)
                            | (go_big_quiet_want
                               apply quiet_mk
                               · intro u hu
                                 have u0 := hu.u0; have v0 := hu.v0
                                 have HU := Lib.hid hu
                                 clear hu
                                 go_simp
                                 first
                                   | with_reducible rfl
                                   | (go_at_call 6; refine (AW.out _ (HG.out.next HU.out.k.bl)).mono ?_; rintro e w' ⟨rfl, hn⟩; exact ⟨rfl, HU.out.next hn⟩)
                               simp only [Act.put, List.setIfInBounds_toArray, List.set_cons_zero, List.set_cons_succ]
                               go_big_quiet_on))
                          refine wpQuiet_nil ?_
                          intro u hu
                          have P4 := Lib.hid hu
                          clear hu
                          go_wp2
                          go_ret
                          exact ⟨rfl, P4.out.k.bl⟩
                  · have hok1 : (x.st == 0) = false := by simp [hs]
                    have hk2 := run_lt hrun hth0 hth hs
                    obtain ⟨ka, aa, oa, ma, got, vs', x', hW, hD, hTk, hrun', hx', hvl'⟩ := run_round hrun HOK.out hth0 hth (by rw [HU.out.1]; exact h3) (by rw [HU.out.1]; omega) HU.out.2 hx (by rw [HU.out.1]; exact hvl) hs
                    rw [HU.out.1] at hD hvl'
                    obtain ⟨oc', _, hDN⟩ := run_done hrun'
                    have WW := Lib.hid hW
                    have DD := Lib.hid hD
                    have TT := Lib.hid hTk
                    have DN := Lib.hid hDN
                    have TOP := Lib.hid (run_top hrun' hth0 hth (by rw [HU.out.1]; exact h3))
                    have NXT := Lib.hid (And.intro hrun' (And.intro hx' hvl'))
                    have HK := Lib.hid hr
                    have c0 := hr.e.c0
                    have c1 := hr.e.c1
                    have c2 := hr.e.c2
                    have c3 := hr.e.c3
                    have c4 := hr.e.c4
                    have c5 := hr.e.c5
                    have c6 := hr.e.c6
                    have c7 := hr.e.c7
                    have c8 := hr.e.c8
                    have c9 := hr.e.c9
                    have c10 := hr.e.c10
                    have c11 := hr.e.c11
                    have c12 := hr.e.c12
                    clear hrun hx hvl hr hW hD hTk hDN hrun' hx' hvl' hs
                    go_wp2
                    go_region_with (first
                      | (go_at_call 11; refine (WW.out _).mono ?_; rintro e z1 ⟨rfl, hn⟩; have N1 := Lib.hid (KW1.next (by first | exact HK.out.drew | exact HK.out.drew.drew | exact HK.out) hn); clear hn; clear c0 c1 c2 c3 c4 c5 c6 c7 c8 c9 c10 c11 c12; have c0 := N1.out.e.c0; have c1 := N1.out.e.c1; have c2 := N1.out.e.c2; have c3 := N1.out.e.c3; have c4 := N1.out.e.c4; have c5 := N1.out.e.c5; have c6 := N1.out.e.c6; have c7 := N1.out.e.c7; have c8 := N1.out.e.c8; have c9 := N1.out.e.c9; have c10 := N1.out.e.c10; have c11 := N1.out.e.c11; have c12 := N1.out.e.c12)
                      | (go_at_call 22; refine (DD.out gw _ (by first | exact N1.out.b | exact N1.out.drew.b)).mono ?_; rintro e z2 ⟨rfl, hwb, hbt⟩; have N2 := Lib.hid (KW1.but (by first | exact N1.out | exact N1.out.drew) hbt hwb); clear hwb hbt; clear c0 c1 c2 c3 c4 c5 c6 c7 c8 c9 c10 c11 c12; have c0 := N2.out.e.c0; have c1 := N2.out.e.c1; have c2 := N2.out.e.c2; have c3 := N2.out.e.c3; have c4 := N2.out.e.c4; have c5 := N2.out.e.c5; have c6 := N2.out.e.c6; have c7 := N2.out.e.c7; have c8 := N2.out.e.c8; have c9 := N2.out.e.c9; have c10 := N2.out.e.c10; have c11 := N2.out.e.c11; have c12 := N2.out.e.c12)
                      | (go_at_call 17; refine (TT.out _).mono ?_; rintro e z3 ⟨rfl, hn⟩; have N3 := Lib.hid (KW1.next (by first | exact N2.out | exact N2.out.drew) hn); clear hn; clear c0 c1 c2 c3 c4 c5 c6 c7 c8 c9 c10 c11 c12; have c0 := N3.out.e.c0; have c1 := N3.out.e.c1; have c2 := N3.out.e.c2; have c3 := N3.out.e.c3; have c4 := N3.out.e.c4; have c5 := N3.out.e.c5; have c6 := N3.out.e.c6; have c7 := N3.out.e.c7; have c8 := N3.out.e.c8; have c9 := N3.out.e.c9; have c10 := N3.out.e.c10; have c11 := N3.out.e.c11; have c12 := N3.out.e.c12; have fz := N3.out.e.fz))
                    all_goals (
                      have N4 := Lib.hid (N3.out.store x')
                      clear N1 N2 HK
                      go_wp2_with (go_at_call 10; refine (DN.out _).mono ?_; rintro e z5 ⟨rfl, hn⟩; have N5 := Lib.hid (N4.out.next hn); clear hn)
                      go_roundg (3 * a0_1.toNat + 3 - (k + 1))
                      case rel => exact ⟨k + 1, x', vs', rfl, TOP.out, by go_num, rfl, NXT.out.1, NXT.out.2.1, NXT.out.2.2, N5.out⟩
                      case measure => omega)
          · have hq : a0_1 ≤ a1 := by omega
            have hn5 : (n : Int) ≤ 5000 := by omega
            clear RB H2 HW
            go_enter Tryd.func4, Tryd.ntmps4
            go_wp2_with (first
              | (go_at_call 19; refine (R.out _).mono ?_; rintro e u1 ⟨rfl, hn⟩; have K1 := Lib.hid (K0.out.next hn); clear hn; have c0 := K1.out.c0; have c1 := K1.out.c1; have c2 := K1.out.c2; have c3 := K1.out.c3; have c4 := K1.out.c4)
              | (go_at_call 20; refine (SR.out _).mono ?_; rintro e u2 ⟨rfl, hn⟩; have K2 := Lib.hid (K1.out.next hn); clear hn; clear c0 c1 c2 c3 c4; have c0 := K2.out.c0; have c1 := K2.out.c1; have c2 := K2.out.c2; have c3 := K2.out.c3; have c4 := K2.out.c4)
              | (go_at_call 6; refine (AW.out _ (HG.out.next K2.out.bl)).mono ?_; rintro e v9 ⟨rfl, hn⟩; have K9 := Lib.hid (K2.out.next hn); clear hn))
            go_ret
            exact ⟨rfl, K9.out.bl⟩
        · have hq : a1 < 0 := by omega
          have hn5 : (n : Int) ≤ 5000 := by omega
          clear RB H2 HW
          go_enter Tryd.func4, Tryd.ntmps4
          go_wp2_with (first
            | (go_at_call 19; refine (R.out _).mono ?_; rintro e u1 ⟨rfl, hn⟩; have K1 := Lib.hid (K0.out.next hn); clear hn; have c0 := K1.out.c0; have c1 := K1.out.c1; have c2 := K1.out.c2; have c3 := K1.out.c3; have c4 := K1.out.c4)
            | (go_at_call 20; refine (SR.out _).mono ?_; rintro e u2 ⟨rfl, hn⟩; have K2 := Lib.hid (K1.out.next hn); clear hn; clear c0 c1 c2 c3 c4; have c0 := K2.out.c0; have c1 := K2.out.c1; have c2 := K2.out.c2; have c3 := K2.out.c3; have c4 := K2.out.c4)
            | (go_at_call 6; refine (AW.out _ (HG.out.next K2.out.bl)).mono ?_; rintro e v9 ⟨rfl, hn⟩; have K9 := Lib.hid (K2.out.next hn); clear hn))
          go_ret
          exact ⟨rfl, K9.out.bl⟩
      · have hn5 : (5000 : Int) < (n : Int) := by omega
        clear RB H2 HW
        go_enter Tryd.func4, Tryd.ntmps4
        go_wp2_with (first
          | (go_at_call 19; refine (R.out _).mono ?_; rintro e u1 ⟨rfl, hn⟩; have K1 := Lib.hid (K0.out.next hn); clear hn; have c0 := K1.out.c0; have c1 := K1.out.c1; have c2 := K1.out.c2; have c3 := K1.out.c3; have c4 := K1.out.c4)
          | (go_at_call 20; refine (SR.out _).mono ?_; rintro e u2 ⟨rfl, hn⟩; have K2 := Lib.hid (K1.out.next hn); clear hn; clear c0 c1 c2 c3 c4; have c0 := K2.out.c0; have c1 := K2.out.c1; have c2 := K2.out.c2; have c3 := K2.out.c3; have c4 := K2.out.c4)
          | (go_at_call 6; refine (AW.out _ (HG.out.next K2.out.bl)).mono ?_; rintro e v9 ⟨rfl, hn⟩; have K9 := Lib.hid (K2.out.next hn); clear hn))
        go_ret
        exact ⟨rfl, K9.out.bl⟩
    · obtain ⟨q, _, hq5, R⟩ := rwrong_no a0_0 a0_1 a0_2 a0_3 a0_4 hok
      have R := Lib.hid R
      have hq0 : (0 : Int) ≤ (q : Int) := by omega
      clear RB H2 HW
      go_enter Tryd.func4, Tryd.ntmps4
      go_wp2_with (first
        | (go_at_call 19; refine (R.out _).mono ?_; rintro e u1 ⟨rfl, hn⟩; have K1 := Lib.hid (K0.out.next hn); clear hn; have c0 := K1.out.c0; have c1 := K1.out.c1; have c2 := K1.out.c2; have c3 := K1.out.c3; have c4 := K1.out.c4)
        | (go_at_call 6; refine (AW.out _ (HG.out.next K1.out.bl)).mono ?_; rintro e v9 ⟨rfl, hn⟩; have K9 := Lib.hid (K1.out.next hn); clear hn))
      go_ret
      exact ⟨rfl, K9.out.bl⟩
  · have h100 : 100 < (len2 : Int) := by omega
    clear RB H2 HW
    go_enter Tryd.func4, Tryd.ntmps4
    go_wp2_with (first
      | (go_at_call 6; refine (AW.out _ (HG.out.next K0.out.bl)).mono ?_; rintro e v9 ⟨rfl, hn⟩; have K9 := Lib.hid (K0.out.next hn); clear hn))
    go_ret
    exact ⟨rfl, K9.out.bl⟩

set_option maxRecDepth 100000 in
theorem lifted (os : Os) (started : os.Started) (H : Type) (enc : TypeId × Value → H) :
    ReturnsInHanded {} Tryd.checked os 4 .any (fun w args => (Rows.advanceKeptSpec.pre enc Tryd.prog Tryd.f4 [] false w args ∧ laidMetH Tryd.prog laidVars w) ∧ sizedMet enc Tryd.prog Tryd.f4 (OpenSpec.ofChange Rows.advanceKeptSpec) false w args)
      (Rows.advanceKeptSpec.post enc Tryd.prog Tryd.f4 false true false false) := by
  refine returnsInHanded_of_change_and (C := Tryd.checked) (X := fun w _ => laidMetH Tryd.prog laidVars w) (fun _ _ _ hh h => h.of_heap hh) own started (by kernel_rfl) Tryd.func4
    (ChangeSpec.witness_shaped (enc := enc) (C := Tryd.checked) (os := os) (X := fun w _ => laidMetH Tryd.prog laidVars w) false (World.doorLaid Tryd.prog 400 os) #[.agg #[.int .i64 0, .int .i64 0, .int .i64 0, .int .i64 0, .int .i64 0], .int .i64 0, .slice none 0 0] 8 rfl (World.shaped_of_RefB (by kernel_rfl) (by kernel_rfl)) (by kernel_rfl) (by kernel_rfl) (by kernel_rfl) (door_met os _)) ?_
  intro W base args ds gs before hval0 hW _ _ hL _
  have hval : ∀ (j : Nat) t v, Tryd.f4.params[j]? = some t → args[j]? = some v → Value.okWide Tryd.prog W .any base t v := hval0
  have hW' := hW
  obtain ⟨p, q, hA0, hV, rfl, hfz, hnd⟩ := hW
  have hA : DataW.TrodAll enc Tryd.prog W 0 (fun _ => true) true Tryd.f4.params.toList args.toList ds p := hA0
  rw [Tryd.params4] at hA hval
  obtain ⟨v0, vs0, d0, ds0, p0, q0, hargs, rfl, rfl, h0, r0⟩ := trodAll_cons hA
  obtain ⟨v1, vs1, d1, ds1, p1, q1, rfl, rfl, rfl, h1, r1⟩ := trodAll_cons r0
  obtain ⟨v2, vs2, d2, ds2, p2, q2, rfl, rfl, rfl, h2, r2⟩ := trodAll_cons r1
  obtain ⟨rfl, rfl, rfl⟩ := trodAll_nil r2
  obtain rfl : args = #[v0, v1, v2] := by cases args; simp_all
  obtain ⟨rfl, rfl⟩ := trodVars_none hV
  have k0 := h0
  obtain ⟨ns0, h0l, h0v, h0w⟩ := open_intStruct [.i64, .i64, .i64, .i64, .i64] Tryd.underlying23 (by kernel_rfl) (by kernel_rfl) rfl (hval 0 23 v0 rfl rfl) h0
  obtain ⟨a0_0, a0_1, a0_2, a0_3, a0_4, rfl⟩ := list5 h0l
  obtain rfl : v0 = .agg #[.int .i64 a0_0, .int .i64 a0_1, .int .i64 a0_2, .int .i64 a0_3, .int .i64 a0_4] := h0v
  obtain ⟨a1, rfl, rfl, rfl, w1⟩ := open_int Tryd.underlying3 (hval 1 3 v1 rfl rfl) h1
  obtain ⟨A2, len2, cap2, rfl⟩ := okWide_slice Tryd.underlying50 (hval 2 50 v2 rfl rfl)
  have k2 := h2
  obtain ⟨b2, off2, rs2, hl2, hm2, hR2, hb2⟩ := open_rows [.i64, .u64] Tryd.underlying50 Tryd.underlying55 (by kernel_rfl) (by kernel_rfl) (by kernel_rfl) (by decide) h2
  clear hA0 hval0
  simp only [List.append_nil] at hW'
  have hlt0 : ∀ x ∈ p0, x.block < W.heap.size := fun x hx => by simpa using hW'.lt x (by simp [hx])
  have hlt2 : ∀ x ∈ p2, x.block < W.heap.size := fun x hx => by simpa using hW'.lt x (by simp [hx])
  refine (walk W (of_laid hL) a0_0 (h0w 0 .i64 _ rfl rfl) a0_1 (h0w 1 .i64 _ rfl rfl) a0_2 (h0w 2 .i64 _ rfl rfl) a0_3 (h0w 3 .i64 _ rfl rfl) a0_4 (h0w 4 .i64 _ rfl rfl) a1 w1 A2 len2 cap2 b2 off2 rs2 hl2 hm2 hR2 hb2).mono fun e W' ⟨he, hg⟩ => ?_
  subst he
  exact ⟨_, rfl, post_of_below2 (pv := []) hW' (fun _ _ _ => (trodAll_cons_mk (shut_bool Tryd.underlying4 _) trodAll_mk0)) (trodAll_cons_mk (Below.trod laidOut (by kernel_rfl) (of_decide_eq_true (by kernel_rfl)) k0 hg hlt0) (trodAll_cons_mk (shut_int Tryd.underlying3 w1) (trodAll_cons_mk (Below.trod laidOut (by kernel_rfl) (of_decide_eq_true (by kernel_rfl)) k2 hg hlt2) trodAll_mk0))) rfl (by simp) (hg.frame _)⟩

theorem over : Rows.advanceKeptRow.holds Tryd.pinned (OpenSpec.ofChange Rows.advanceKeptSpec) :=
  OpenClaim.holds_of_wide 4 Tryd.f4 rfl rfl rfl rfl rfl rfl rfl ⟨rfl, rfl, rfl, rfl, rfl⟩ rfl rfl rfl rfl rfl (by kernel_rfl) Tryd.func4 (by kernel_rfl)
    (of_decide_eq_true (by kernel_rfl)) (by unfold Func.isWrapper; first | (rw [if_pos (by decide +kernel)]; kernel_rfl) | (rw [if_neg (by decide +kernel)]; exact ⟨rfl, rfl⟩))
    (fun os started H enc _ => lifted os started H enc)

theorem row : Rows.AdvanceKeptSaid := over

theorem proved : Rows.AdvanceKeptCardSaid :=
  Claim7.holds_tied_plain_at .later [] [.handle, .data] true (true, "cc01790792e77f20f5da0e447faa1435422f9e388540bf2ee809e29fab843e27") true
    row (fun _ h => by cases h) (by kernel_rfl) (fun _ h => by cases h) advanceKept_row_tie rfl ⟨rfl, rfl⟩ (by kernel_rfl) rfl
    (fun f fn hf hfn => by
      obtain rfl : f = 4 := Option.some.inj ((show Tryd.prog.funcNamed "gleaning/gleaninglaw18.AdvanceKept" = some 4 by kernel_rfl).symm.trans hf) |>.symm
      obtain rfl : fn = Tryd.f4 := (Option.some.inj (Tryd.func4.symm.trans hfn)).symm
      exact ⟨by kernel_rfl, fun j t ht => by
        rw [Tryd.params4] at ht
        have hm : t ∈ [23, 3, 50] := by simpa using Array.mem_of_getElem? ht
        have hall : ([23, 3, 50].all fun u => !Tryd.prog.wantsStandIn u) = true := by kernel_rfl
        exact (show Tryd.prog.wantsStandIn t = false by simpa using List.all_eq_true.1 hall t hm)⟩)
    (by kernel_rfl)

#print axioms proved
end Go.Proofs.YthcmgagmbioofaaDoor.advanceKept
