/- gleaninglaw09.MemoryCuts: for every input the law returns true, and leaves its arguments as they were. The package-level variables that it reads hold what the program's text lays in them (a tied card); no other condition. -/
import Derived.Test.YtllkbofjegadeaaDoorRows
import Derived.WalkKit
import Derived.Test.YtllkbofjegadeaaDoorCards
import Derived.Test.YtllkbofjegadeaaDoorTie
import Derived.Test.YtllkbofjegadeaaDoorLaid
import Derived.SevenTiedAt
import Derived.Test.YtllkbofjegadeaaDoorOpenR
import Derived.Test.YtllkbofjegadeaaDoorOpen
import Derived.Deep.QuietTactic
import Derived.BigQuiet
import Derived.Deep.LoopGhost
import Derived.Deep.RegionHeld3
import Derived.Test.YtllkbofjegadeaaDoorMem11
import Derived.Test.YtllkbofjegadeaaDoorTail
import Derived.Test.YtllkbofjegadeaaDoorLaid
import Derived.Test.YtllkbofjegadeaaDoorOpen
import Derived.Test.YtllkbofjegadeaaDoorFrame
import Derived.ProofKit
import Derived.OpenShut
namespace Go.Proofs.YtllkbofjegadeaaDoor.memoryCuts
open Go.ChangeShapes Go.WideShapes Go.ChangeAt Go.RowKit
set_option linter.unusedVariables false

theorem own : ownKnob Tryd.prog.godebug = none := by kernel_rfl
theorem laidOut : laidOutB Tryd.prog = true := by kernel_rfl
theorem size_two (s t f l p : Int) (h : okC s t f l p) (n : Nat) (hn : sizeL s t f = n) : 1 < n := by
  have hb : (0 : Int) ≤ (s + 1) * (3 + 2 * f) ∧ (s + 1) * (3 + 2 * f) ≤ 1001 * 131 := mul_bd (by have := h.1; omega) (by have := h.1; omega) (by have := h.2.2.1; omega) (by have := h.2.2.1; omega) (by omega)
  have h1 := h.1; have h2 := h.2.1
  have e : sizeL s t f = 3 + t + 2 * t + (s + 1) * (3 + 2 * f) := by unfold sizeL; rw [if_neg (by omega)]
  omega

set_option maxRecDepth 100000 in
set_option maxHeartbeats 4000000 in
theorem walk (w : World) (hG : GL w) (a0_0 : Int) (w0_0 : (Lit.int .i64 a0_0).wf = true) (a0_1 : Int) (w0_1 : (Lit.int .i64 a0_1).wf = true) (a0_2 : Int) (w0_2 : (Lit.int .i64 a0_2).wf = true) (a0_3 : Int) (w0_3 : (Lit.int .i64 a0_3).wf = true) (a0_4 : Int) (w0_4 : (Lit.int .i64 a0_4).wf = true) (A1 : Option Addr) (len1 cap1 b1 off1 : Nat) (rs1 : List (List Int)) (hl1 : rs1.length = len1) (hm1 : len1 ≤ cap1 ∧ len1 ≤ maxLen) (hR1 : RdS w [.i64, .u64] A1 b1 off1 rs1) (hb1 : ∀ r ∈ rs1, wfRow [.i64, .u64] r) (a2 : Int) (w2 : (Lit.int .i64 a2).wf = true) (a3 : Int) (w3 : (Lit.int .i64 a3).wf = true) :
    Calls Tryd.prog 4 #[.agg #[.int .i64 a0_0, .int .i64 a0_1, .int .i64 a0_2, .int .i64 a0_3, .int .i64 a0_4], .slice A1 len1 cap1, .int .i64 a2, .int .i64 a3] w fun e w' => e = .returned (.bool true) ∧ Below w.heap.size w w' := by
  have AW := Lib.hid (fun W' h => awake9_any W' h)
  have HG := Lib.hid hG
  clear hG w0_0 w0_1 w0_2 w0_3 w0_4 w2 w3
  have H1 := Lib.hid (RW2.of_rows hR1 hb1)
  have HX0 := rows_lt rs1 hb1
  obtain ⟨ws, hws⟩ : ∃ q, rs1.map wqOf = q := ⟨_, rfl⟩
  rw [hws] at H1 HX0
  have HX := Lib.hid HX0
  have HW := Lib.hid (show ws.length = len1 by rw [← hws, List.length_map]; exact hl1)
  have HB1 := Lib.hid (show ∀ h1, w.heap.size < h1 → b1 ≠ h1 ∨ ws.length = 0 from fun h1 hh => by
    by_cases h0 : 0 < ws.length
    · exact .inl (Nat.ne_of_lt (Nat.lt_trans (H1.out.lt h0) hh))
    · exact .inr (by omega))
  clear hws hR1 hb1 hl1 HX0
  by_cases hlen : (len1 : Int) ≤ 200
  · have hln : len1 ≤ 200 := by omega
    by_cases hok : okC a0_0 a0_1 a0_2 a0_3 a0_4
    · obtain ⟨n, hn, h0, hbig⟩ := size_nat a0_0 a0_1 a0_2 a0_3 a0_4 hok
      have h1n : 1 < n := size_two a0_0 a0_1 a0_2 a0_3 a0_4 hok n hn
      by_cases h5 : n ≤ 5000
      · have SZ0 := fun W' => rsize_yes a0_0 a0_1 a0_2 a0_3 a0_4 hok W'
        rw [hn] at SZ0
        have RS := Lib.hid SZ0
        have MN := Lib.hid (fun W' h => mnew_yes a0_0 a0_1 a0_2 a0_3 a0_4 hok n hn h0 (by omega) W' h)
        have RN := Lib.hid (fun W' => rnew_yes a0_0 a0_1 a0_2 a0_3 a0_4 hok n hn (by omega) W')
        have CPY := Lib.hid (fun g gw (us : List Nat) (hu : us.length = n) W' h => mcopy_any g gw a0_0 a0_1 a0_2 a0_3 a0_4 us n hu h0 (by omega) W' (.inl hok) hn h)
        have WSS := Lib.hid (fun g gw (us : List Nat) (hu : us.length = n) W' h => mwords_sub g gw a0_0 a0_1 a0_2 a0_3 a0_4 us a2 a3 (by omega) W' (.inl hok) (by rw [hn, hu]) h)
        have WS1 := Lib.hid (fun g gw (us vs : List Nat) (v : Nat) (hu : us.length = n) (hv : vs = wr1 us (0, v)) W' h => mwords_one g gw a0_0 a0_1 a0_2 a0_3 a0_4 us vs n v hu (by omega) h1n hv W' (.inl hok) hn h)
        have hne : ((n : Int) == 0) = false := by simp; omega
        have hn5 : (n : Int) ≤ 5000 := by omega
        have hn0 : (0 : Int) < (n : Int) := by omega
        have hn1 : (1 : Int) ≤ (n : Int) := by omega
        have hmn : n ≤ maxLen := by unfold maxLen; omega
        have K0 := Lib.hid (CB.start w a0_0 a0_1 a0_2 a0_3 a0_4)
        have HL := Lib.hid hln
        clear hok hn SZ0
        go_enter Tryd.func4, Tryd.ntmps4
        go_wp2_with (first
          | (go_at_call 7; refine (RS.out _).mono ?_; rintro e u1 ⟨rfl, hn⟩; have K1 := Lib.hid (K0.out.next hn); clear hn; have c0' := K1.out.c0; have c1' := K1.out.c1; have c2' := K1.out.c2; have c3' := K1.out.c3; have c4' := K1.out.c4)
          | (go_at_call 9; refine (MN.out _ (HG.out.next K1.out.bl)).mono ?_; rintro e u2 ⟨g, gw, rfl, hg1, hg2, hm, hb⟩; have K2 := Lib.hid (K1.out.next hb); have HM := Lib.hid hm; have HS := Lib.hid (Nat.lt_of_lt_of_le (World.block_lt_of_cell? _ _ K1.out.c0) hg2); clear hg1 hg2 hm hb; clear c0' c1' c2' c3' c4'; have c0' := K2.out.c0; have c1' := K2.out.c1; have c2' := K2.out.c2; have c3' := K2.out.c3; have c4' := K2.out.c4)
          | (go_at_call 10; refine (RN.out _).mono ?_; rintro e u4 ⟨gr, rfl, hg1, hw, hb⟩; have P0 := Lib.hid (show PN w g gw gr a0_0 a0_1 a0_2 a0_3 a0_4 (List.replicate n 0) (List.replicate n 0) u4 from ⟨K2.out.next hb, HM.out.next hb, hw, HS.out, Nat.lt_of_lt_of_le (World.block_lt_of_cell? _ _ K2.out.c0) hg1, Nat.ne_of_lt (Nat.lt_of_lt_of_le HM.out.r.lt hg1), Nat.ne_of_lt (Nat.lt_of_lt_of_le HM.out.b.lt hg1)⟩); clear hg1 hw hb; clear c0' c1' c2' c3' c4')
          | (go_at_call 15; refine (mwrite_n g gw a0_0 a0_1 a0_2 a0_3 a0_4 (List.replicate n 0) ws (by simp; omega) len1 HW.out (by omega) A1 b1 off1 cap1 _ P0.out.m (H1.out.next P0.out.bl) (HB1.out gw P0.out.sw)).mono ?_; rintro e u5 ⟨⟨v5, rfl⟩, hm, hb⟩; have P1 := Lib.hid (P0.out.butm hm hb); clear hm hb))
        clear K0 K1 K2 HM HS RS MN RN P0
        have HU := Lib.hid (show (wrs (List.replicate n 0) ws).length = n by rw [wrs_len, List.length_replicate])
        have HLT := Lib.hid (wrs_lt (List.replicate n 0) ws (fun u hu => by rw [List.eq_of_mem_replicate hu]; decide) HX.out)
        have hlen0 : (0 : Int) ≤ (len1 : Int) := by omega
        go_loopg [11] len1 (fun gk i wr => ∃ (j : Nat) (vs : List Nat), j ≤ len1 ∧ gk = len1 - j ∧ i = .int .i64 j ∧ vs = wrs (List.replicate n 0) (ws.take j) ∧ PN w g gw gr a0_0 a0_1 a0_2 a0_3 a0_4 (wrs (List.replicate n 0) ws) vs wr)
        case atStart => exact ⟨0, List.replicate n 0, by omega, by omega, rfl, by simp [wrs], P1.out⟩
        case round =>
          clear P1
          obtain ⟨j, vs, hj, hgk, rfl, hvs, hp⟩ := hrel
          by_cases hlt : j < len1
          · have hjl : j < ws.length := by rw [HW.out]; exact hlt
            obtain rfl := H1.out.a (by omega)
            have hji : (j : Int) < (len1 : Int) := by omega
            have hj0 : (0 : Int) ≤ (j : Int) := by omega
            have hmx : len1 ≤ maxLen := by unfold maxLen; omega
            have q0 := (H1.out.next hp.bl).c0 j hjl
            have q1 := (H1.out.next hp.bl).c1 j hjl
            have SN := Lib.hid (wrs_snoc (List.replicate n 0) ws j hjl)
            rw [← hvs] at SN
            have HV := Lib.hid (show vs.length = n by rw [hvs, wrs_len, List.length_replicate])
            generalize ws.getD j (0, 0) = r at q0 q1 SN
            obtain ⟨a, x⟩ := r
            simp only at q0 q1 SN
            have HQ := Lib.hid (show QL w g gw gr a0_0 a0_1 a0_2 a0_3 a0_4 (wrs (List.replicate n 0) ws) vs b1 (off1 + j * 2) a x wr.drew from ⟨hp.next (Below.refl _ _).drew, q0, q1⟩)
            have RD0 := fun W' h => rdo_n gr n vs HV.out 2 a 0 x (by omega) W' h
            rw [doF_store] at RD0
            have RD := Lib.hid RD0
            clear hp hjl hvs q0 q1 RD0
            go_wp2
            refine wp_region_class_tail (C := QL w g gw gr a0_0 a0_1 a0_2 a0_3 a0_4 (wrs (List.replicate n 0) ws) vs b1 (off1 + j * 2) a x) 12 (by kernel_rfl) (by kernel_rfl) (HQ.out) ?_
            simp only [List.take_succ_cons, List.take_zero, List.drop_succ_cons, List.drop_zero]
            repeat (first
              | go_big_quiet_skip
              | (go_big_quiet_want; go_big_quiet_op; go_big_quiet_on)
              | (go_big_quiet_want; go_big_quiet_op; refine ⟨_, fun _ _ => rfl, ?_⟩; go_big_quiet_on)
              | (go_big_quiet_want
                 apply quiet_mk
                 · intro u hu
                   have k0 := hu.k0; have k1 := hu.k1
                   have HU := Lib.hid hu
                   clear hu
                   go_simp
                   first
                     | with_reducible rfl
                     | (fail)
                 simp only [Act.put, List.setIfInBounds_toArray, List.set_cons_zero, List.set_cons_succ]
                 go_big_quiet_on))
            refine wpQuiet_nil ?_
            intro u hu
            have HP := Lib.hid hu.toPN
            clear hu HQ
            go_wp2_with (go_at_call 12; refine (RD.out _ HP.out.r).mono ?_; rintro e w2 ⟨rfl, hr2, hb2⟩; have HP2 := Lib.hid (HP.out.butr hr2 hb2); clear hr2 hb2)
            go_roundg (len1 - (j + 1))
            case rel => exact ⟨j + 1, _, by omega, rfl, by go_num, SN.out.symm, HP2.out⟩
            case measure => omega
          · obtain rfl : j = len1 := by omega
            have hvs2 : vs = wrs (List.replicate n 0) ws := by rw [hvs, ← HW.out, List.take_length]
            subst hvs2
            have HP := Lib.hid hp
            have hmem : (wrs (List.replicate n 0) ws).getD 0 0 < 18446744073709551616 := HLT.out _ (mem_getD _ 0 0 (by rw [HU.out]; exact h0))
            obtain ⟨v, hv⟩ := wrap_nat _ hmem
            clear hp hmem hvs HLT
            generalize wrs (List.replicate n 0) ws = us at HP HU hv
            have CP2 := Lib.hid (CPY.out g gw us HU.out _ HP.out.m)
            obtain ⟨z, hz⟩ : ∃ z, us.getD 0 0 = z := ⟨_, rfl⟩
            rw [hz] at hv
            have WD0 := fun W' h => mword_any g gw a0_0 a0_1 a0_2 a0_3 a0_4 us 0 (by rw [HU.out]; omega) W' h
            rw [word_first us (by rw [HU.out]; exact h0), hz] at WD0
            have WDM := Lib.hid WD0
            have HZ := Lib.hid (fun W' (h : WB gr us W') => show W'.cell? ⟨gr, 0, none⟩ = some (.int .u64 (z : Nat)) by have := h.wd 0 (by rw [HU.out]; exact h0); rw [hz] at this; exact this)
            clear WD0 hz
            have t1 : True := trivial
            have t2 : True := trivial
            have t3 : True := trivial
            have t4 : True := trivial
            have t5 : True := trivial
            go_wp2_with (go_at_call 16; refine CP2.out.mono ?_; rintro e v1 ⟨g2, h2, rfl, hg1, hg2, hm, hb⟩; have HO := Lib.hid (show PO w g gw gr g2 h2 a0_0 a0_1 a0_2 a0_3 a0_4 us us us v1 from ⟨HP.out.next hb, hm, Nat.lt_of_lt_of_le (World.block_lt_of_cell? _ _ HP.out.q.c0) hg2, Nat.ne_of_lt (Nat.lt_of_lt_of_le HP.out.m.r.lt hg2), Nat.ne_of_lt (Nat.lt_of_lt_of_le HP.out.m.b.lt hg2), Nat.ne_of_lt (Nat.lt_of_lt_of_le HP.out.r.lt hg2)⟩); have HG2 := Lib.hid (Nat.ne_of_gt (Nat.lt_of_lt_of_le HP.out.r.lt hg1)); clear hg1 hg2 hm hb)
            have HC := Lib.hid (show QC w g2 a0_0 a0_1 a0_2 a0_3 a0_4 v1 v1.drew from ⟨(HO.out.q.next (Below.refl _ _).drew), HO.out.n.r.c0, HO.out.n.r.c1, HO.out.n.r.c2, HO.out.n.r.c3, HO.out.n.r.c4, (Below.refl _ _).drew⟩)
            have CG := Lib.hid (fun W' => config_any a0_0 a0_1 a0_2 a0_3 a0_4 W')
            refine wp_region_class (C := QC w g2 a0_0 a0_1 a0_2 a0_3 a0_4 v1) (by kernel_rfl) (by kernel_rfl) (HC.out) ?_
            repeat (first
              | go_big_quiet_skip
              | (go_big_quiet_want; go_big_quiet_op; go_big_quiet_on)
              | (go_big_quiet_want; go_big_quiet_op; refine ⟨_, fun _ _ => rfl, ?_⟩; go_big_quiet_on)
              | (go_big_quiet_want
                 apply quiet_mk
                 · intro u hu
                   have c0 := hu.c0; have c1 := hu.c1; have c2 := hu.c2; have c3 := hu.c3; have c4 := hu.c4; have e0 := hu.e0; have e1 := hu.e1; have e2 := hu.e2; have e3 := hu.e3; have e4 := hu.e4
                   have HU := Lib.hid hu
                   clear hu
                   go_simp
                   first
                     | with_reducible rfl
                     | (go_at_call 17; refine (CG.out _).mono ?_; rintro e w' ⟨rfl, hn⟩; exact ⟨rfl, HU.out.next hn⟩)
                 simp only [Act.put, List.setIfInBounds_toArray, List.set_cons_zero, List.set_cons_succ]
                 go_big_quiet_on))
            refine wpQuiet_nil ?_
            intro u hu
            have HO1 := Lib.hid (HO.out.next hu.br)
            clear hu HC HO HP
            go_wp2_with (first
              | (go_at_call 18; have _t := t1; refine (WDM.out _ HO1.out.m).mono ?_; rintro e v2 ⟨rfl, rfl⟩; clear t1)
              | (go_at_call 15; refine (mwrite_one2 g2 h2 a0_0 a0_1 a0_2 a0_3 a0_4 us 0 v _ (by rw [HU.out]; omega) _ rfl HO1.out.n).mono ?_; rintro e v3 ⟨⟨v4, rfl⟩, hm, hb⟩; have HO2 := Lib.hid (HO1.out.butn hm hb); clear hm hb))
            have HL3 := Lib.hid HO2.out.lts
            generalize hB3 : v3.heap.size = B3 at HL3
            have HB3 := Lib.hid hB3
            clear hB3 HO1 CP2 CPY
            obtain ⟨x, hx⟩ : ∃ x : Nat, (max a2 0).toNat = x := ⟨_, rfl⟩
            obtain ⟨y, hy⟩ : ∃ y : Nat, (min a3 (n : Int)).toNat = y := ⟨_, rfl⟩
            have HXE := Lib.hid hx
            have HYE := Lib.hid hy
            have hyn : y ≤ n := by omega
            have HYN := Lib.hid hyn
            clear hx hy hyn
            obtain ⟨i0, hi, hz0, hz1, hz2⟩ := info_parts infoWd
            have HI := Lib.hid (And.intro hi (And.intro hz0 (And.intro hz1 hz2)))
            clear hi hz0 hz1 hz2
            go_loopg [13, 14] n (fun gk want i wr => ∃ (j : Nat), j ≤ n ∧ gk = n - j ∧ i = .int .i64 j ∧ wr.ownsRow B3 31 1 want (subL us x (min y j)).length (wvs (subL us x (min y j))) ∧ B3 ≤ wr.heap.size ∧ PO w g gw gr g2 h2 a0_0 a0_1 a0_2 a0_3 a0_4 us us (wr1 us (0, v)) wr)
            case atStart => exact ⟨0, by omega, by omega, rfl, by rw [Nat.min_zero]; unfold subL; rw [Nat.zero_sub, List.take_zero]; exact World.ownsRow_nil _ _ _ _, Nat.le_of_eq HB3.out.symm, HO2.out⟩
            case round =>
              clear HO2
              obtain ⟨j, hj, hgk, rfl, hown, hB, hp⟩ := hrel
              by_cases hlt : j < n
              · have hji : (j : Int) < (n : Int) := by omega
                have hj0 : (0 : Int) ≤ (j : Int) := by omega
                have HP := Lib.hid hp
                have HOW := Lib.hid hown
                have HBB := Lib.hid hB
                have SL := Lib.hid (show (subL us x (min y j)).length ≤ 5000 by have := subL_le us x (min y j); have := HU.out; omega)
                by_cases hc : x ≤ j ∧ j < y
                · have hf1 : a2 ≤ (j : Int) := by have := HXE.out; omega
                  have hf2 : (j : Int) < a3 := by have := HYE.out; omega
                  have hxr := hp.r.wd j (by rw [HU.out]; exact hlt)
                  have SN := Lib.hid (sub_step us x y j (by rw [HU.out]; exact hlt) hc.1 hc.2)
                  clear hc hp hown hB
                  generalize us.getD j 0 = c at hxr SN
                  generalize subL us x (min y j) = zs at HOW SL SN
                  have HOW1 := Lib.hid (rowNext HOW.out (ml1 wr (.cells #[.int .u64 (c : Nat)] 31)))
                  have HP1 := Lib.hid (HP.out.next (ml1 wr (.cells #[.int .u64 (c : Nat)] 31)))
                  have HB1' := Lib.hid (show B3 ≤ (wr.alloc (.cells #[.int .u64 (c : Nat)] 31)).heap.size by have := HBB.out; simp; omega)
                  go_wp2_with (at_builtin; refine wpList_append_own_at _ rfl _ _ 29 rfl B3 31 i0 (.int .u64 0) 1 8 sliceWd HI.out.1 HI.out.2.1 HI.out.2.2.1 HI.out.2.2.2 rfl (by decide) _ _ _ rfl HOW1.out ⟨wr.heap.size, 0, none⟩ 1 1 [.int .u64 (c : Nat)] rfl rfl (cell_one_new _ _ _) (by simp [Value.oneCell']) (by have := SL.out; unfold maxLen; omega) (by have := SL.out; omega) HB1'.out ?_; intro v' w2 hown2 hgrow _ _; have HO2 := Lib.hid hown2; have HX2 := Lib.hid ((Below.refl B3 _).grown hgrow HB1'.out (fun k e => (HOW1.out.lt k e).1)); clear hown2 hgrow)
                  go_roundg (n - (j + 1))
                  case rel => exact ⟨j + 1, by omega, rfl, by go_num, by rw [SN.out]; have := HO2.out; simpa [wvs] using this, Nat.le_trans HB1'.out HX2.out.size, HP1.out.under HX2.out HL3.out⟩
                  case measure => omega
                · have SN := Lib.hid (sub_stay us x y j hc)
                  clear hp hown hB
                  by_cases hf1 : a2 ≤ (j : Int)
                  · have hf2 : ¬ (j : Int) < a3 := fun h => hc ⟨by have := HXE.out; omega, by have := HYE.out; omega⟩
                    clear hc
                    go_wp2
                    go_roundg (n - (j + 1))
                    case rel => exact ⟨j + 1, by omega, rfl, by go_num, by rw [SN.out]; exact HOW.out, HBB.out, HP.out⟩
                    case measure => omega
                  · clear hc
                    go_wp2
                    go_roundg (n - (j + 1))
                    case rel => exact ⟨j + 1, by omega, rfl, by go_num, by rw [SN.out]; exact HOW.out, HBB.out, HP.out⟩
                    case measure => omega
              · obtain rfl : j = n := by omega
                rw [show min y j = y by have := HYN.out; omega] at hown
                obtain ⟨A3, c3, b3, rfl, hsr, _⟩ := SR.of_own hown
                have WSA0 := fun W' h => WSS.out g gw us HU.out W' h
                rw [HU.out, HXE.out, HYE.out] at WSA0
                have WSA := Lib.hid WSA0
                have WDN0 := fun W' h => mword_any g2 h2 a0_0 a0_1 a0_2 a0_3 a0_4 (wr1 us (0, v)) 0 (by rw [wr1_len, HU.out]; omega) W' h
                rw [word_zero us v (by rw [HU.out]; exact h0)] at WDN0
                have WDN := Lib.hid WDN0
                have WDT := Lib.hid (fun W' h => mword_any g gw a0_0 a0_1 a0_2 a0_3 a0_4 us a3 (by rw [HU.out]; omega) W' h)
                have RD0 := fun W' h => rdo_n gr j us HU.out 1 a3 0 0 (by omega) W' h
                rw [doF_load] at RD0
                have RD := Lib.hid RD0
                have WS1' := Lib.hid (fun W' h => WS1.out g2 h2 us (wr1 us (0, v)) v HU.out rfl W' h)
                have SL := Lib.hid (show (subL us x y).length ≤ 100000 by have := subL_le us x y; have := HU.out; omega)
                have TL := Lib.hid (fun W' (h : WB gr us W') => SR.tail h HU.out (by omega) (by omega))
                have TN := Lib.hid (show (subL us 1 j).length = j - 1 by rw [subL_len _ _ _ (by rw [HU.out]; exact Nat.le_refl _)])
                clear WSA0 WDN0 RD0 hown hB
                generalize subL us x y = zs at WSA hsr SL
                generalize subL us 1 j = ts at WS1' TL TN
                generalize wordF us a3 = k3 at WDT RD
                have R3 := Lib.hid hsr
                have KA := Lib.hid (hp.next (Below.refl _ _).drew)
                have R3a := Lib.hid (R3.out.next (Below.refl _ _).drew)
                have hs : (fun w' => w'.cell? ⟨gr, 0, none⟩ = some (.int .u64 (z : Nat)) ∧ Below w.heap.size w w') _ := ⟨HZ.out _ KA.out.r, KA.out.bl⟩
                clear hp hsr
                go_wp2
                go_region_held3 (fun w' => w'.cell? ⟨gr, 0, none⟩ = some (.int .u64 (z : Nat)) ∧ Below w.heap.size w w') (first | with_reducible exact hs | exact hs)
                  (first
                  | (go_at_call 14; have _t := t2; refine (WSA.out _ KA.out.m).mono ?_; rintro e k1 ⟨A4, c4, b4, rfl, hs4, hn⟩; clear t2; have KB := Lib.hid (KA.out.next hn); have R3b := Lib.hid (R3a.out.next hn); have R4 := Lib.hid hs4; have hs : (fun w' => w'.cell? ⟨gr, 0, none⟩ = some (.int .u64 (z : Nat)) ∧ Below w.heap.size w w') _ := ⟨HZ.out _ KB.out.r, KB.out.bl⟩; clear hs4 hn)
                  | (go_at_call 13; have _t := t3; refine (rwords_any zs SL.out A4 A3 c4 c3 b4 0 b3 0 _ R4.out R3b.out).mono ?_; rintro e k2 ⟨rfl, hn⟩; clear t3; have KC := Lib.hid (KB.out.next hn); have hs : (fun w' => w'.cell? ⟨gr, 0, none⟩ = some (.int .u64 (z : Nat)) ∧ Below w.heap.size w w') _ := ⟨HZ.out _ KC.out.r, KC.out.bl⟩; clear hn)
                  | (go_at_call 14; refine (WS1'.out _ KC.out.n).mono ?_; rintro e k3' ⟨A5, c5, b5, rfl, hs5, hn⟩; have KD := Lib.hid (KC.out.next hn); have R5 := Lib.hid hs5; have hs : (fun w' => w'.cell? ⟨gr, 0, none⟩ = some (.int .u64 (z : Nat)) ∧ Below w.heap.size w w') _ := ⟨HZ.out _ KD.out.r, KD.out.bl⟩; clear hs5 hn)
                  | (go_at_call 13; refine (rwords_n ts (j - 1) TN.out (by omega) A5 _ c5 _ b5 0 _ _ _ R5.out (TL.out _ KD.out.r)).mono ?_; rintro e k4 ⟨rfl, hn⟩; have KE := Lib.hid (KD.out.next hn); have hs : (fun w' => w'.cell? ⟨gr, 0, none⟩ = some (.int .u64 (z : Nat)) ∧ Below w.heap.size w w') _ := ⟨HZ.out _ KE.out.r, KE.out.bl⟩; clear hn)
                  | (go_at_call 18; have _t := t4; refine (WDM.out _ KE.out.m).mono ?_; rintro e k5 ⟨rfl, rfl⟩; clear t4; have hs : (fun w' => w'.cell? ⟨gr, 0, none⟩ = some (.int .u64 (z : Nat)) ∧ Below w.heap.size w w') _ := ⟨HZ.out _ KE.out.r, KE.out.bl⟩)
                  | (go_at_call 18; have _t := t5; refine (WDN.out _ KE.out.n).mono ?_; rintro e k6 ⟨rfl, rfl⟩; clear t5; have hs : (fun w' => w'.cell? ⟨gr, 0, none⟩ = some (.int .u64 (z : Nat)) ∧ Below w.heap.size w w') _ := ⟨HZ.out _ KE.out.r, KE.out.bl⟩)
                  | (go_at_call 18; refine (WDT.out _ KE.out.m).mono ?_; rintro e k7 ⟨rfl, rfl⟩; have hs : (fun w' => w'.cell? ⟨gr, 0, none⟩ = some (.int .u64 (z : Nat)) ∧ Below w.heap.size w w') _ := ⟨HZ.out _ KE.out.r, KE.out.bl⟩)
                  | (go_at_call 12; refine (RD.out _ KE.out.r).mono ?_; rintro e k8 ⟨rfl, hr, hb⟩; have KF := Lib.hid (KE.out.butr hr hb HG2.out); have hs : (fun w' => w'.cell? ⟨gr, 0, none⟩ = some (.int .u64 (z : Nat)) ∧ Below w.heap.size w w') _ := ⟨HZ.out _ KF.out.r, KF.out.bl⟩; clear hr hb)
                  | (go_at_call 8; refine (AW.out _ (HG.out.next KF.out.bl)).mono ?_; rintro e k9 ⟨rfl, hn⟩; have KH := Lib.hid (KF.out.next hn); have hs : (fun w' => w'.cell? ⟨gr, 0, none⟩ = some (.int .u64 (z : Nat)) ∧ Below w.heap.size w w') _ := ⟨HZ.out _ KH.out.r, KH.out.bl⟩; clear hn))
                all_goals (
                  clear hs
                  go_wp2
                  go_ret
                  exact ⟨rfl, KH.out.bl⟩)
      · have SZ0 := fun W' => rsize_yes a0_0 a0_1 a0_2 a0_3 a0_4 hok W'
        rw [hn] at SZ0
        have RS := Lib.hid SZ0
        have hn5 : (5000 : Int) < (n : Int) := by omega
        have K0 := Lib.hid (CB.start w a0_0 a0_1 a0_2 a0_3 a0_4)
        clear hok hn SZ0
        go_enter Tryd.func4, Tryd.ntmps4
        go_wp2_with (first
          | (go_at_call 7; refine (RS.out _).mono ?_; rintro e u1 ⟨rfl, hn⟩; have K1 := Lib.hid (K0.out.next hn); clear hn)
          | (go_at_call 8; refine (AW.out _ (HG.out.next K1.out.bl)).mono ?_; rintro e v3 ⟨rfl, hn⟩; have K2 := Lib.hid (K1.out.next hn); clear hn))
        go_ret
        exact ⟨rfl, K2.out.bl⟩
    · have RS := Lib.hid (fun W' => rsize_no a0_0 a0_1 a0_2 a0_3 a0_4 hok W')
      have MN := Lib.hid (fun W' h => mnew_no a0_0 a0_1 a0_2 a0_3 a0_4 hok W' h)
      have RN := Lib.hid (fun W' => rnew_no a0_0 a0_1 a0_2 a0_3 a0_4 hok W')
      have K0 := Lib.hid (CB.start w a0_0 a0_1 a0_2 a0_3 a0_4)
      clear hok
      go_enter Tryd.func4, Tryd.ntmps4
      go_wp2_with (first
        | (go_at_call 7; refine (RS.out _).mono ?_; rintro e u1 ⟨rfl, hn⟩; have K1 := Lib.hid (K0.out.next hn); clear hn; have c0' := K1.out.c0; have c1' := K1.out.c1; have c2' := K1.out.c2; have c3' := K1.out.c3; have c4' := K1.out.c4)
        | (go_at_call 9; refine (MN.out _ (HG.out.next K1.out.bl)).mono ?_; rintro e u2 ⟨rfl, hb⟩; have K2 := Lib.hid (K1.out.next hb); clear hb; clear c0' c1' c2' c3' c4'; have c0' := K2.out.c0; have c1' := K2.out.c1; have c2' := K2.out.c2; have c3' := K2.out.c3; have c4' := K2.out.c4)
        | (go_at_call 10; refine (RN.out _).mono ?_; rintro e u4 ⟨gr, rfl, hg1, hw, hb⟩; have K3 := Lib.hid (K2.out.next hb); clear hg1 hw hb; clear c0' c1' c2' c3' c4')
        | (go_at_call 8; refine (AW.out _ (HG.out.next K3.out.bl)).mono ?_; rintro e v3 ⟨rfl, hn⟩; have K4 := Lib.hid (K3.out.next hn); clear hn))
      go_ret
      exact ⟨rfl, K4.out.bl⟩
  · have K0 := Lib.hid (CB.start w a0_0 a0_1 a0_2 a0_3 a0_4)
    go_enter Tryd.func4, Tryd.ntmps4
    go_wp2_with (first
      | (go_at_call 8; refine (AW.out _ (HG.out.next K0.out.bl)).mono ?_; rintro e v3 ⟨rfl, hn⟩; have K2 := Lib.hid (K0.out.next hn); clear hn))
    go_ret
    exact ⟨rfl, K2.out.bl⟩

set_option maxRecDepth 100000 in
theorem lifted (os : Os) (started : os.Started) (H : Type) (enc : TypeId × Value → H) :
    ReturnsInHanded {} Tryd.checked os 4 .any (fun w args => (Rows.memoryCutsSpec.pre enc Tryd.prog Tryd.f4 [] false w args ∧ laidMetH Tryd.prog laidVars w) ∧ sizedMet enc Tryd.prog Tryd.f4 (OpenSpec.ofChange Rows.memoryCutsSpec) false w args)
      (Rows.memoryCutsSpec.post enc Tryd.prog Tryd.f4 false true false false) := by
  refine returnsInHanded_of_change_and (C := Tryd.checked) (X := fun w _ => laidMetH Tryd.prog laidVars w) (fun _ _ _ hh h => h.of_heap hh) own started (by kernel_rfl) Tryd.func4
    (ChangeSpec.witness_shaped (enc := enc) (C := Tryd.checked) (os := os) (X := fun w _ => laidMetH Tryd.prog laidVars w) false (World.doorLaid Tryd.prog 400 os) #[.agg #[.int .i64 0, .int .i64 0, .int .i64 0, .int .i64 0, .int .i64 0], .slice none 0 0, .int .i64 0, .int .i64 0] 8 rfl (World.shaped_of_RefB (by kernel_rfl) (by kernel_rfl)) (by kernel_rfl) (by kernel_rfl) (by kernel_rfl) (door_met os _)) ?_
  intro W base args ds gs before hval0 hW _ _ hL _
  have hval : ∀ (j : Nat) t v, Tryd.f4.params[j]? = some t → args[j]? = some v → Value.okWide Tryd.prog W .any base t v := hval0
  have hW' := hW
  obtain ⟨p, q, hA0, hV, rfl, hfz, hnd⟩ := hW
  have hA : DataW.TrodAll enc Tryd.prog W 0 (fun _ => true) true Tryd.f4.params.toList args.toList ds p := hA0
  rw [Tryd.params4] at hA hval
  obtain ⟨v0, vs0, d0, ds0, p0, q0, hargs, rfl, rfl, h0, r0⟩ := trodAll_cons hA
  obtain ⟨v1, vs1, d1, ds1, p1, q1, rfl, rfl, rfl, h1, r1⟩ := trodAll_cons r0
  obtain ⟨v2, vs2, d2, ds2, p2, q2, rfl, rfl, rfl, h2, r2⟩ := trodAll_cons r1
  obtain ⟨v3, vs3, d3, ds3, p3, q3, rfl, rfl, rfl, h3, r3⟩ := trodAll_cons r2
  obtain ⟨rfl, rfl, rfl⟩ := trodAll_nil r3
  obtain rfl : args = #[v0, v1, v2, v3] := by cases args; simp_all
  obtain ⟨rfl, rfl⟩ := trodVars_none hV
  have k0 := h0
  obtain ⟨ns0, h0l, h0v, h0w⟩ := open_intStruct [.i64, .i64, .i64, .i64, .i64] Tryd.underlying23 (by kernel_rfl) (by kernel_rfl) rfl (hval 0 23 v0 rfl rfl) h0
  obtain ⟨a0_0, a0_1, a0_2, a0_3, a0_4, rfl⟩ := list5 h0l
  obtain rfl : v0 = .agg #[.int .i64 a0_0, .int .i64 a0_1, .int .i64 a0_2, .int .i64 a0_3, .int .i64 a0_4] := h0v
  obtain ⟨A1, len1, cap1, rfl⟩ := okWide_slice Tryd.underlying39 (hval 1 39 v1 rfl rfl)
  have k1 := h1
  obtain ⟨b1, off1, rs1, hl1, hm1, hR1, hb1⟩ := open_rows [.i64, .u64] Tryd.underlying39 Tryd.underlying42 (by kernel_rfl) (by kernel_rfl) (by kernel_rfl) (by decide) h1
  obtain ⟨a2, rfl, rfl, rfl, w2⟩ := open_int Tryd.underlying3 (hval 2 3 v2 rfl rfl) h2
  obtain ⟨a3, rfl, rfl, rfl, w3⟩ := open_int Tryd.underlying3 (hval 3 3 v3 rfl rfl) h3
  clear hA0 hval0
  simp only [List.append_nil] at hW'
  have hlt0 : ∀ x ∈ p0, x.block < W.heap.size := fun x hx => by simpa using hW'.lt x (by simp [hx])
  have hlt1 : ∀ x ∈ p1, x.block < W.heap.size := fun x hx => by simpa using hW'.lt x (by simp [hx])
  refine (walk W (of_laid hL) a0_0 (h0w 0 .i64 _ rfl rfl) a0_1 (h0w 1 .i64 _ rfl rfl) a0_2 (h0w 2 .i64 _ rfl rfl) a0_3 (h0w 3 .i64 _ rfl rfl) a0_4 (h0w 4 .i64 _ rfl rfl) A1 len1 cap1 b1 off1 rs1 hl1 hm1 hR1 hb1 a2 w2 a3 w3).mono fun e W' ⟨he, hg⟩ => ?_
  subst he
  exact ⟨_, rfl, post_of_below2 (pv := []) hW' (fun _ _ _ => (trodAll_cons_mk (shut_bool Tryd.underlying4 _) trodAll_mk0)) (trodAll_cons_mk (Below.trod laidOut (by kernel_rfl) (of_decide_eq_true (by kernel_rfl)) k0 hg hlt0) (trodAll_cons_mk (Below.trod laidOut (by kernel_rfl) (of_decide_eq_true (by kernel_rfl)) k1 hg hlt1) (trodAll_cons_mk (shut_int Tryd.underlying3 w2) (trodAll_cons_mk (shut_int Tryd.underlying3 w3) trodAll_mk0)))) rfl (by simp) (hg.frame _)⟩

theorem over : Rows.memoryCutsRow.holds Tryd.pinned (OpenSpec.ofChange Rows.memoryCutsSpec) :=
  OpenClaim.holds_of_wide 4 Tryd.f4 rfl rfl rfl rfl rfl rfl rfl ⟨rfl, rfl, rfl, rfl, rfl⟩ rfl rfl rfl rfl rfl (by kernel_rfl) Tryd.func4 (by kernel_rfl)
    (of_decide_eq_true (by kernel_rfl)) (by unfold Func.isWrapper; first | (rw [if_pos (by decide +kernel)]; kernel_rfl) | (rw [if_neg (by decide +kernel)]; exact ⟨rfl, rfl⟩))
    (fun os started H enc _ => lifted os started H enc)

theorem row : Rows.MemoryCutsSaid := over

theorem proved : Rows.MemoryCutsCardSaid :=
  Claim7.holds_tied_plain_at .later [] [.handle, .data] true (true, "3995999843d9e93109bc0ec46c8edbeffe82842deb00a246e54f8453be661631") true
    row (fun _ h => by cases h) (by kernel_rfl) (fun _ h => by cases h) memoryCuts_row_tie rfl ⟨rfl, rfl⟩ (by kernel_rfl) rfl
    (fun f fn hf hfn => by
      obtain rfl : f = 4 := Option.some.inj ((show Tryd.prog.funcNamed "gleaning/gleaninglaw09.MemoryCuts" = some 4 by kernel_rfl).symm.trans hf) |>.symm
      obtain rfl : fn = Tryd.f4 := (Option.some.inj (Tryd.func4.symm.trans hfn)).symm
      exact ⟨by kernel_rfl, fun j t ht => by
        rw [Tryd.params4] at ht
        have hm : t ∈ [23, 39, 3, 3] := by simpa using Array.mem_of_getElem? ht
        have hall : ([23, 39, 3, 3].all fun u => !Tryd.prog.wantsStandIn u) = true := by kernel_rfl
        exact (show Tryd.prog.wantsStandIn t = false by simpa using List.all_eq_true.1 hall t hm)⟩)
    (by kernel_rfl)

#print axioms proved
end Go.Proofs.YtllkbofjegadeaaDoor.memoryCuts
