/- gleaninglaw18.AdvanceValues: for every input the law returns true, and leaves its arguments as they were. The package-level variables that it reads hold what the program's text lays in them (a tied card); no other condition. -/
import Derived.Test.YthcmgagmbioofaaDoorRows
import Derived.WalkKit
import Derived.Test.YthcmgagmbioofaaDoorCards
import Derived.Test.YthcmgagmbioofaaDoorTie
import Derived.Test.YthcmgagmbioofaaDoorLaid
import Derived.SevenTiedAt
import Derived.Test.YthcmgagmbioofaaDoorOpen
import Derived.Deep.QuietTactic
import Derived.BigQuiet
import Derived.Deep.LoopGhost
import Derived.Test.YthcmgagmbioofaaDoorAdv4
import Derived.Test.YthcmgagmbioofaaDoorTail
import Derived.Test.YthcmgagmbioofaaDoorLaid
import Derived.Test.YthcmgagmbioofaaDoorOpen
import Derived.Test.YthcmgagmbioofaaDoorFrame
import Derived.ProofKit
import Derived.OpenShut
namespace Go.Proofs.YthcmgagmbioofaaDoor.advanceValues
open Go.ChangeShapes Go.WideShapes Go.ChangeAt Go.RowKit
set_option linter.unusedVariables false

theorem own : ownKnob Tryd.prog.godebug = none := by kernel_rfl
theorem laidOut : laidOutB Tryd.prog = true := by kernel_rfl
theorem cells28 : Tryd.prog.cellsOf 28 = 1 := by kernel_rfl

set_option maxRecDepth 100000 in
set_option maxHeartbeats 4000000 in
theorem walk (w : World) (hG : GL w) (a0_0 : Int) (w0_0 : (Lit.int .i64 a0_0).wf = true) (a0_1 : Int) (w0_1 : (Lit.int .i64 a0_1).wf = true) (a0_2 : Int) (w0_2 : (Lit.int .i64 a0_2).wf = true) (a0_3 : Int) (w0_3 : (Lit.int .i64 a0_3).wf = true) (a0_4 : Int) (w0_4 : (Lit.int .i64 a0_4).wf = true) (a1 : Int) (w1 : (Lit.int .i64 a1).wf = true) (A2 : Option Addr) (len2 cap2 b2 off2 : Nat) (zs2 : List Int) (hl2 : zs2.length = len2) (hm2 : len2 ≤ cap2 ∧ len2 ≤ maxLen) (hA2 : 0 < len2 → A2 = some ⟨b2, off2, none⟩ ∧ b2 < w.heap.size) (hc2 : ∀ i, i < len2 → w.cell? ⟨b2, off2 + i, none⟩ = some (.int .u64 (zs2.getD i 0))) (hw2 : ∀ n ∈ zs2, (Lit.int .u64 n).wf = true) :
    Calls Tryd.prog 5 #[.agg #[.int .i64 a0_0, .int .i64 a0_1, .int .i64 a0_2, .int .i64 a0_3, .int .i64 a0_4], .int .i64 a1, .slice A2 len2 cap2] w fun e w' => e = .returned (.bool true) ∧ Below w.heap.size w w' := by
  have AW := Lib.hid awake18_any
  have HG := Lib.hid hG
  have hz63 : ∀ j, j < len2 → ∃ n : Nat, zs2.getD j 0 = n ∧ n < 18446744073709551616 := by
    intro j hj
    have hm : zs2.getD j 0 ∈ zs2 := by
      have h : j < zs2.length := by omega
      rw [List.getD_eq_getElem?_getD, List.getElem?_eq_getElem h]; exact List.getElem_mem h
    have hw := hw2 _ hm
    have h1 := u64_lo hw; have h2 := u64_hi hw
    exact ⟨(zs2.getD j 0).toNat, by omega, by omega⟩
  by_cases hlen : (len2 : Int) ≤ 100
  · have HC := Lib.hid hc2
    have HA := Lib.hid hA2
    have HZ := Lib.hid hz63
    have hln : len2 ≤ 100 := by omega
    obtain ⟨s, t, f, l, p, hok, hN⟩ := new_ex a0_0 a0_1 a0_2 a0_3 a0_4
    have b1 := below1 w (.cells #[.int .i64 a0_0, .int .i64 a0_1, .int .i64 a0_2, .int .i64 a0_3, .int .i64 a0_4] 23)
    have N := Lib.hid (hN _ (hG.next b1))
    have B1 := Lib.hid b1
    obtain ⟨x0, hAOK, hE⟩ := anew_ex s t f l p a1 hok
    have E := Lib.hid hE
    have OK := Lib.hid (hAOK.run zs2 len2 hz63)
    clear hN hE hok hAOK b1 hG hc2 hA2 hw2 hz63 w0_0 w0_1 w0_2 w0_3 w0_4 w1
    go_enter Tryd.func5, Tryd.ntmps5
    go_wp2_with (first | (go_at_call 8; refine N.out.mono ?_; rintro e u1 ⟨rfl, hn⟩; have h1 := Lib.hid (B1.out.trans (hn.mono B1.out.size)); clear hn) | (go_at_call 7; refine (E.out _).mono ?_; rintro e u2 ⟨rfl, hn⟩; have h2 := Lib.hid (h1.out.trans (hn.mono h1.out.size)); clear hn h1))
    obtain ⟨wl, hwl⟩ : ∃ wl : World, wl = (u2.alloc (.cells #[.int .i64 x0.s, .int .i64 x0.t, .int .i64 x0.f, .int .i64 x0.l, .int .i64 x0.p, .int .i64 x0.th, .int .i64 x0.st, .int .i64 x0.oc, .int .u64 x0.ep, .int .i64 x0.ot, .int .u64 x0.wd, .int .u64 x0.ev, .int .u64 x0.ju] 30)).alloc (.cells #[.int .i64 x0.s, .int .i64 x0.t, .int .i64 x0.f, .int .i64 x0.l, .int .i64 x0.p, .int .i64 x0.th, .int .i64 x0.st, .int .i64 x0.oc, .int .u64 x0.ep, .int .i64 x0.ot, .int .u64 x0.wd, .int .u64 x0.ev, .int .u64 x0.ju] 30) := ⟨_, rfl⟩
    have hkv : KV w u2.heap.size x0 (u2.heap.size + 1) x0 wl := by rw [hwl]; exact KV.start h2.out x0
    rw [← hwl]
    have HKV := Lib.hid hkv
    clear hkv hwl h2 B1 N E
    generalize u2.heap.size + 1 = g2 at HKV ⊢
    generalize u2.heap.size = g1 at HKV ⊢
    go_loopg [9] len2 (fun g i wr => ∃ j : Nat, j ≤ len2 ∧ g = len2 - j ∧ i = .int .i64 j ∧ KV w g1 (Ad.run zs2 x0 j) g2 x0 wr)
    case atStart => exact ⟨0, by omega, by omega, rfl, HKV.out⟩
    case round =>
      clear HKV
      obtain ⟨j, hj, hg, rfl, hr⟩ := hrel
      by_cases hlt : j < len2
      · obtain ⟨rfl, hbl⟩ := HA.out (by omega)
        obtain ⟨n, hz, hn⟩ := HZ.out j (by omega)
        have HX : RowKit.Hid (w.cell? ⟨b2, off2 + j, none⟩ = some (.int .u64 n)) := Lib.hid (by rw [← hz]; exact HC.out j (by omega))
        have T := Lib.hid (atook_any (Ad.run zs2 x0 j) (OK.out j (by omega)) n hn)
        have hrun : Ad.run zs2 x0 (j + 1) = (Ad.run zs2 x0 j).took n := by show (Ad.run zs2 x0 j).took (zs2.getD j 0).toNat = _; rw [hz]; rfl
        clear hz hn
        generalize (Ad.run zs2 x0 j).took n = y1 at hrun T
        generalize Ad.run zs2 x0 j = x1 at T hr
        have HX2 := Lib.hid (KVX.mk' (a := ⟨b2, off2 + j, none⟩) hr hbl HX.out)
        have HRUN := Lib.hid hrun
        clear hr hrun
        go_wp2
        refine wp_region_class_tail (C := KVX w g1 x1 g2 x0 ⟨b2, off2 + j, none⟩ (.int .u64 n)) 6 (by kernel_rfl) (by kernel_rfl) (HX2.out) ?_
        simp only [List.take_succ_cons, List.take_zero, List.drop_succ_cons, List.drop_zero]
        repeat (first
          | go_big_quiet_skip
          | (go_big_quiet_want; go_big_quiet_op; go_big_quiet_on)
          | (go_big_quiet_want; go_big_quiet_op; refine ⟨_, fun _ _ => rfl, ?_⟩; go_big_quiet_on)
          | (go_big_quiet_want
             apply quiet_mk
             · intro u hu
               have c0 := hu.c0; have c1 := hu.c1; have c2 := hu.c2; have c3 := hu.c3; have c4 := hu.c4; have c5 := hu.c5; have c6 := hu.c6; have c7 := hu.c7; have c8 := hu.c8; have c9 := hu.c9; have c10 := hu.c10; have c11 := hu.c11; have c12 := hu.c12; have xc := hu.xc
               have HU := Lib.hid hu
               clear hu
               go_simp
               first
                 | with_reducible rfl
                 | (go_at_call 17; refine (T.out _).mono ?_; rintro e w' ⟨rfl, hn⟩; exact ⟨rfl, HU.out.next hn⟩)
             simp only [Act.put, List.setIfInBounds_toArray, List.set_cons_zero, List.set_cons_succ]
             go_big_quiet_on))
        refine wpQuiet_nil ?_
        intro u hu
        have hr2 := hu.toKV.store1 y1
        have fz := hu.e.fz
        have c0 := hu.c0
        have c1 := hu.c1
        have c2 := hu.c2
        have c3 := hu.c3
        have c4 := hu.c4
        have c5 := hu.c5
        have c6 := hu.c6
        have c7 := hu.c7
        have c8 := hu.c8
        have c9 := hu.c9
        have c10 := hu.c10
        have c11 := hu.c11
        have c12 := hu.c12
        have HR2 := Lib.hid hr2
        clear hu hr2 HX2
        go_wp2
        go_roundg (len2 - (j + 1))
        case rel => exact ⟨j + 1, by omega, rfl, by go_num, by rw [HRUN.out]; exact HR2.out⟩
        case measure => omega
      · obtain rfl : j = len2 := by omega
        obtain ⟨z, hz⟩ : ∃ z, z = Ad.run zs2 x0 j := ⟨_, rfl⟩
        rw [← hz] at hr
        have HR := Lib.hid hr
        have HZZ := Lib.hid hz
        clear hr hz hlt hg
        go_wp2
        go_loopg [10] j (fun g i wr => ∃ m : Nat, m ≤ j ∧ g = j - m ∧ i = .int .i64 m ∧ KV w g1 z g2 (Ad.run zs2 x0 m) wr)
        case atStart => exact ⟨0, by omega, by omega, rfl, HR.out⟩
        case round =>
          clear HR
          obtain ⟨m, hm, hg, rfl, hr⟩ := hrel
          by_cases hlt : m < j
          · obtain ⟨rfl, hbl⟩ := HA.out (by omega)
            obtain ⟨n, hz, hn⟩ := HZ.out m (by omega)
            have HX : RowKit.Hid (w.cell? ⟨b2, off2 + m, none⟩ = some (.int .u64 n)) := Lib.hid (by rw [← hz]; exact HC.out m (by omega))
            have T := Lib.hid (atook_any (Ad.run zs2 x0 m) (OK.out m (by omega)) n hn)
            have hrun : Ad.run zs2 x0 (m + 1) = (Ad.run zs2 x0 m).took n := by show (Ad.run zs2 x0 m).took (zs2.getD m 0).toNat = _; rw [hz]; rfl
            clear hz hn
            generalize (Ad.run zs2 x0 m).took n = y1 at hrun T
            generalize Ad.run zs2 x0 m = x1 at T hr
            have HX2 := Lib.hid (KVX.mk' (a := ⟨b2, off2 + m, none⟩) hr hbl HX.out)
            have HRUN := Lib.hid hrun
            clear hr hrun
            go_wp2
            refine wp_region_class_tail (C := KVX w g1 z g2 x1 ⟨b2, off2 + m, none⟩ (.int .u64 n)) 6 (by kernel_rfl) (by kernel_rfl) (HX2.out) ?_
            simp only [List.take_succ_cons, List.take_zero, List.drop_succ_cons, List.drop_zero]
            repeat (first
              | go_big_quiet_skip
              | (go_big_quiet_want; go_big_quiet_op; go_big_quiet_on)
              | (go_big_quiet_want; go_big_quiet_op; refine ⟨_, fun _ _ => rfl, ?_⟩; go_big_quiet_on)
              | (go_big_quiet_want
                 apply quiet_mk
                 · intro u hu
                   have d0 := hu.d0; have d1 := hu.d1; have d2 := hu.d2; have d3 := hu.d3; have d4 := hu.d4; have d5 := hu.d5; have d6 := hu.d6; have d7 := hu.d7; have d8 := hu.d8; have d9 := hu.d9; have d10 := hu.d10; have d11 := hu.d11; have d12 := hu.d12; have xc := hu.xc
                   have HU := Lib.hid hu
                   clear hu
                   go_simp
                   first
                     | with_reducible rfl
                     | (go_at_call 17; refine (T.out _).mono ?_; rintro e w' ⟨rfl, hn⟩; exact ⟨rfl, HU.out.next hn⟩)
                 simp only [Act.put, List.setIfInBounds_toArray, List.set_cons_zero, List.set_cons_succ]
                 go_big_quiet_on))
            refine wpQuiet_nil ?_
            intro u hu
            have hr2 := hu.toKV.store2 y1
            have fz := hu.f.fz
            have d0 := hu.d0
            have d1 := hu.d1
            have d2 := hu.d2
            have d3 := hu.d3
            have d4 := hu.d4
            have d5 := hu.d5
            have d6 := hu.d6
            have d7 := hu.d7
            have d8 := hu.d8
            have d9 := hu.d9
            have d10 := hu.d10
            have d11 := hu.d11
            have d12 := hu.d12
            have HR2 := Lib.hid hr2
            clear hu hr2 HX2
            go_wp2
            go_roundg (j - (m + 1))
            case rel => exact ⟨m + 1, by omega, rfl, by go_num, by rw [HRUN.out]; exact HR2.out⟩
            case measure => omega
          · obtain rfl : m = j := by omega
            rw [← HZZ.out] at hr
            have HZ0 := Lib.hid (KZ.start hr)
            have T0 := Lib.hid (atook_0 0 0 0 0 0 0 0 0 0 0 0 0 1)
            have D0 := Lib.hid (adone_zero 0 0 0 0 0 0 0 0 0 0 0)
            have Q0 := Lib.hid (awant_0 0 0 0 0 0 0 0 0 0 0 0 0 (.inr ⟨rfl, rfl, rfl, rfl, rfl⟩))
            have J0 := Lib.hid (just_of 0 0 0 0 0 0 0 0 0 0 0 0 0 (-1) (by omega) (.inl ⟨rfl, rfl⟩))
            clear hr hg hlt HZZ HC HA HZ
            go_wp2_with (first
              | (go_at_call 17; refine (T0.out _).mono ?_; rintro e v1 ⟨rfl, hn⟩; have K1 := Lib.hid (HZ0.out.next hn); clear hn; have c0 := K1.out.c0; have c1 := K1.out.c1; have c2 := K1.out.c2; have c3 := K1.out.c3; have c4 := K1.out.c4; have c5 := K1.out.c5; have c6 := K1.out.c6; have c7 := K1.out.c7; have c8 := K1.out.c8; have c9 := K1.out.c9; have c10 := K1.out.c10; have c11 := K1.out.c11; have c12 := K1.out.c12; have d0 := K1.out.d0; have d1 := K1.out.d1; have d2 := K1.out.d2; have d3 := K1.out.d3; have d4 := K1.out.d4; have d5 := K1.out.d5; have d6 := K1.out.d6; have d7 := K1.out.d7; have d8 := K1.out.d8; have d9 := K1.out.d9; have d10 := K1.out.d10; have d11 := K1.out.d11; have d12 := K1.out.d12; have e0 := K1.out.n.c0; have e1 := K1.out.n.c1; have e2 := K1.out.n.c2; have e3 := K1.out.n.c3; have e4 := K1.out.n.c4; have e5 := K1.out.n.c5; have e6 := K1.out.n.c6; have e7 := K1.out.n.c7; have e8 := K1.out.n.c8; have e9 := K1.out.n.c9; have e10 := K1.out.n.c10; have e11 := K1.out.n.c11; have e12 := K1.out.n.c12)
              | (go_at_call 10; refine (D0.out _).mono ?_; rintro e v2 ⟨rfl, hn⟩; have K2 := Lib.hid (K1.out.next hn); clear hn c0 c1 c2 c3 c4 c5 c6 c7 c8 c9 c10 c11 c12 d0 d1 d2 d3 d4 d5 d6 d7 d8 d9 d10 d11 d12 e0 e1 e2 e3 e4 e5 e6 e7 e8 e9 e10 e11 e12; have c0 := K2.out.c0; have c1 := K2.out.c1; have c2 := K2.out.c2; have c3 := K2.out.c3; have c4 := K2.out.c4; have c5 := K2.out.c5; have c6 := K2.out.c6; have c7 := K2.out.c7; have c8 := K2.out.c8; have c9 := K2.out.c9; have c10 := K2.out.c10; have c11 := K2.out.c11; have c12 := K2.out.c12; have d0 := K2.out.d0; have d1 := K2.out.d1; have d2 := K2.out.d2; have d3 := K2.out.d3; have d4 := K2.out.d4; have d5 := K2.out.d5; have d6 := K2.out.d6; have d7 := K2.out.d7; have d8 := K2.out.d8; have d9 := K2.out.d9; have d10 := K2.out.d10; have d11 := K2.out.d11; have d12 := K2.out.d12; have e0 := K2.out.n.c0; have e1 := K2.out.n.c1; have e2 := K2.out.n.c2; have e3 := K2.out.n.c3; have e4 := K2.out.n.c4; have e5 := K2.out.n.c5; have e6 := K2.out.n.c6; have e7 := K2.out.n.c7; have e8 := K2.out.n.c8; have e9 := K2.out.n.c9; have e10 := K2.out.n.c10; have e11 := K2.out.n.c11; have e12 := K2.out.n.c12)
              | (go_at_call 11; refine (Q0.out _).mono ?_; rintro e v4 ⟨rfl, hn⟩; have K4 := Lib.hid (K2.out.next hn); clear hn c0 c1 c2 c3 c4 c5 c6 c7 c8 c9 c10 c11 c12 d0 d1 d2 d3 d4 d5 d6 d7 d8 d9 d10 d11 d12 e0 e1 e2 e3 e4 e5 e6 e7 e8 e9 e10 e11 e12; have c0 := K4.out.c0; have c1 := K4.out.c1; have c2 := K4.out.c2; have c3 := K4.out.c3; have c4 := K4.out.c4; have c5 := K4.out.c5; have c6 := K4.out.c6; have c7 := K4.out.c7; have c8 := K4.out.c8; have c9 := K4.out.c9; have c10 := K4.out.c10; have c11 := K4.out.c11; have c12 := K4.out.c12; have d0 := K4.out.d0; have d1 := K4.out.d1; have d2 := K4.out.d2; have d3 := K4.out.d3; have d4 := K4.out.d4; have d5 := K4.out.d5; have d6 := K4.out.d6; have d7 := K4.out.d7; have d8 := K4.out.d8; have d9 := K4.out.d9; have d10 := K4.out.d10; have d11 := K4.out.d11; have d12 := K4.out.d12; have e0 := K4.out.n.c0; have e1 := K4.out.n.c1; have e2 := K4.out.n.c2; have e3 := K4.out.n.c3; have e4 := K4.out.n.c4; have e5 := K4.out.n.c5; have e6 := K4.out.n.c6; have e7 := K4.out.n.c7; have e8 := K4.out.n.c8; have e9 := K4.out.n.c9; have e10 := K4.out.n.c10; have e11 := K4.out.n.c11; have e12 := K4.out.n.c12)
              | (go_at_call 14; refine (J0.out _).mono ?_; rintro e v5 ⟨rfl, hn⟩; have K5 := Lib.hid (K4.out.next hn); clear hn c0 c1 c2 c3 c4 c5 c6 c7 c8 c9 c10 c11 c12 d0 d1 d2 d3 d4 d5 d6 d7 d8 d9 d10 d11 d12 e0 e1 e2 e3 e4 e5 e6 e7 e8 e9 e10 e11 e12; have c0 := K5.out.c0; have c1 := K5.out.c1; have c2 := K5.out.c2; have c3 := K5.out.c3; have c4 := K5.out.c4; have c5 := K5.out.c5; have c6 := K5.out.c6; have c7 := K5.out.c7; have c8 := K5.out.c8; have c9 := K5.out.c9; have c10 := K5.out.c10; have c11 := K5.out.c11; have c12 := K5.out.c12; have d0 := K5.out.d0; have d1 := K5.out.d1; have d2 := K5.out.d2; have d3 := K5.out.d3; have d4 := K5.out.d4; have d5 := K5.out.d5; have d6 := K5.out.d6; have d7 := K5.out.d7; have d8 := K5.out.d8; have d9 := K5.out.d9; have d10 := K5.out.d10; have d11 := K5.out.d11; have d12 := K5.out.d12; have e0 := K5.out.n.c0; have e1 := K5.out.n.c1; have e2 := K5.out.n.c2; have e3 := K5.out.n.c3; have e4 := K5.out.n.c4; have e5 := K5.out.n.c5; have e6 := K5.out.n.c6; have e7 := K5.out.n.c7; have e8 := K5.out.n.c8; have e9 := K5.out.n.c9; have e10 := K5.out.n.c10; have e11 := K5.out.n.c11; have e12 := K5.out.n.c12)
              | (go_at_call 6; refine (AW.out _ (HG.out.next K5.out.bl)).mono ?_; rintro e v6 ⟨rfl, h6⟩))
            go_ret
            exact ⟨rfl, K5.out.bl.trans (h6.mono K5.out.bl.size)⟩
  · have h20 : 100 < (len2 : Int) := by omega
    have B1 := Lib.hid (below1 w (.cells #[.int .i64 a0_0, .int .i64 a0_1, .int .i64 a0_2, .int .i64 a0_3, .int .i64 a0_4] 23))
    clear hlen hc2 hA2 hG hz63
    go_enter Tryd.func5, Tryd.ntmps5
    go_wp2_with (go_at_call 6; refine (AW.out _ (HG.out.next B1.out)).mono ?_; rintro e un ⟨rfl, hn⟩)
    go_ret
    exact ⟨rfl, B1.out.trans (hn.mono B1.out.size)⟩

set_option maxRecDepth 100000 in
theorem lifted (os : Os) (started : os.Started) (H : Type) (enc : TypeId × Value → H) :
    ReturnsInHanded {} Tryd.checked os 5 .any (fun w args => (Rows.advanceValuesSpec.pre enc Tryd.prog Tryd.f5 [] false w args ∧ laidMetH Tryd.prog laidVars w) ∧ sizedMet enc Tryd.prog Tryd.f5 (OpenSpec.ofChange Rows.advanceValuesSpec) false w args)
      (Rows.advanceValuesSpec.post enc Tryd.prog Tryd.f5 false true false false) := by
  refine returnsInHanded_of_change_and (C := Tryd.checked) (X := fun w _ => laidMetH Tryd.prog laidVars w) (fun _ _ _ hh h => h.of_heap hh) own started (by kernel_rfl) Tryd.func5
    (ChangeSpec.witness_shaped (enc := enc) (C := Tryd.checked) (os := os) (X := fun w _ => laidMetH Tryd.prog laidVars w) false (World.doorLaid Tryd.prog 400 os) #[.agg #[.int .i64 0, .int .i64 0, .int .i64 0, .int .i64 0, .int .i64 0], .int .i64 0, .slice none 0 0] 8 rfl (World.shaped_of_RefB (by kernel_rfl) (by kernel_rfl)) (by kernel_rfl) (by kernel_rfl) (by kernel_rfl) (door_met os _)) ?_
  intro W base args ds gs before hval0 hW _ _ hL _
  have hval : ∀ (j : Nat) t v, Tryd.f5.params[j]? = some t → args[j]? = some v → Value.okWide Tryd.prog W .any base t v := hval0
  have hW' := hW
  obtain ⟨p, q, hA0, hV, rfl, hfz, hnd⟩ := hW
  have hA : DataW.TrodAll enc Tryd.prog W 0 (fun _ => true) true Tryd.f5.params.toList args.toList ds p := hA0
  rw [Tryd.params5] at hA hval
  obtain ⟨v0, vs0, d0, ds0, p0, q0, hargs, rfl, rfl, h0, r0⟩ := trodAll_cons hA
  obtain ⟨v1, vs1, d1, ds1, p1, q1, rfl, rfl, rfl, h1, r1⟩ := trodAll_cons r0
  obtain ⟨v2, vs2, d2, ds2, p2, q2, rfl, rfl, rfl, h2, r2⟩ := trodAll_cons r1
  obtain ⟨rfl, rfl, rfl⟩ := trodAll_nil r2
  obtain rfl : args = #[v0, v1, v2] := by cases args; simp_all
  obtain ⟨rfl, rfl⟩ := trodVars_none hV
  have k0 := h0
  obtain ⟨ns0, h0l, h0v, h0w⟩ := open_intStruct [.i64, .i64, .i64, .i64, .i64] Tryd.underlying23 (by kernel_rfl) (by kernel_rfl) rfl (hval 0 23 v0 rfl rfl) h0
  obtain ⟨a0_0, a0_1, a0_2, a0_3, a0_4, rfl⟩ := list5 h0l
  obtain rfl : v0 = .agg #[.int .i64 a0_0, .int .i64 a0_1, .int .i64 a0_2, .int .i64 a0_3, .int .i64 a0_4] := h0v
  obtain ⟨a1, rfl, rfl, rfl, w1⟩ := open_int Tryd.underlying3 (hval 1 3 v1 rfl rfl) h1
  obtain ⟨A2, len2, cap2, rfl⟩ := okWide_slice Tryd.underlying24 (hval 2 24 v2 rfl rfl)
  have k2 := h2
  obtain ⟨b2, off2, zs2, hl2, hm2, hA2, hc2, hw2⟩ := open_slice Tryd.underlying24 Tryd.underlying28 cells28 h2
  clear hA0 hval0
  simp only [List.append_nil] at hW'
  have hlt0 : ∀ x ∈ p0, x.block < W.heap.size := fun x hx => by simpa using hW'.lt x (by simp [hx])
  have hlt2 : ∀ x ∈ p2, x.block < W.heap.size := fun x hx => by simpa using hW'.lt x (by simp [hx])
  refine (walk W (of_laid hL) a0_0 (h0w 0 .i64 _ rfl rfl) a0_1 (h0w 1 .i64 _ rfl rfl) a0_2 (h0w 2 .i64 _ rfl rfl) a0_3 (h0w 3 .i64 _ rfl rfl) a0_4 (h0w 4 .i64 _ rfl rfl) a1 w1 A2 len2 cap2 b2 off2 zs2 hl2 hm2 hA2 hc2 hw2).mono fun e W' ⟨he, hg⟩ => ?_
  subst he
  exact ⟨_, rfl, post_of_below2 (pv := []) hW' (fun _ _ _ => (trodAll_cons_mk (shut_bool Tryd.underlying4 _) trodAll_mk0)) (trodAll_cons_mk (Below.trod laidOut (by kernel_rfl) (of_decide_eq_true (by kernel_rfl)) k0 hg hlt0) (trodAll_cons_mk (shut_int Tryd.underlying3 w1) (trodAll_cons_mk (Below.trod laidOut (by kernel_rfl) (of_decide_eq_true (by kernel_rfl)) k2 hg hlt2) trodAll_mk0))) rfl (by simp) (hg.frame _)⟩

theorem over : Rows.advanceValuesRow.holds Tryd.pinned (OpenSpec.ofChange Rows.advanceValuesSpec) :=
  OpenClaim.holds_of_wide 5 Tryd.f5 rfl rfl rfl rfl rfl rfl rfl ⟨rfl, rfl, rfl, rfl, rfl⟩ rfl rfl rfl rfl rfl (by kernel_rfl) Tryd.func5 (by kernel_rfl)
    (of_decide_eq_true (by kernel_rfl)) (by unfold Func.isWrapper; first | (rw [if_pos (by decide +kernel)]; kernel_rfl) | (rw [if_neg (by decide +kernel)]; exact ⟨rfl, rfl⟩))
    (fun os started H enc _ => lifted os started H enc)

theorem row : Rows.AdvanceValuesSaid := over

theorem proved : Rows.AdvanceValuesCardSaid :=
  Claim7.holds_tied_plain_at .later [] [.handle, .data] true (true, "cc01790792e77f20f5da0e447faa1435422f9e388540bf2ee809e29fab843e27") true
    row (fun _ h => by cases h) (by kernel_rfl) (fun _ h => by cases h) advanceValues_row_tie rfl ⟨rfl, rfl⟩ (by kernel_rfl) rfl
    (fun f fn hf hfn => by
      obtain rfl : f = 5 := Option.some.inj ((show Tryd.prog.funcNamed "gleaning/gleaninglaw18.AdvanceValues" = some 5 by kernel_rfl).symm.trans hf) |>.symm
      obtain rfl : fn = Tryd.f5 := (Option.some.inj (Tryd.func5.symm.trans hfn)).symm
      exact ⟨by kernel_rfl, fun j t ht => by
        rw [Tryd.params5] at ht
        have hm : t ∈ [23, 3, 24] := by simpa using Array.mem_of_getElem? ht
        have hall : ([23, 3, 24].all fun u => !Tryd.prog.wantsStandIn u) = true := by kernel_rfl
        exact (show Tryd.prog.wantsStandIn t = false by simpa using List.all_eq_true.1 hall t hm)⟩)
    (by kernel_rfl)

#print axioms proved
end Go.Proofs.YthcmgagmbioofaaDoor.advanceValues
