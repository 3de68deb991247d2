/- gleaninglaw15.StackValues: for every input the law returns true, and leaves its arguments as they were. The package-level variables that it reads hold what the program's text lays in them (a tied card); no other condition. -/
import Derived.Test.YtfejkcbdbkpnfaaDoorRows
import Derived.WalkKit
import Derived.Test.YtfejkcbdbkpnfaaDoorCards
import Derived.Test.YtfejkcbdbkpnfaaDoorTie
import Derived.Test.YtfejkcbdbkpnfaaDoorLaid
import Derived.SevenTiedAt
import Derived.Test.YtfejkcbdbkpnfaaDoorOpen
import Derived.Deep.QuietTactic
import Derived.BigQuiet
import Derived.Deep.LoopGhost
import Derived.Test.YtfejkcbdbkpnfaaDoorStackV
import Derived.Test.YtfejkcbdbkpnfaaDoorTail
import Derived.Test.YtfejkcbdbkpnfaaDoorLaid
import Derived.Test.YtfejkcbdbkpnfaaDoorOpen
import Derived.Test.YtfejkcbdbkpnfaaDoorFrame
import Derived.ProofKit
import Derived.OpenShut
namespace Go.Proofs.YtfejkcbdbkpnfaaDoor.stackValues
open Go.ChangeShapes Go.WideShapes Go.ChangeAt Go.RowKit
set_option linter.unusedVariables false

theorem own : ownKnob Tryd.prog.godebug = none := by kernel_rfl
theorem laidOut : laidOutB Tryd.prog = true := by kernel_rfl
theorem cells28 : Tryd.prog.cellsOf 28 = 1 := by kernel_rfl

set_option maxHeartbeats 4000000 in
theorem walk (w : World) (hG : GL w) (a0_0 : Int) (w0_0 : (Lit.int .i64 a0_0).wf = true) (a0_1 : Int) (w0_1 : (Lit.int .i64 a0_1).wf = true) (a0_2 : Int) (w0_2 : (Lit.int .i64 a0_2).wf = true) (a0_3 : Int) (w0_3 : (Lit.int .i64 a0_3).wf = true) (a0_4 : Int) (w0_4 : (Lit.int .i64 a0_4).wf = true) (a1 : Int) (w1 : (Lit.int .i64 a1).wf = true) (A2 : Option Addr) (len2 cap2 b2 off2 : Nat) (zs2 : List Int) (hl2 : zs2.length = len2) (hm2 : len2 ≤ cap2 ∧ len2 ≤ maxLen) (hA2 : 0 < len2 → A2 = some ⟨b2, off2, none⟩ ∧ b2 < w.heap.size) (hc2 : ∀ i, i < len2 → w.cell? ⟨b2, off2 + i, none⟩ = some (.int .u64 (zs2.getD i 0))) (hw2 : ∀ n ∈ zs2, (Lit.int .u64 n).wf = true) :
    Calls Tryd.prog 5 #[.agg #[.int .i64 a0_0, .int .i64 a0_1, .int .i64 a0_2, .int .i64 a0_3, .int .i64 a0_4], .int .i64 a1, .slice A2 len2 cap2] w fun e w' => e = .returned (.bool true) ∧ Below w.heap.size w w' := by
  have AW := Lib.hid awake15_any
  have HG := Lib.hid hG
  have hz63 : ∀ j, j < len2 → ∃ n : Nat, zs2.getD j 0 = n ∧ n < 18446744073709551616 := by
    intro j hj
    have hm : zs2.getD j 0 ∈ zs2 := by
      have h : j < zs2.length := by omega
      rw [List.getD_eq_getElem?_getD, List.getElem?_eq_getElem h]; exact List.getElem_mem h
    have hw := hw2 _ hm
    have h1 := u64_lo hw; have h2 := u64_hi hw
    exact ⟨(zs2.getD j 0).toNat, by omega, by omega⟩
  have b1 := below1 w (.cells #[.int .i64 a0_0, .int .i64 a0_1, .int .i64 a0_2, .int .i64 a0_3, .int .i64 a0_4] 23)
  by_cases hlen : (len2 : Int) ≤ 60
  · have HC := Lib.hid hc2
    have HA := Lib.hid hA2
    have hln : len2 ≤ 60 := by omega
    have hNs : ∀ j, j < len2 → (((zs2.getD j 0).toNat : Nat) : Int) = zs2.getD j 0 ∧ (zs2.getD j 0).toNat < 18446744073709551616 := by
      intro j hj; obtain ⟨n, e, hn⟩ := hz63 j hj; rw [e]; exact ⟨by simp, by simpa using hn⟩
    obtain ⟨s1, t1, f1, l1, p1, px, py, hrp, hN1, hE1, _⟩ := prel_new a0_0 a0_1 a0_2 a0_3 a0_4
    obtain ⟨s2, t2, f2, l2, p2, sx, sy, hrs, hN2, hE2, _⟩ := srel_new a0_0 a0_1 a0_2 a0_3 a0_4 a1
    obtain ⟨xs, _, hx0, _, hxs⟩ := pchain hrp (fun j => (zs2.getD j 0).toNat) len2 hln (fun j hj => (hNs j hj).2)
    obtain ⟨ys, _, hy0, _, hys⟩ := schain hrs (fun j => (zs2.getD j 0).toNat) len2 hln (fun j hj => (hNs j hj).2)
    have hk0 : K5 w.heap.size w w.heap.size a0_0 a0_1 a0_2 a0_3 a0_4 (w.alloc (.cells #[.int .i64 a0_0, .int .i64 a0_1, .int .i64 a0_2, .int .i64 a0_3, .int .i64 a0_4] 23)) := ⟨by simp, by simp, by simp, by simp, by simp, b1, by simp⟩
    have HK0 := Lib.hid hk0
    clear hk0
    have B1 := Lib.hid b1
    have N1 := Lib.hid hN1
    have N2 := Lib.hid hN2
    have E1 := Lib.hid hE1
    have E2 := Lib.hid hE2
    have XS := Lib.hid hxs
    have YS := Lib.hid hys
    have NS := Lib.hid hNs
    have HX0 := Lib.hid hx0
    have HY0 := Lib.hid hy0
    clear hx0 hy0 hN1 hN2 hE1 hE2 hxs hys hNs hrp hrs b1 hG hc2 hA2 hw2 hz63 w0_0 w0_1 w0_2 w0_3 w0_4 w1
    have k1 : True := trivial
    go_enter Tryd.func5, Tryd.ntmps5
    go_wp2_with (first
      | (go_at_call 12; have _t := k1; refine (N1.out _ (HG.out.next B1.out)).mono ?_; rintro e u1 ⟨rfl, hn⟩; clear k1; have h1 := Lib.hid (B1.out.trans (hn.mono B1.out.size)); have K1 := Lib.hid (HK0.out.next hn); clear hn)
      | (go_at_call 11; refine (E1.out _).mono ?_; rintro e u2 ⟨rfl, hn⟩; have h2 := Lib.hid (h1.out.trans (hn.mono h1.out.size)); have K2 := Lib.hid (K1.out.next hn); clear hn h1 K1; have g0 := K2.out.c0; have g1 := K2.out.c1; have g2 := K2.out.c2; have g3 := K2.out.c3; have g4 := K2.out.c4; have z0 : w.heap.size < u2.heap.size := World.block_lt_of_cell? u2 _ g0; have h2a := Lib.hid (h2.out.alloc h2.out.size (popRow px)); have p2 := Lib.hid (PC.alloc u2 px))
      | (go_at_call 12; refine (N2.out _ (HG.out.next h2a.out)).mono ?_; rintro e u3 ⟨rfl, hn⟩; have h3 := Lib.hid (h2a.out.trans (hn.mono h2a.out.size)); have p3 := Lib.hid (p2.out.next hn); clear hn h2a p2 g0 g1 g2 g3 g4)
      | (go_at_call 20; refine (E2.out _).mono ?_; rintro e u4 ⟨rfl, hn⟩; have h4 := Lib.hid (h3.out.trans (hn.mono h3.out.size)); have p4 := Lib.hid (p3.out.next hn); clear hn h3 p3; have q4 := Lib.hid (p4.out.next (below1 u4 (suRow sx))); have c0 := q4.out.c0; have c1 := q4.out.c1; have c2 := q4.out.c2; have c3 := q4.out.c3; have c4 := q4.out.c4; have c5 := q4.out.c5; have c6 := q4.out.c6; have c7 := q4.out.c7; have c8 := q4.out.c8; have c9 := q4.out.c9))
    obtain ⟨wl, hwl⟩ : ∃ wl : World, wl = ((u4.alloc (.cells #[.int .i64 sx.s, .int .i64 sx.t, .int .i64 sx.f, .int .i64 sx.l, .int .i64 sx.p, .int .i64 sx.st, .int .u64 sx.hd, .int .i64 sx.sl, .int .i64 sx.tr] 47)).alloc (.cells #[.int .i64 px.s, .int .i64 px.t, .int .i64 px.f, .int .i64 px.l, .int .i64 px.p, .int .i64 px.st, .int .u64 px.hd, .int .u64 px.lk, .int .i64 px.sl, .int .i64 px.tr] 30)).alloc (.cells #[.int .i64 sx.s, .int .i64 sx.t, .int .i64 sx.f, .int .i64 sx.l, .int .i64 sx.p, .int .i64 sx.st, .int .u64 sx.hd, .int .i64 sx.sl, .int .i64 sx.tr] 47) := ⟨_, rfl⟩
    have hkq : KQ w u2.heap.size px u4.heap.size sx (u4.heap.size + 1) px (u4.heap.size + 2) sx wl := by rw [hwl]; exact KQ.start _ _ _ _ p4.out h4.out h2.out.size
    rw [← hwl]
    have HK := Lib.hid hkq
    clear hkq hwl h2 h4 p4 q4 B1 N1 N2 E1 E2 K2 HK0 z0 c0 c1 c2 c3 c4 c5 c6 c7 c8 c9
    generalize u4.heap.size + 2 = g4 at HK ⊢
    generalize u4.heap.size + 1 = g3 at HK ⊢
    generalize u4.heap.size = g2 at HK ⊢
    generalize u2.heap.size = g1 at HK ⊢
    go_loopg [11] len2 (fun g i wr => ∃ j : Nat, j ≤ len2 ∧ g = len2 - j ∧ i = .int .i64 j ∧ KQ w g1 (xs j) g2 (ys j) g3 px g4 sx wr)
    case atStart => exact ⟨0, by omega, by omega, rfl, by rw [HX0.out, HY0.out]; exact HK.out⟩
    case round =>
      clear HK
      obtain ⟨j, hj, hg, rfl, hr⟩ := hrel
      by_cases hlt : j < len2
      · obtain ⟨rfl, hbl⟩ := HA.out (by omega)
        obtain ⟨hz, _⟩ := NS.out j (by omega)
        have T := Lib.hid (XS.out j (by omega))
        have U := Lib.hid (YS.out j (by omega))
        have hx : w.cell? ⟨b2, off2 + j, none⟩ = some (.int .u64 ((zs2.getD j 0).toNat : Nat)) := by rw [hz]; exact HC.out j (by omega)
        clear hz
        try simp only at T U
        generalize (zs2.getD j 0).toNat = n at T U hx
        have HX := Lib.hid hx
        clear hx
        obtain ⟨v1, hv1⟩ : ∃ v, v = xs (j + 1) := ⟨_, rfl⟩
        obtain ⟨v2, hv2⟩ : ∃ v, v = ys (j + 1) := ⟨_, rfl⟩
        rw [← hv1] at T; rw [← hv2] at U
        have HV1 := Lib.hid hv1; have HV2 := Lib.hid hv2; clear hv1 hv2
        generalize xs j = x1 at T hr; generalize ys j = y1 at U hr
        have HX2 := Lib.hid (KQX.mk' (ad := ⟨b2, off2 + j, none⟩) hr hbl HX.out)
        clear hr
        go_wp2
        refine wp_region_class_tail (C := KQX w g1 x1 g2 y1 g3 px g4 sx ⟨b2, off2 + j, none⟩ (.int .u64 n)) 6 (by kernel_rfl) (by kernel_rfl) (HX2.out) ?_
        simp only [List.take_succ_cons, List.take_zero, List.drop_succ_cons, List.drop_zero]
        repeat (first
          | go_big_quiet_skip
          | (go_big_quiet_want; go_big_quiet_op; go_big_quiet_on)
          | (go_big_quiet_want; go_big_quiet_op; refine ⟨_, fun _ _ => rfl, ?_⟩; go_big_quiet_on)
          | (go_big_quiet_want
             apply quiet_mk
             · intro u hu
               have a0 := hu.a0; have a1 := hu.a1; have a2 := hu.a2; have a3 := hu.a3; have a4 := hu.a4; have a5 := hu.a5; have a6 := hu.a6; have a7 := hu.a7; have a8 := hu.a8; have a9 := hu.a9; have xc := hu.xc
               have HU := Lib.hid hu
               clear hu
               go_simp
               first
                 | with_reducible rfl
                 | (go_at_call 18; refine (T.out _).mono ?_; rintro e w' ⟨rfl, hn⟩; exact ⟨rfl, HU.out.next hn⟩)
             simp only [Act.put, List.setIfInBounds_toArray, List.set_cons_zero, List.set_cons_succ]
             go_big_quiet_on))
        refine wpQuiet_nil ?_
        intro u hu
        have hr2 := hu.toKQ.store1 v1
        have fz := hu.toKQ.a.fz
        have a0 := hu.a0
        have a1 := hu.a1
        have a2 := hu.a2
        have a3 := hu.a3
        have a4 := hu.a4
        have a5 := hu.a5
        have a6 := hu.a6
        have a7 := hu.a7
        have a8 := hu.a8
        have a9 := hu.a9
        have HR2 := Lib.hid hr2
        clear hu hr2 HX2
        go_wp2
        have HX3 := Lib.hid (KQX.mk' (ad := ⟨b2, off2 + j, none⟩) HR2.out hbl HX.out)
        clear HR2 fz a0 a1 a2 a3 a4 a5 a6 a7 a8 a9
        refine wp_region_class_tail (C := KQX w g1 v1 g2 y1 g3 px g4 sx ⟨b2, off2 + j, none⟩ (.int .u64 n)) 6 (by kernel_rfl) (by kernel_rfl) (HX3.out) ?_
        simp only [List.take_succ_cons, List.take_zero, List.drop_succ_cons, List.drop_zero]
        repeat (first
          | go_big_quiet_skip
          | (go_big_quiet_want; go_big_quiet_op; go_big_quiet_on)
          | (go_big_quiet_want; go_big_quiet_op; refine ⟨_, fun _ _ => rfl, ?_⟩; go_big_quiet_on)
          | (go_big_quiet_want
             apply quiet_mk
             · intro u hu
               have b0 := hu.b0; have b1 := hu.b1; have b2 := hu.b2; have b3 := hu.b3; have b4 := hu.b4; have b5 := hu.b5; have b6 := hu.b6; have b7 := hu.b7; have b8 := hu.b8; have xc := hu.xc
               have HU := Lib.hid hu
               clear hu
               go_simp
               first
                 | with_reducible rfl
                 | (go_at_call 26; refine (U.out _).mono ?_; rintro e w' ⟨rfl, hn⟩; exact ⟨rfl, HU.out.next hn⟩)
             simp only [Act.put, List.setIfInBounds_toArray, List.set_cons_zero, List.set_cons_succ]
             go_big_quiet_on))
        refine wpQuiet_nil ?_
        intro u hu
        have hr3 := hu.toKQ.store2 v2
        have fz := hu.toKQ.b.fz
        have b0 := hu.b0
        have b1 := hu.b1
        have b2 := hu.b2
        have b3 := hu.b3
        have b4 := hu.b4
        have b5 := hu.b5
        have b6 := hu.b6
        have b7 := hu.b7
        have b8 := hu.b8
        have HR3 := Lib.hid hr3
        clear hu hr3 HX3
        go_wp2
        go_roundg (len2 - (j + 1))
        case rel => exact ⟨j + 1, by omega, rfl, by go_num, by rw [← HV1.out, ← HV2.out]; exact HR3.out⟩
        case measure => omega
      · obtain rfl : j = len2 := by omega
        obtain ⟨z1, hz1⟩ : ∃ z, z = xs j := ⟨_, rfl⟩
        obtain ⟨z2, hz2⟩ : ∃ z, z = ys j := ⟨_, rfl⟩
        rw [← hz1, ← hz2] at hr
        have HR := Lib.hid hr
        have HZ1 := Lib.hid hz1
        have HZ2 := Lib.hid hz2
        clear hr hz1 hz2 hlt hg
        go_wp2
        go_loopg [12] j (fun g i wr => ∃ m : Nat, m ≤ j ∧ g = j - m ∧ i = .int .i64 m ∧ KQ w g1 z1 g2 z2 g3 (xs m) g4 (ys m) wr)
        case atStart => exact ⟨0, by omega, by omega, rfl, by rw [HX0.out, HY0.out]; exact HR.out⟩
        case round =>
          clear HR
          obtain ⟨m, hm, hg, rfl, hr⟩ := hrel
          by_cases hlt : m < j
          · obtain ⟨rfl, hbl⟩ := HA.out (by omega)
            obtain ⟨hz, _⟩ := NS.out m (by omega)
            have T := Lib.hid (XS.out m (by omega))
            have U := Lib.hid (YS.out m (by omega))
            have hx : w.cell? ⟨b2, off2 + m, none⟩ = some (.int .u64 ((zs2.getD m 0).toNat : Nat)) := by rw [hz]; exact HC.out m (by omega)
            clear hz
            try simp only at T U
            generalize (zs2.getD m 0).toNat = n at T U hx
            have HX := Lib.hid hx
            clear hx
            obtain ⟨v1, hv1⟩ : ∃ v, v = xs (m + 1) := ⟨_, rfl⟩
            obtain ⟨v2, hv2⟩ : ∃ v, v = ys (m + 1) := ⟨_, rfl⟩
            rw [← hv1] at T; rw [← hv2] at U
            have HV1 := Lib.hid hv1; have HV2 := Lib.hid hv2; clear hv1 hv2
            generalize xs m = x1 at T hr; generalize ys m = y1 at U hr
            have HX2 := Lib.hid (KQX.mk' (ad := ⟨b2, off2 + m, none⟩) hr hbl HX.out)
            clear hr
            go_wp2
            refine wp_region_class_tail (C := KQX w g1 z1 g2 z2 g3 x1 g4 y1 ⟨b2, off2 + m, none⟩ (.int .u64 n)) 6 (by kernel_rfl) (by kernel_rfl) (HX2.out) ?_
            simp only [List.take_succ_cons, List.take_zero, List.drop_succ_cons, List.drop_zero]
            repeat (first
              | go_big_quiet_skip
              | (go_big_quiet_want; go_big_quiet_op; go_big_quiet_on)
              | (go_big_quiet_want; go_big_quiet_op; refine ⟨_, fun _ _ => rfl, ?_⟩; go_big_quiet_on)
              | (go_big_quiet_want
                 apply quiet_mk
                 · intro u hu
                   have c0 := hu.c0; have c1 := hu.c1; have c2 := hu.c2; have c3 := hu.c3; have c4 := hu.c4; have c5 := hu.c5; have c6 := hu.c6; have c7 := hu.c7; have c8 := hu.c8; have c9 := hu.c9; have xc := hu.xc
                   have HU := Lib.hid hu
                   clear hu
                   go_simp
                   first
                     | with_reducible rfl
                     | (go_at_call 18; refine (T.out _).mono ?_; rintro e w' ⟨rfl, hn⟩; exact ⟨rfl, HU.out.next hn⟩)
                 simp only [Act.put, List.setIfInBounds_toArray, List.set_cons_zero, List.set_cons_succ]
                 go_big_quiet_on))
            refine wpQuiet_nil ?_
            intro u hu
            have hr2 := hu.toKQ.store3 v1
            have fz := hu.toKQ.c.fz
            have c0 := hu.c0
            have c1 := hu.c1
            have c2 := hu.c2
            have c3 := hu.c3
            have c4 := hu.c4
            have c5 := hu.c5
            have c6 := hu.c6
            have c7 := hu.c7
            have c8 := hu.c8
            have c9 := hu.c9
            have HR2 := Lib.hid hr2
            clear hu hr2 HX2
            go_wp2
            have HX3 := Lib.hid (KQX.mk' (ad := ⟨b2, off2 + m, none⟩) HR2.out hbl HX.out)
            clear HR2 fz c0 c1 c2 c3 c4 c5 c6 c7 c8 c9
            refine wp_region_class_tail (C := KQX w g1 z1 g2 z2 g3 v1 g4 y1 ⟨b2, off2 + m, none⟩ (.int .u64 n)) 6 (by kernel_rfl) (by kernel_rfl) (HX3.out) ?_
            simp only [List.take_succ_cons, List.take_zero, List.drop_succ_cons, List.drop_zero]
            repeat (first
              | go_big_quiet_skip
              | (go_big_quiet_want; go_big_quiet_op; go_big_quiet_on)
              | (go_big_quiet_want; go_big_quiet_op; refine ⟨_, fun _ _ => rfl, ?_⟩; go_big_quiet_on)
              | (go_big_quiet_want
                 apply quiet_mk
                 · intro u hu
                   have d0 := hu.d0; have d1 := hu.d1; have d2 := hu.d2; have d3 := hu.d3; have d4 := hu.d4; have d5 := hu.d5; have d6 := hu.d6; have d7 := hu.d7; have d8 := hu.d8; have xc := hu.xc
                   have HU := Lib.hid hu
                   clear hu
                   go_simp
                   first
                     | with_reducible rfl
                     | (go_at_call 26; refine (U.out _).mono ?_; rintro e w' ⟨rfl, hn⟩; exact ⟨rfl, HU.out.next hn⟩)
                 simp only [Act.put, List.setIfInBounds_toArray, List.set_cons_zero, List.set_cons_succ]
                 go_big_quiet_on))
            refine wpQuiet_nil ?_
            intro u hu
            have hr3 := hu.toKQ.store4 v2
            have fz := hu.toKQ.d.fz
            have d0 := hu.d0
            have d1 := hu.d1
            have d2 := hu.d2
            have d3 := hu.d3
            have d4 := hu.d4
            have d5 := hu.d5
            have d6 := hu.d6
            have d7 := hu.d7
            have d8 := hu.d8
            have HR3 := Lib.hid hr3
            clear hu hr3 HX3
            go_wp2
            go_roundg (j - (m + 1))
            case rel => exact ⟨m + 1, by omega, rfl, by go_num, by rw [← HV1.out, ← HV2.out]; exact HR3.out⟩
            case measure => omega
          · obtain rfl : m = j := by omega
            rw [← HZ1.out, ← HZ2.out] at hr
            have HZ0 := Lib.hid (KQZ.start hr)
            have T0 : RowKit.Hid (∀ W : World, Calls Tryd.prog 18 #[popV (Po.end 0 0), .int .u64 5] W fun e w' => e = .returned (popV (Po.end 0 0)) ∧ Below W.heap.size W w') := Lib.hid (fun W => ptook_0 0 0 0 0 0 0 0 0 0 0 rfl rfl rfl 5 _ (fun W => stay_any (Po.end 0 0) 5 W) W)
            have U0 : RowKit.Hid (∀ W : World, Calls Tryd.prog 26 #[suV (Su.end 0), .int .u64 5] W fun e w' => e = .returned (suV (Su.end 0)) ∧ Below W.heap.size W w') := Lib.hid (fun W => stook_0 0 0 0 0 0 0 0 0 5 _ (fun W => sstay_any (Su.end 0) 5 W) W)
            have D0 := Lib.hid (pdone_yes 0 0)
            have E0 := Lib.hid (sdone_yes 0)
            have Q0 := Lib.hid (pwant_0 0 0)
            have R0 := Lib.hid (swant_0 0)
            clear hr hg hlt HZ1 HZ2 HC HA NS XS YS HX0 HY0
            go_wp2_with (first
              | (go_at_call 18; refine (T0.out _).mono ?_; rintro e v1 ⟨rfl, hn⟩; have K1 := Lib.hid (HZ0.out.next hn); clear hn; have a0 := K1.out.a0; have a1 := K1.out.a1; have a2 := K1.out.a2; have a3 := K1.out.a3; have a4 := K1.out.a4; have a5 := K1.out.a5; have a6 := K1.out.a6; have a7 := K1.out.a7; have a8 := K1.out.a8; have a9 := K1.out.a9; have b0 := K1.out.b0; have b1 := K1.out.b1; have b2 := K1.out.b2; have b3 := K1.out.b3; have b4 := K1.out.b4; have b5 := K1.out.b5; have b6 := K1.out.b6; have b7 := K1.out.b7; have b8 := K1.out.b8; have c0 := K1.out.c0; have c1 := K1.out.c1; have c2 := K1.out.c2; have c3 := K1.out.c3; have c4 := K1.out.c4; have c5 := K1.out.c5; have c6 := K1.out.c6; have c7 := K1.out.c7; have c8 := K1.out.c8; have c9 := K1.out.c9; have d0 := K1.out.d0; have d1 := K1.out.d1; have d2 := K1.out.d2; have d3 := K1.out.d3; have d4 := K1.out.d4; have d5 := K1.out.d5; have d6 := K1.out.d6; have d7 := K1.out.d7; have d8 := K1.out.d8; have e0 := K1.out.n.c0; have e1 := K1.out.n.c1; have e2 := K1.out.n.c2; have e3 := K1.out.n.c3; have e4 := K1.out.n.c4; have e5 := K1.out.n.c5; have e6 := K1.out.n.c6; have e7 := K1.out.n.c7; have e8 := K1.out.n.c8; have e9 := K1.out.n.c9; have f0 := K1.out.v.c0; have f1 := K1.out.v.c1; have f2 := K1.out.v.c2; have f3 := K1.out.v.c3; have f4 := K1.out.v.c4; have f5 := K1.out.v.c5; have f6 := K1.out.v.c6; have f7 := K1.out.v.c7; have f8 := K1.out.v.c8)
              | (go_at_call 14; refine (D0.out _).mono ?_; rintro e v2 ⟨rfl, hn⟩; have K2 := Lib.hid (K1.out.next hn); clear hn a0 a1 a2 a3 a4 a5 a6 a7 a8 a9 b0 b1 b2 b3 b4 b5 b6 b7 b8 c0 c1 c2 c3 c4 c5 c6 c7 c8 c9 d0 d1 d2 d3 d4 d5 d6 d7 d8 e0 e1 e2 e3 e4 e5 e6 e7 e8 e9 f0 f1 f2 f3 f4 f5 f6 f7 f8; have a0 := K2.out.a0; have a1 := K2.out.a1; have a2 := K2.out.a2; have a3 := K2.out.a3; have a4 := K2.out.a4; have a5 := K2.out.a5; have a6 := K2.out.a6; have a7 := K2.out.a7; have a8 := K2.out.a8; have a9 := K2.out.a9; have b0 := K2.out.b0; have b1 := K2.out.b1; have b2 := K2.out.b2; have b3 := K2.out.b3; have b4 := K2.out.b4; have b5 := K2.out.b5; have b6 := K2.out.b6; have b7 := K2.out.b7; have b8 := K2.out.b8; have c0 := K2.out.c0; have c1 := K2.out.c1; have c2 := K2.out.c2; have c3 := K2.out.c3; have c4 := K2.out.c4; have c5 := K2.out.c5; have c6 := K2.out.c6; have c7 := K2.out.c7; have c8 := K2.out.c8; have c9 := K2.out.c9; have d0 := K2.out.d0; have d1 := K2.out.d1; have d2 := K2.out.d2; have d3 := K2.out.d3; have d4 := K2.out.d4; have d5 := K2.out.d5; have d6 := K2.out.d6; have d7 := K2.out.d7; have d8 := K2.out.d8; have e0 := K2.out.n.c0; have e1 := K2.out.n.c1; have e2 := K2.out.n.c2; have e3 := K2.out.n.c3; have e4 := K2.out.n.c4; have e5 := K2.out.n.c5; have e6 := K2.out.n.c6; have e7 := K2.out.n.c7; have e8 := K2.out.n.c8; have e9 := K2.out.n.c9; have f0 := K2.out.v.c0; have f1 := K2.out.v.c1; have f2 := K2.out.v.c2; have f3 := K2.out.v.c3; have f4 := K2.out.v.c4; have f5 := K2.out.v.c5; have f6 := K2.out.v.c6; have f7 := K2.out.v.c7; have f8 := K2.out.v.c8)
              | (go_at_call 26; refine (U0.out _).mono ?_; rintro e v3 ⟨rfl, hn⟩; have K3 := Lib.hid (K2.out.next hn); clear hn a0 a1 a2 a3 a4 a5 a6 a7 a8 a9 b0 b1 b2 b3 b4 b5 b6 b7 b8 c0 c1 c2 c3 c4 c5 c6 c7 c8 c9 d0 d1 d2 d3 d4 d5 d6 d7 d8 e0 e1 e2 e3 e4 e5 e6 e7 e8 e9 f0 f1 f2 f3 f4 f5 f6 f7 f8; have a0 := K3.out.a0; have a1 := K3.out.a1; have a2 := K3.out.a2; have a3 := K3.out.a3; have a4 := K3.out.a4; have a5 := K3.out.a5; have a6 := K3.out.a6; have a7 := K3.out.a7; have a8 := K3.out.a8; have a9 := K3.out.a9; have b0 := K3.out.b0; have b1 := K3.out.b1; have b2 := K3.out.b2; have b3 := K3.out.b3; have b4 := K3.out.b4; have b5 := K3.out.b5; have b6 := K3.out.b6; have b7 := K3.out.b7; have b8 := K3.out.b8; have c0 := K3.out.c0; have c1 := K3.out.c1; have c2 := K3.out.c2; have c3 := K3.out.c3; have c4 := K3.out.c4; have c5 := K3.out.c5; have c6 := K3.out.c6; have c7 := K3.out.c7; have c8 := K3.out.c8; have c9 := K3.out.c9; have d0 := K3.out.d0; have d1 := K3.out.d1; have d2 := K3.out.d2; have d3 := K3.out.d3; have d4 := K3.out.d4; have d5 := K3.out.d5; have d6 := K3.out.d6; have d7 := K3.out.d7; have d8 := K3.out.d8; have e0 := K3.out.n.c0; have e1 := K3.out.n.c1; have e2 := K3.out.n.c2; have e3 := K3.out.n.c3; have e4 := K3.out.n.c4; have e5 := K3.out.n.c5; have e6 := K3.out.n.c6; have e7 := K3.out.n.c7; have e8 := K3.out.n.c8; have e9 := K3.out.n.c9; have f0 := K3.out.v.c0; have f1 := K3.out.v.c1; have f2 := K3.out.v.c2; have f3 := K3.out.v.c3; have f4 := K3.out.v.c4; have f5 := K3.out.v.c5; have f6 := K3.out.v.c6; have f7 := K3.out.v.c7; have f8 := K3.out.v.c8)
              | (go_at_call 24; refine (E0.out _).mono ?_; rintro e v4 ⟨rfl, hn⟩; have K4 := Lib.hid (K3.out.next hn); clear hn a0 a1 a2 a3 a4 a5 a6 a7 a8 a9 b0 b1 b2 b3 b4 b5 b6 b7 b8 c0 c1 c2 c3 c4 c5 c6 c7 c8 c9 d0 d1 d2 d3 d4 d5 d6 d7 d8 e0 e1 e2 e3 e4 e5 e6 e7 e8 e9 f0 f1 f2 f3 f4 f5 f6 f7 f8; have a0 := K4.out.a0; have a1 := K4.out.a1; have a2 := K4.out.a2; have a3 := K4.out.a3; have a4 := K4.out.a4; have a5 := K4.out.a5; have a6 := K4.out.a6; have a7 := K4.out.a7; have a8 := K4.out.a8; have a9 := K4.out.a9; have b0 := K4.out.b0; have b1 := K4.out.b1; have b2 := K4.out.b2; have b3 := K4.out.b3; have b4 := K4.out.b4; have b5 := K4.out.b5; have b6 := K4.out.b6; have b7 := K4.out.b7; have b8 := K4.out.b8; have c0 := K4.out.c0; have c1 := K4.out.c1; have c2 := K4.out.c2; have c3 := K4.out.c3; have c4 := K4.out.c4; have c5 := K4.out.c5; have c6 := K4.out.c6; have c7 := K4.out.c7; have c8 := K4.out.c8; have c9 := K4.out.c9; have d0 := K4.out.d0; have d1 := K4.out.d1; have d2 := K4.out.d2; have d3 := K4.out.d3; have d4 := K4.out.d4; have d5 := K4.out.d5; have d6 := K4.out.d6; have d7 := K4.out.d7; have d8 := K4.out.d8; have e0 := K4.out.n.c0; have e1 := K4.out.n.c1; have e2 := K4.out.n.c2; have e3 := K4.out.n.c3; have e4 := K4.out.n.c4; have e5 := K4.out.n.c5; have e6 := K4.out.n.c6; have e7 := K4.out.n.c7; have e8 := K4.out.n.c8; have e9 := K4.out.n.c9; have f0 := K4.out.v.c0; have f1 := K4.out.v.c1; have f2 := K4.out.v.c2; have f3 := K4.out.v.c3; have f4 := K4.out.v.c4; have f5 := K4.out.v.c5; have f6 := K4.out.v.c6; have f7 := K4.out.v.c7; have f8 := K4.out.v.c8)
              | (go_at_call 15; refine (Q0.out _).mono ?_; rintro e v5 ⟨rfl, hn⟩; have K5 := Lib.hid (K4.out.next hn); clear hn a0 a1 a2 a3 a4 a5 a6 a7 a8 a9 b0 b1 b2 b3 b4 b5 b6 b7 b8 c0 c1 c2 c3 c4 c5 c6 c7 c8 c9 d0 d1 d2 d3 d4 d5 d6 d7 d8 e0 e1 e2 e3 e4 e5 e6 e7 e8 e9 f0 f1 f2 f3 f4 f5 f6 f7 f8; have a0 := K5.out.a0; have a1 := K5.out.a1; have a2 := K5.out.a2; have a3 := K5.out.a3; have a4 := K5.out.a4; have a5 := K5.out.a5; have a6 := K5.out.a6; have a7 := K5.out.a7; have a8 := K5.out.a8; have a9 := K5.out.a9; have b0 := K5.out.b0; have b1 := K5.out.b1; have b2 := K5.out.b2; have b3 := K5.out.b3; have b4 := K5.out.b4; have b5 := K5.out.b5; have b6 := K5.out.b6; have b7 := K5.out.b7; have b8 := K5.out.b8; have c0 := K5.out.c0; have c1 := K5.out.c1; have c2 := K5.out.c2; have c3 := K5.out.c3; have c4 := K5.out.c4; have c5 := K5.out.c5; have c6 := K5.out.c6; have c7 := K5.out.c7; have c8 := K5.out.c8; have c9 := K5.out.c9; have d0 := K5.out.d0; have d1 := K5.out.d1; have d2 := K5.out.d2; have d3 := K5.out.d3; have d4 := K5.out.d4; have d5 := K5.out.d5; have d6 := K5.out.d6; have d7 := K5.out.d7; have d8 := K5.out.d8; have e0 := K5.out.n.c0; have e1 := K5.out.n.c1; have e2 := K5.out.n.c2; have e3 := K5.out.n.c3; have e4 := K5.out.n.c4; have e5 := K5.out.n.c5; have e6 := K5.out.n.c6; have e7 := K5.out.n.c7; have e8 := K5.out.n.c8; have e9 := K5.out.n.c9; have f0 := K5.out.v.c0; have f1 := K5.out.v.c1; have f2 := K5.out.v.c2; have f3 := K5.out.v.c3; have f4 := K5.out.v.c4; have f5 := K5.out.v.c5; have f6 := K5.out.v.c6; have f7 := K5.out.v.c7; have f8 := K5.out.v.c8)
              | (go_at_call 22; refine (R0.out _).mono ?_; rintro e v6 ⟨rfl, hn⟩; have K6 := Lib.hid (K5.out.next hn); clear hn a0 a1 a2 a3 a4 a5 a6 a7 a8 a9 b0 b1 b2 b3 b4 b5 b6 b7 b8 c0 c1 c2 c3 c4 c5 c6 c7 c8 c9 d0 d1 d2 d3 d4 d5 d6 d7 d8 e0 e1 e2 e3 e4 e5 e6 e7 e8 e9 f0 f1 f2 f3 f4 f5 f6 f7 f8; have a0 := K6.out.a0; have a1 := K6.out.a1; have a2 := K6.out.a2; have a3 := K6.out.a3; have a4 := K6.out.a4; have a5 := K6.out.a5; have a6 := K6.out.a6; have a7 := K6.out.a7; have a8 := K6.out.a8; have a9 := K6.out.a9; have b0 := K6.out.b0; have b1 := K6.out.b1; have b2 := K6.out.b2; have b3 := K6.out.b3; have b4 := K6.out.b4; have b5 := K6.out.b5; have b6 := K6.out.b6; have b7 := K6.out.b7; have b8 := K6.out.b8; have c0 := K6.out.c0; have c1 := K6.out.c1; have c2 := K6.out.c2; have c3 := K6.out.c3; have c4 := K6.out.c4; have c5 := K6.out.c5; have c6 := K6.out.c6; have c7 := K6.out.c7; have c8 := K6.out.c8; have c9 := K6.out.c9; have d0 := K6.out.d0; have d1 := K6.out.d1; have d2 := K6.out.d2; have d3 := K6.out.d3; have d4 := K6.out.d4; have d5 := K6.out.d5; have d6 := K6.out.d6; have d7 := K6.out.d7; have d8 := K6.out.d8; have e0 := K6.out.n.c0; have e1 := K6.out.n.c1; have e2 := K6.out.n.c2; have e3 := K6.out.n.c3; have e4 := K6.out.n.c4; have e5 := K6.out.n.c5; have e6 := K6.out.n.c6; have e7 := K6.out.n.c7; have e8 := K6.out.n.c8; have e9 := K6.out.n.c9; have f0 := K6.out.v.c0; have f1 := K6.out.v.c1; have f2 := K6.out.v.c2; have f3 := K6.out.v.c3; have f4 := K6.out.v.c4; have f5 := K6.out.v.c5; have f6 := K6.out.v.c6; have f7 := K6.out.v.c7; have f8 := K6.out.v.c8)
              | (go_at_call 10; refine (AW.out _ (HG.out.next K6.out.bl)).mono ?_; rintro e v7 ⟨rfl, h7⟩))
            go_ret
            exact ⟨rfl, K6.out.bl.trans (h7.mono K6.out.bl.size)⟩
  · have h20 : 60 < (len2 : Int) := by omega
    have B1 := Lib.hid b1
    clear hlen hc2 hA2 hG hz63 b1
    go_enter Tryd.func5, Tryd.ntmps5
    go_wp2_with (go_at_call 10; refine (AW.out _ (HG.out.next B1.out)).mono ?_; rintro e un ⟨rfl, hn⟩)
    go_ret
    exact ⟨rfl, B1.out.trans (hn.mono B1.out.size)⟩

set_option maxRecDepth 100000 in
theorem lifted (os : Os) (started : os.Started) (H : Type) (enc : TypeId × Value → H) :
    ReturnsInHanded {} Tryd.checked os 5 .any (fun w args => (Rows.stackValuesSpec.pre enc Tryd.prog Tryd.f5 [] false w args ∧ laidMetH Tryd.prog laidVars w) ∧ sizedMet enc Tryd.prog Tryd.f5 (OpenSpec.ofChange Rows.stackValuesSpec) false w args)
      (Rows.stackValuesSpec.post enc Tryd.prog Tryd.f5 false true false false) := by
  refine returnsInHanded_of_change_and (C := Tryd.checked) (X := fun w _ => laidMetH Tryd.prog laidVars w) (fun _ _ _ hh h => h.of_heap hh) own started (by kernel_rfl) Tryd.func5
    (ChangeSpec.witness_shaped (enc := enc) (C := Tryd.checked) (os := os) (X := fun w _ => laidMetH Tryd.prog laidVars w) false (World.doorLaid Tryd.prog 400 os) #[.agg #[.int .i64 0, .int .i64 0, .int .i64 0, .int .i64 0, .int .i64 0], .int .i64 0, .slice none 0 0] 8 rfl (World.shaped_of_RefB (by kernel_rfl) (by kernel_rfl)) (by kernel_rfl) (by kernel_rfl) (by kernel_rfl) (door_met os _)) ?_
  intro W base args ds gs before hval0 hW _ _ hL _
  have hval : ∀ (j : Nat) t v, Tryd.f5.params[j]? = some t → args[j]? = some v → Value.okWide Tryd.prog W .any base t v := hval0
  have hW' := hW
  obtain ⟨p, q, hA0, hV, rfl, hfz, hnd⟩ := hW
  have hA : DataW.TrodAll enc Tryd.prog W 0 (fun _ => true) true Tryd.f5.params.toList args.toList ds p := hA0
  rw [Tryd.params5] at hA hval
  obtain ⟨v0, vs0, d0, ds0, p0, q0, hargs, rfl, rfl, h0, r0⟩ := trodAll_cons hA
  obtain ⟨v1, vs1, d1, ds1, p1, q1, rfl, rfl, rfl, h1, r1⟩ := trodAll_cons r0
  obtain ⟨v2, vs2, d2, ds2, p2, q2, rfl, rfl, rfl, h2, r2⟩ := trodAll_cons r1
  obtain ⟨rfl, rfl, rfl⟩ := trodAll_nil r2
  obtain rfl : args = #[v0, v1, v2] := by cases args; simp_all
  obtain ⟨rfl, rfl⟩ := trodVars_none hV
  have k0 := h0
  obtain ⟨ns0, h0l, h0v, h0w⟩ := open_intStruct [.i64, .i64, .i64, .i64, .i64] Tryd.underlying23 (by kernel_rfl) (by kernel_rfl) rfl (hval 0 23 v0 rfl rfl) h0
  obtain ⟨a0_0, a0_1, a0_2, a0_3, a0_4, rfl⟩ := list5 h0l
  obtain rfl : v0 = .agg #[.int .i64 a0_0, .int .i64 a0_1, .int .i64 a0_2, .int .i64 a0_3, .int .i64 a0_4] := h0v
  obtain ⟨a1, rfl, rfl, rfl, w1⟩ := open_int Tryd.underlying3 (hval 1 3 v1 rfl rfl) h1
  obtain ⟨A2, len2, cap2, rfl⟩ := okWide_slice Tryd.underlying24 (hval 2 24 v2 rfl rfl)
  have k2 := h2
  obtain ⟨b2, off2, zs2, hl2, hm2, hA2, hc2, hw2⟩ := open_slice Tryd.underlying24 Tryd.underlying28 cells28 h2
  clear hA0 hval0
  simp only [List.append_nil] at hW'
  have hlt0 : ∀ x ∈ p0, x.block < W.heap.size := fun x hx => by simpa using hW'.lt x (by simp [hx])
  have hlt2 : ∀ x ∈ p2, x.block < W.heap.size := fun x hx => by simpa using hW'.lt x (by simp [hx])
  refine (walk W (of_laid hL) a0_0 (h0w 0 .i64 _ rfl rfl) a0_1 (h0w 1 .i64 _ rfl rfl) a0_2 (h0w 2 .i64 _ rfl rfl) a0_3 (h0w 3 .i64 _ rfl rfl) a0_4 (h0w 4 .i64 _ rfl rfl) a1 w1 A2 len2 cap2 b2 off2 zs2 hl2 hm2 hA2 hc2 hw2).mono fun e W' ⟨he, hg⟩ => ?_
  subst he
  exact ⟨_, rfl, post_of_below2 (pv := []) hW' (fun _ _ _ => (trodAll_cons_mk (shut_bool Tryd.underlying4 _) trodAll_mk0)) (trodAll_cons_mk (Below.trod laidOut (by kernel_rfl) (of_decide_eq_true (by kernel_rfl)) k0 hg hlt0) (trodAll_cons_mk (shut_int Tryd.underlying3 w1) (trodAll_cons_mk (Below.trod laidOut (by kernel_rfl) (of_decide_eq_true (by kernel_rfl)) k2 hg hlt2) trodAll_mk0))) rfl (by simp) (hg.frame _)⟩

theorem over : Rows.stackValuesRow.holds Tryd.pinned (OpenSpec.ofChange Rows.stackValuesSpec) :=
  OpenClaim.holds_of_wide 5 Tryd.f5 rfl rfl rfl rfl rfl rfl rfl ⟨rfl, rfl, rfl, rfl, rfl⟩ rfl rfl rfl rfl rfl (by kernel_rfl) Tryd.func5 (by kernel_rfl)
    (of_decide_eq_true (by kernel_rfl)) (by unfold Func.isWrapper; first | (rw [if_pos (by decide +kernel)]; kernel_rfl) | (rw [if_neg (by decide +kernel)]; exact ⟨rfl, rfl⟩))
    (fun os started H enc _ => lifted os started H enc)

theorem row : Rows.StackValuesSaid := over

theorem proved : Rows.StackValuesCardSaid :=
  Claim7.holds_tied_plain_at .later [] [.handle, .data] true (true, "f0659f8924366627c8d27a58d5cb44758547b60776ef5df080b654cbcddf38d8") true
    row (fun _ h => by cases h) (by kernel_rfl) (fun _ h => by cases h) stackValues_row_tie rfl ⟨rfl, rfl⟩ (by kernel_rfl) rfl
    (fun f fn hf hfn => by
      obtain rfl : f = 5 := Option.some.inj ((show Tryd.prog.funcNamed "gleaning/gleaninglaw15.StackValues" = some 5 by kernel_rfl).symm.trans hf) |>.symm
      obtain rfl : fn = Tryd.f5 := (Option.some.inj (Tryd.func5.symm.trans hfn)).symm
      exact ⟨by kernel_rfl, fun j t ht => by
        rw [Tryd.params5] at ht
        have hm : t ∈ [23, 3, 24] := by simpa using Array.mem_of_getElem? ht
        have hall : ([23, 3, 24].all fun u => !Tryd.prog.wantsStandIn u) = true := by kernel_rfl
        exact (show Tryd.prog.wantsStandIn t = false by simpa using List.all_eq_true.1 hall t hm)⟩)
    (by kernel_rfl)

#print axioms proved
end Go.Proofs.YtfejkcbdbkpnfaaDoor.stackValues
