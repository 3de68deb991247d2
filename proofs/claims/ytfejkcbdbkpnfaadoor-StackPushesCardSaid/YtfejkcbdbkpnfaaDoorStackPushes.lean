/- gleaninglaw15.StackPushes: for every input the law returns true, and leaves its arguments as they were. The package-level variables that it reads hold what the program's text lays in them (a tied card); no other condition. -/
import Derived.Test.YtfejkcbdbkpnfaaDoorRows
import Derived.WalkKit
import Derived.Test.YtfejkcbdbkpnfaaDoorCards
import Derived.Test.YtfejkcbdbkpnfaaDoorTie
import Derived.Test.YtfejkcbdbkpnfaaDoorLaid
import Derived.SevenTiedAt
import Derived.Test.YtfejkcbdbkpnfaaDoorOpen
import Derived.Deep.QuietTactic
import Derived.BigQuiet
import Derived.Deep.LoopGhost
import Derived.Test.YtfejkcbdbkpnfaaDoorPush2
import Derived.Test.YtfejkcbdbkpnfaaDoorTail
import Derived.Test.YtfejkcbdbkpnfaaDoorLaid
import Derived.Test.YtfejkcbdbkpnfaaDoorOpen
import Derived.Test.YtfejkcbdbkpnfaaDoorFrame
import Derived.ProofKit
import Derived.OpenShut
namespace Go.Proofs.YtfejkcbdbkpnfaaDoor.stackPushes
open Go.ChangeShapes Go.WideShapes Go.ChangeAt Go.RowKit
set_option linter.unusedVariables false

theorem own : ownKnob Tryd.prog.godebug = none := by kernel_rfl
theorem laidOut : laidOutB Tryd.prog = true := by kernel_rfl
theorem cells28 : Tryd.prog.cellsOf 28 = 1 := by kernel_rfl

set_option maxHeartbeats 4000000 in
theorem walk (w : World) (hG : GL w) (a0_0 : Int) (w0_0 : (Lit.int .i64 a0_0).wf = true) (a0_1 : Int) (w0_1 : (Lit.int .i64 a0_1).wf = true) (a0_2 : Int) (w0_2 : (Lit.int .i64 a0_2).wf = true) (a0_3 : Int) (w0_3 : (Lit.int .i64 a0_3).wf = true) (a0_4 : Int) (w0_4 : (Lit.int .i64 a0_4).wf = true) (a1 : Int) (w1 : (Lit.int .i64 a1).wf = true) (A2 : Option Addr) (len2 cap2 b2 off2 : Nat) (zs2 : List Int) (hl2 : zs2.length = len2) (hm2 : len2 ≤ cap2 ∧ len2 ≤ maxLen) (hA2 : 0 < len2 → A2 = some ⟨b2, off2, none⟩ ∧ b2 < w.heap.size) (hc2 : ∀ i, i < len2 → w.cell? ⟨b2, off2 + i, none⟩ = some (.int .u64 (zs2.getD i 0))) (hw2 : ∀ n ∈ zs2, (Lit.int .u64 n).wf = true) :
    Calls Tryd.prog 4 #[.agg #[.int .i64 a0_0, .int .i64 a0_1, .int .i64 a0_2, .int .i64 a0_3, .int .i64 a0_4], .int .i64 a1, .slice A2 len2 cap2] w fun e w' => e = .returned (.bool true) ∧ Below w.heap.size w w' := by
  have AW := Lib.hid awake15_any
  have HG := Lib.hid hG
  have hz63 : ∀ j, j < len2 → ∃ n : Nat, zs2.getD j 0 = n ∧ n < 18446744073709551616 := by
    intro j hj
    have hm : zs2.getD j 0 ∈ zs2 := by
      have h : j < zs2.length := by omega
      rw [List.getD_eq_getElem?_getD, List.getElem?_eq_getElem h]; exact List.getElem_mem h
    have hw := hw2 _ hm
    have h1 := u64_lo hw; have h2 := u64_hi hw
    exact ⟨(zs2.getD j 0).toNat, by omega, by omega⟩
  have bb := below1 w (.cells #[.int .i64 a0_0, .int .i64 a0_1, .int .i64 a0_2, .int .i64 a0_3, .int .i64 a0_4] 23)
  by_cases hlen : (len2 : Int) ≤ 60
  · have HC := Lib.hid hc2
    have HA := Lib.hid hA2
    have HZ := Lib.hid hz63
    have hln : len2 ≤ 60 := by omega
    obtain ⟨s, t, f, l, p, x0, y0, hrel0, hN, hE, hR⟩ := srel_new a0_0 a0_1 a0_2 a0_3 a0_4 a1
    have N := Lib.hid (hN _ (hG.next bb))
    have hk0 : K5 w.heap.size w w.heap.size a0_0 a0_1 a0_2 a0_3 a0_4 (w.alloc (.cells #[.int .i64 a0_0, .int .i64 a0_1, .int .i64 a0_2, .int .i64 a0_3, .int .i64 a0_4] 23)) := ⟨by simp, by simp, by simp, by simp, by simp, bb, by simp⟩
    have HK := Lib.hid hk0
    have E := Lib.hid hE
    have R := Lib.hid hR
    have HREL := Lib.hid hrel0
    clear hN hE hR hrel0 hk0 bb hG hc2 hA2 hw2 hz63 w0_0 w0_1 w0_2 w0_3 w0_4 w1
    go_enter Tryd.func4, Tryd.ntmps4
    go_wp2_with (first
      | (go_at_call 12; refine N.out.mono ?_; rintro e u1 ⟨rfl, hn⟩; have k1 := Lib.hid (HK.out.next hn); clear hn)
      | (go_at_call 20; refine (E.out _).mono ?_; rintro e u2 ⟨rfl, hn⟩; have k2 := Lib.hid (k1.out.next hn); clear hn k1; have c0 := k2.out.c0; have c1 := k2.out.c1; have c2 := k2.out.c2; have c3 := k2.out.c3; have c4 := k2.out.c4; have z0 : w.heap.size < u2.heap.size := World.block_lt_of_cell? u2 _ c0)
      | (go_at_call 21; refine (R.out _).mono ?_; rintro e u3 ⟨rfl, hn⟩; have k3 := Lib.hid ((k2.out.next (below1 u2 (suRow x0))).next hn); have e3 := Lib.hid ((SC.alloc u2 x0).next hn); clear hn c0 c1 c2 c3 c4))
    obtain ⟨wl, hwl⟩ : ∃ wl : World, wl = u3.alloc (.cells #[.int .i64 y0.a, .int .u64 y0.hd, .int .i64 y0.sl, .int .i64 y0.tr] 50) := ⟨_, rfl⟩
    have hky : KYS w w.heap.size a0_0 a0_1 a0_2 a0_3 a0_4 u2.heap.size x0 u3.heap.size y0 wl := by
      have z1 : w.heap.size < u3.heap.size := World.block_lt_of_cell? u3 _ k3.out.c0
      have z2 := e3.out.lt
      rw [hwl]; exact ⟨k3.out.next (below1 _ _), e3.out.next (below1 _ _), RSC.alloc u3 y0, by omega, by omega, by omega, by omega, by omega⟩
    rw [← hwl]
    have HKY := Lib.hid hky
    clear hky hwl k2 k3 e3 HK N E R z0
    generalize u3.heap.size = g2 at HKY ⊢
    generalize u2.heap.size = g1 at HKY ⊢
    generalize hg0 : w.heap.size = g0 at HKY ⊢
    go_loopg [9] (len2 + 1) (fun g i wr => ∃ (j : Nat) (x : Su) (y : Rs), j ≤ len2 + 1 ∧ g = len2 + 1 - j ∧ i = .int .i64 j ∧ RelS a0_0 a0_1 a0_2 a0_3 a0_4 j x y ∧ KYS w g0 a0_0 a0_1 a0_2 a0_3 a0_4 g1 x g2 y wr)
    case atStart => exact ⟨0, x0, y0, by omega, by omega, rfl, HREL.out, HKY.out⟩
    case round =>
      clear HKY HREL
      obtain ⟨j, x, y, hj, hg, rfl, hrl, hr⟩ := hrel
      by_cases hle : j ≤ len2
      · obtain ⟨k, a, o, m, hQ, hRQ⟩ := srel_want hrl
        obtain ⟨hD0, hD1⟩ := srel_done hrl
        have TR := Lib.hid (srel_tries hrl)
        have Q := Lib.hid hQ
        have RQ := Lib.hid hRQ
        have HS := Lib.hid hr.drew
        have HRL := Lib.hid hrl
        clear hQ hRQ hr hrl
        by_cases hlt : j < len2
        · obtain ⟨rfl, hbl⟩ := HA.out (by omega)
          obtain ⟨n, hz, hn⟩ := HZ.out j hlt
          have HX : RowKit.Hid (w.cell? ⟨b2, off2 + j, none⟩ = some (.int .u64 n)) := Lib.hid (by rw [← hz]; exact HC.out j hlt)
          obtain ⟨x1, y1, hrel1, hT, hRT⟩ := srel_took HRL.out (by omega) n hn
          have T := Lib.hid hT
          have RT := Lib.hid hRT
          have HREL1 := Lib.hid hrel1
          clear hT hRT hrel1 hz hn HRL
          by_cases ha : y.a = 0
          · have D := Lib.hid (hD0 ha)
            have h0 : (y.a == 0) = true := by simp [ha]
            clear ha hD0 hD1
            go_wp2
            refine wp_region_class (C := KYS w g0 a0_0 a0_1 a0_2 a0_3 a0_4 g1 x g2 y) (by kernel_rfl) (by kernel_rfl) (HS.out) ?_
            repeat (first
              | go_big_quiet_skip
              | (go_big_quiet_want; go_big_quiet_op; go_big_quiet_on)
              | (go_big_quiet_want; go_big_quiet_op; refine ⟨_, fun _ _ => rfl, ?_⟩; go_big_quiet_on)
              | (go_big_quiet_want
                 apply quiet_mk
                 · intro u hu
                   have c0 := hu.c0; have c1 := hu.c1; have c2 := hu.c2; have c3 := hu.c3; have c4 := hu.c4; have c5 := hu.c5; have c6 := hu.c6; have c7 := hu.c7; have c8 := hu.c8; have d0 := hu.d0; have d1 := hu.d1; have d2 := hu.d2; have d3 := hu.d3; have b0 := hu.b0; have b1 := hu.b1; have b2 := hu.b2; have b3 := hu.b3; have b4 := hu.b4
                   have HU := Lib.hid hu
                   clear hu
                   go_simp
                   first
                     | with_reducible rfl
                     | (go_at_call 22; refine (Q.out _).mono ?_; rintro e w' ⟨rfl, hn⟩; exact ⟨rfl, HU.out.next hn⟩) | (go_at_call 23; refine (RQ.out _).mono ?_; rintro e w' ⟨rfl, hn⟩; exact ⟨rfl, HU.out.next hn⟩) | (go_at_call 24; refine (D.out _).mono ?_; rintro e w' ⟨rfl, hn⟩; exact ⟨rfl, HU.out.next hn⟩) | (go_at_call 25; refine (TR.out _).mono ?_; rintro e w' ⟨rfl, hn⟩; exact ⟨rfl, HU.out.next hn⟩)
                 simp only [Act.put, List.setIfInBounds_toArray, List.set_cons_zero, List.set_cons_succ]
                 go_big_quiet_on))
            refine wpQuiet_nil ?_
            intro u hu
            have HS2 := Lib.hid hu
            clear hu HS
            go_wp2
            have HX2 := Lib.hid (KYSX.mk' (a := ⟨b2, off2 + j, none⟩) HS2.out hbl HX.out)
            clear HS2
            refine wp_region_class_tail (C := KYSX w g0 a0_0 a0_1 a0_2 a0_3 a0_4 g1 x g2 y ⟨b2, off2 + j, none⟩ (.int .u64 n)) 6 (by kernel_rfl) (by kernel_rfl) (HX2.out) ?_
            simp only [List.take_succ_cons, List.take_zero, List.drop_succ_cons, List.drop_zero]
            repeat (first
              | go_big_quiet_skip
              | (go_big_quiet_want; go_big_quiet_op; go_big_quiet_on)
              | (go_big_quiet_want; go_big_quiet_op; refine ⟨_, fun _ _ => rfl, ?_⟩; go_big_quiet_on)
              | (go_big_quiet_want
                 apply quiet_mk
                 · intro u hu
                   have c0 := hu.c0; have c1 := hu.c1; have c2 := hu.c2; have c3 := hu.c3; have c4 := hu.c4; have c5 := hu.c5; have c6 := hu.c6; have c7 := hu.c7; have c8 := hu.c8; have xc := hu.xc
                   have HU := Lib.hid hu
                   clear hu
                   go_simp
                   first
                     | with_reducible rfl
                     | (go_at_call 26; refine (T.out _).mono ?_; rintro e w' ⟨rfl, hn⟩; exact ⟨rfl, HU.out.next hn⟩)
                 simp only [Act.put, List.setIfInBounds_toArray, List.set_cons_zero, List.set_cons_succ]
                 go_big_quiet_on))
            refine wpQuiet_nil ?_
            intro u hu
            have hr2 := hu.toKYS.store1 x1
            have fz := hu.e.fz
            have c0 := hu.c0
            have c1 := hu.c1
            have c2 := hu.c2
            have c3 := hu.c3
            have c4 := hu.c4
            have c5 := hu.c5
            have c6 := hu.c6
            have c7 := hu.c7
            have c8 := hu.c8
            have HR2 := Lib.hid hr2
            clear hu hr2 HX2
            go_wp2
            have HX3 := Lib.hid (KYSX.mk' (a := ⟨b2, off2 + j, none⟩) HR2.out hbl HX.out)
            clear HR2 fz c0 c1 c2 c3 c4 c5 c6 c7 c8
            refine wp_region_class_tail (C := KYSX w g0 a0_0 a0_1 a0_2 a0_3 a0_4 g1 x1 g2 y ⟨b2, off2 + j, none⟩ (.int .u64 n)) 6 (by kernel_rfl) (by kernel_rfl) (HX3.out) ?_
            simp only [List.take_succ_cons, List.take_zero, List.drop_succ_cons, List.drop_zero]
            repeat (first
              | go_big_quiet_skip
              | (go_big_quiet_want; go_big_quiet_op; go_big_quiet_on)
              | (go_big_quiet_want; go_big_quiet_op; refine ⟨_, fun _ _ => rfl, ?_⟩; go_big_quiet_on)
              | (go_big_quiet_want
                 apply quiet_mk
                 · intro u hu
                   have d0 := hu.d0; have d1 := hu.d1; have d2 := hu.d2; have d3 := hu.d3; have xc := hu.xc
                   have HU := Lib.hid hu
                   clear hu
                   go_simp
                   first
                     | with_reducible rfl
                     | (go_at_call 27; refine (RT.out _).mono ?_; rintro e w' ⟨rfl, hn⟩; exact ⟨rfl, HU.out.next hn⟩)
                 simp only [Act.put, List.setIfInBounds_toArray, List.set_cons_zero, List.set_cons_succ]
                 go_big_quiet_on))
            refine wpQuiet_nil ?_
            intro u hu
            have hr3 := hu.toKYS.store2 y1
            have fz := hu.r.fz
            have d0 := hu.d0
            have d1 := hu.d1
            have d2 := hu.d2
            have d3 := hu.d3
            have HR3 := Lib.hid hr3
            clear hu hr3 HX3
            go_wp2
            go_roundg (len2 + 1 - (j + 1))
            case rel => exact ⟨j + 1, x1, y1, by omega, rfl, by go_num, HREL1.out, HR3.out⟩
            case measure => omega
          · have D := Lib.hid (hD1 ha)
            have h0 : (y.a == 0) = false := by simp [ha]
            clear ha hD0 hD1
            go_wp2
            refine wp_region_class (C := KYS w g0 a0_0 a0_1 a0_2 a0_3 a0_4 g1 x g2 y) (by kernel_rfl) (by kernel_rfl) (HS.out) ?_
            repeat (first
              | go_big_quiet_skip
              | (go_big_quiet_want; go_big_quiet_op; go_big_quiet_on)
              | (go_big_quiet_want; go_big_quiet_op; refine ⟨_, fun _ _ => rfl, ?_⟩; go_big_quiet_on)
              | (go_big_quiet_want
                 apply quiet_mk
                 · intro u hu
                   have c0 := hu.c0; have c1 := hu.c1; have c2 := hu.c2; have c3 := hu.c3; have c4 := hu.c4; have c5 := hu.c5; have c6 := hu.c6; have c7 := hu.c7; have c8 := hu.c8; have d0 := hu.d0; have d1 := hu.d1; have d2 := hu.d2; have d3 := hu.d3; have b0 := hu.b0; have b1 := hu.b1; have b2 := hu.b2; have b3 := hu.b3; have b4 := hu.b4
                   have HU := Lib.hid hu
                   clear hu
                   go_simp
                   first
                     | with_reducible rfl
                     | (go_at_call 22; refine (Q.out _).mono ?_; rintro e w' ⟨rfl, hn⟩; exact ⟨rfl, HU.out.next hn⟩) | (go_at_call 23; refine (RQ.out _).mono ?_; rintro e w' ⟨rfl, hn⟩; exact ⟨rfl, HU.out.next hn⟩) | (go_at_call 24; refine (D.out _).mono ?_; rintro e w' ⟨rfl, hn⟩; exact ⟨rfl, HU.out.next hn⟩) | (go_at_call 25; refine (TR.out _).mono ?_; rintro e w' ⟨rfl, hn⟩; exact ⟨rfl, HU.out.next hn⟩)
                 simp only [Act.put, List.setIfInBounds_toArray, List.set_cons_zero, List.set_cons_succ]
                 go_big_quiet_on))
            refine wpQuiet_nil ?_
            intro u hu
            have HS2 := Lib.hid hu
            clear hu HS
            go_wp2
            have HX2 := Lib.hid (KYSX.mk' (a := ⟨b2, off2 + j, none⟩) HS2.out hbl HX.out)
            clear HS2
            refine wp_region_class_tail (C := KYSX w g0 a0_0 a0_1 a0_2 a0_3 a0_4 g1 x g2 y ⟨b2, off2 + j, none⟩ (.int .u64 n)) 6 (by kernel_rfl) (by kernel_rfl) (HX2.out) ?_
            simp only [List.take_succ_cons, List.take_zero, List.drop_succ_cons, List.drop_zero]
            repeat (first
              | go_big_quiet_skip
              | (go_big_quiet_want; go_big_quiet_op; go_big_quiet_on)
              | (go_big_quiet_want; go_big_quiet_op; refine ⟨_, fun _ _ => rfl, ?_⟩; go_big_quiet_on)
              | (go_big_quiet_want
                 apply quiet_mk
                 · intro u hu
                   have c0 := hu.c0; have c1 := hu.c1; have c2 := hu.c2; have c3 := hu.c3; have c4 := hu.c4; have c5 := hu.c5; have c6 := hu.c6; have c7 := hu.c7; have c8 := hu.c8; have xc := hu.xc
                   have HU := Lib.hid hu
                   clear hu
                   go_simp
                   first
                     | with_reducible rfl
                     | (go_at_call 26; refine (T.out _).mono ?_; rintro e w' ⟨rfl, hn⟩; exact ⟨rfl, HU.out.next hn⟩)
                 simp only [Act.put, List.setIfInBounds_toArray, List.set_cons_zero, List.set_cons_succ]
                 go_big_quiet_on))
            refine wpQuiet_nil ?_
            intro u hu
            have hr2 := hu.toKYS.store1 x1
            have fz := hu.e.fz
            have c0 := hu.c0
            have c1 := hu.c1
            have c2 := hu.c2
            have c3 := hu.c3
            have c4 := hu.c4
            have c5 := hu.c5
            have c6 := hu.c6
            have c7 := hu.c7
            have c8 := hu.c8
            have HR2 := Lib.hid hr2
            clear hu hr2 HX2
            go_wp2
            have HX3 := Lib.hid (KYSX.mk' (a := ⟨b2, off2 + j, none⟩) HR2.out hbl HX.out)
            clear HR2 fz c0 c1 c2 c3 c4 c5 c6 c7 c8
            refine wp_region_class_tail (C := KYSX w g0 a0_0 a0_1 a0_2 a0_3 a0_4 g1 x1 g2 y ⟨b2, off2 + j, none⟩ (.int .u64 n)) 6 (by kernel_rfl) (by kernel_rfl) (HX3.out) ?_
            simp only [List.take_succ_cons, List.take_zero, List.drop_succ_cons, List.drop_zero]
            repeat (first
              | go_big_quiet_skip
              | (go_big_quiet_want; go_big_quiet_op; go_big_quiet_on)
              | (go_big_quiet_want; go_big_quiet_op; refine ⟨_, fun _ _ => rfl, ?_⟩; go_big_quiet_on)
              | (go_big_quiet_want
                 apply quiet_mk
                 · intro u hu
                   have d0 := hu.d0; have d1 := hu.d1; have d2 := hu.d2; have d3 := hu.d3; have xc := hu.xc
                   have HU := Lib.hid hu
                   clear hu
                   go_simp
                   first
                     | with_reducible rfl
                     | (go_at_call 27; refine (RT.out _).mono ?_; rintro e w' ⟨rfl, hn⟩; exact ⟨rfl, HU.out.next hn⟩)
                 simp only [Act.put, List.setIfInBounds_toArray, List.set_cons_zero, List.set_cons_succ]
                 go_big_quiet_on))
            refine wpQuiet_nil ?_
            intro u hu
            have hr3 := hu.toKYS.store2 y1
            have fz := hu.r.fz
            have d0 := hu.d0
            have d1 := hu.d1
            have d2 := hu.d2
            have d3 := hu.d3
            have HR3 := Lib.hid hr3
            clear hu hr3 HX3
            go_wp2
            go_roundg (len2 + 1 - (j + 1))
            case rel => exact ⟨j + 1, x1, y1, by omega, rfl, by go_num, HREL1.out, HR3.out⟩
            case measure => omega
        · obtain rfl : j = len2 := by omega
          by_cases ha : y.a = 0
          · have D := Lib.hid (hD0 ha)
            have h0 : (y.a == 0) = true := by simp [ha]
            clear ha hD0 hD1
            go_wp2
            refine wp_region_class (C := KYS w g0 a0_0 a0_1 a0_2 a0_3 a0_4 g1 x g2 y) (by kernel_rfl) (by kernel_rfl) (HS.out) ?_
            repeat (first
              | go_big_quiet_skip
              | (go_big_quiet_want; go_big_quiet_op; go_big_quiet_on)
              | (go_big_quiet_want; go_big_quiet_op; refine ⟨_, fun _ _ => rfl, ?_⟩; go_big_quiet_on)
              | (go_big_quiet_want
                 apply quiet_mk
                 · intro u hu
                   have c0 := hu.c0; have c1 := hu.c1; have c2 := hu.c2; have c3 := hu.c3; have c4 := hu.c4; have c5 := hu.c5; have c6 := hu.c6; have c7 := hu.c7; have c8 := hu.c8; have d0 := hu.d0; have d1 := hu.d1; have d2 := hu.d2; have d3 := hu.d3; have b0 := hu.b0; have b1 := hu.b1; have b2 := hu.b2; have b3 := hu.b3; have b4 := hu.b4
                   have HU := Lib.hid hu
                   clear hu
                   go_simp
                   first
                     | with_reducible rfl
                     | (go_at_call 22; refine (Q.out _).mono ?_; rintro e w' ⟨rfl, hn⟩; exact ⟨rfl, HU.out.next hn⟩) | (go_at_call 23; refine (RQ.out _).mono ?_; rintro e w' ⟨rfl, hn⟩; exact ⟨rfl, HU.out.next hn⟩) | (go_at_call 24; refine (D.out _).mono ?_; rintro e w' ⟨rfl, hn⟩; exact ⟨rfl, HU.out.next hn⟩) | (go_at_call 25; refine (TR.out _).mono ?_; rintro e w' ⟨rfl, hn⟩; exact ⟨rfl, HU.out.next hn⟩)
                 simp only [Act.put, List.setIfInBounds_toArray, List.set_cons_zero, List.set_cons_succ]
                 go_big_quiet_on))
            refine wpQuiet_nil ?_
            intro u hu
            have HS2 := Lib.hid hu
            clear hu HS
            go_wp2
            go_roundg (j + 1 - (j + 1))
            case rel => exact ⟨j + 1, x, y, by omega, rfl, by go_num, srel_up HRL.out, HS2.out⟩
            case measure => omega
          · have D := Lib.hid (hD1 ha)
            have h0 : (y.a == 0) = false := by simp [ha]
            clear ha hD0 hD1
            go_wp2
            refine wp_region_class (C := KYS w g0 a0_0 a0_1 a0_2 a0_3 a0_4 g1 x g2 y) (by kernel_rfl) (by kernel_rfl) (HS.out) ?_
            repeat (first
              | go_big_quiet_skip
              | (go_big_quiet_want; go_big_quiet_op; go_big_quiet_on)
              | (go_big_quiet_want; go_big_quiet_op; refine ⟨_, fun _ _ => rfl, ?_⟩; go_big_quiet_on)
              | (go_big_quiet_want
                 apply quiet_mk
                 · intro u hu
                   have c0 := hu.c0; have c1 := hu.c1; have c2 := hu.c2; have c3 := hu.c3; have c4 := hu.c4; have c5 := hu.c5; have c6 := hu.c6; have c7 := hu.c7; have c8 := hu.c8; have d0 := hu.d0; have d1 := hu.d1; have d2 := hu.d2; have d3 := hu.d3; have b0 := hu.b0; have b1 := hu.b1; have b2 := hu.b2; have b3 := hu.b3; have b4 := hu.b4
                   have HU := Lib.hid hu
                   clear hu
                   go_simp
                   first
                     | with_reducible rfl
                     | (go_at_call 22; refine (Q.out _).mono ?_; rintro e w' ⟨rfl, hn⟩; exact ⟨rfl, HU.out.next hn⟩) | (go_at_call 23; refine (RQ.out _).mono ?_; rintro e w' ⟨rfl, hn⟩; exact ⟨rfl, HU.out.next hn⟩) | (go_at_call 24; refine (D.out _).mono ?_; rintro e w' ⟨rfl, hn⟩; exact ⟨rfl, HU.out.next hn⟩) | (go_at_call 25; refine (TR.out _).mono ?_; rintro e w' ⟨rfl, hn⟩; exact ⟨rfl, HU.out.next hn⟩)
                 simp only [Act.put, List.setIfInBounds_toArray, List.set_cons_zero, List.set_cons_succ]
                 go_big_quiet_on))
            refine wpQuiet_nil ?_
            intro u hu
            have HS2 := Lib.hid hu
            clear hu HS
            go_wp2
            go_roundg (j + 1 - (j + 1))
            case rel => exact ⟨j + 1, x, y, by omega, rfl, by go_num, srel_up HRL.out, HS2.out⟩
            case measure => omega
      · have hgt : (len2 : Int) < j := by omega
        have BL := Lib.hid hr.k.bl
        clear hr hrl hle hg HA HC HZ
        go_wp2_with (go_at_call 10; refine (AW.out _ (HG.out.next BL.out)).mono ?_; rintro e v6 ⟨rfl, h6⟩)
        go_ret
        exact ⟨rfl, BL.out.trans (h6.mono BL.out.size)⟩
  · have h20 : 60 < (len2 : Int) := by omega
    have B1 := Lib.hid bb
    clear hlen hc2 hA2 hG hz63 bb
    go_enter Tryd.func4, Tryd.ntmps4
    go_wp2_with (go_at_call 10; refine (AW.out _ (HG.out.next B1.out)).mono ?_; rintro e un ⟨rfl, hn⟩)
    go_ret
    exact ⟨rfl, B1.out.trans (hn.mono B1.out.size)⟩

set_option maxRecDepth 100000 in
theorem lifted (os : Os) (started : os.Started) (H : Type) (enc : TypeId × Value → H) :
    ReturnsInHanded {} Tryd.checked os 4 .any (fun w args => (Rows.stackPushesSpec.pre enc Tryd.prog Tryd.f4 [] false w args ∧ laidMetH Tryd.prog laidVars w) ∧ sizedMet enc Tryd.prog Tryd.f4 (OpenSpec.ofChange Rows.stackPushesSpec) false w args)
      (Rows.stackPushesSpec.post enc Tryd.prog Tryd.f4 false true false false) := by
  refine returnsInHanded_of_change_and (C := Tryd.checked) (X := fun w _ => laidMetH Tryd.prog laidVars w) (fun _ _ _ hh h => h.of_heap hh) own started (by kernel_rfl) Tryd.func4
    (ChangeSpec.witness_shaped (enc := enc) (C := Tryd.checked) (os := os) (X := fun w _ => laidMetH Tryd.prog laidVars w) false (World.doorLaid Tryd.prog 400 os) #[.agg #[.int .i64 0, .int .i64 0, .int .i64 0, .int .i64 0, .int .i64 0], .int .i64 0, .slice none 0 0] 8 rfl (World.shaped_of_RefB (by kernel_rfl) (by kernel_rfl)) (by kernel_rfl) (by kernel_rfl) (by kernel_rfl) (door_met os _)) ?_
  intro W base args ds gs before hval0 hW _ _ hL _
  have hval : ∀ (j : Nat) t v, Tryd.f4.params[j]? = some t → args[j]? = some v → Value.okWide Tryd.prog W .any base t v := hval0
  have hW' := hW
  obtain ⟨p, q, hA0, hV, rfl, hfz, hnd⟩ := hW
  have hA : DataW.TrodAll enc Tryd.prog W 0 (fun _ => true) true Tryd.f4.params.toList args.toList ds p := hA0
  rw [Tryd.params4] at hA hval
  obtain ⟨v0, vs0, d0, ds0, p0, q0, hargs, rfl, rfl, h0, r0⟩ := trodAll_cons hA
  obtain ⟨v1, vs1, d1, ds1, p1, q1, rfl, rfl, rfl, h1, r1⟩ := trodAll_cons r0
  obtain ⟨v2, vs2, d2, ds2, p2, q2, rfl, rfl, rfl, h2, r2⟩ := trodAll_cons r1
  obtain ⟨rfl, rfl, rfl⟩ := trodAll_nil r2
  obtain rfl : args = #[v0, v1, v2] := by cases args; simp_all
  obtain ⟨rfl, rfl⟩ := trodVars_none hV
  have k0 := h0
  obtain ⟨ns0, h0l, h0v, h0w⟩ := open_intStruct [.i64, .i64, .i64, .i64, .i64] Tryd.underlying23 (by kernel_rfl) (by kernel_rfl) rfl (hval 0 23 v0 rfl rfl) h0
  obtain ⟨a0_0, a0_1, a0_2, a0_3, a0_4, rfl⟩ := list5 h0l
  obtain rfl : v0 = .agg #[.int .i64 a0_0, .int .i64 a0_1, .int .i64 a0_2, .int .i64 a0_3, .int .i64 a0_4] := h0v
  obtain ⟨a1, rfl, rfl, rfl, w1⟩ := open_int Tryd.underlying3 (hval 1 3 v1 rfl rfl) h1
  obtain ⟨A2, len2, cap2, rfl⟩ := okWide_slice Tryd.underlying24 (hval 2 24 v2 rfl rfl)
  have k2 := h2
  obtain ⟨b2, off2, zs2, hl2, hm2, hA2, hc2, hw2⟩ := open_slice Tryd.underlying24 Tryd.underlying28 cells28 h2
  clear hA0 hval0
  simp only [List.append_nil] at hW'
  have hlt0 : ∀ x ∈ p0, x.block < W.heap.size := fun x hx => by simpa using hW'.lt x (by simp [hx])
  have hlt2 : ∀ x ∈ p2, x.block < W.heap.size := fun x hx => by simpa using hW'.lt x (by simp [hx])
  refine (walk W (of_laid hL) a0_0 (h0w 0 .i64 _ rfl rfl) a0_1 (h0w 1 .i64 _ rfl rfl) a0_2 (h0w 2 .i64 _ rfl rfl) a0_3 (h0w 3 .i64 _ rfl rfl) a0_4 (h0w 4 .i64 _ rfl rfl) a1 w1 A2 len2 cap2 b2 off2 zs2 hl2 hm2 hA2 hc2 hw2).mono fun e W' ⟨he, hg⟩ => ?_
  subst he
  exact ⟨_, rfl, post_of_below2 (pv := []) hW' (fun _ _ _ => (trodAll_cons_mk (shut_bool Tryd.underlying4 _) trodAll_mk0)) (trodAll_cons_mk (Below.trod laidOut (by kernel_rfl) (of_decide_eq_true (by kernel_rfl)) k0 hg hlt0) (trodAll_cons_mk (shut_int Tryd.underlying3 w1) (trodAll_cons_mk (Below.trod laidOut (by kernel_rfl) (of_decide_eq_true (by kernel_rfl)) k2 hg hlt2) trodAll_mk0))) rfl (by simp) (hg.frame _)⟩

theorem over : Rows.stackPushesRow.holds Tryd.pinned (OpenSpec.ofChange Rows.stackPushesSpec) :=
  OpenClaim.holds_of_wide 4 Tryd.f4 rfl rfl rfl rfl rfl rfl rfl ⟨rfl, rfl, rfl, rfl, rfl⟩ rfl rfl rfl rfl rfl (by kernel_rfl) Tryd.func4 (by kernel_rfl)
    (of_decide_eq_true (by kernel_rfl)) (by unfold Func.isWrapper; first | (rw [if_pos (by decide +kernel)]; kernel_rfl) | (rw [if_neg (by decide +kernel)]; exact ⟨rfl, rfl⟩))
    (fun os started H enc _ => lifted os started H enc)

theorem row : Rows.StackPushesSaid := over

theorem proved : Rows.StackPushesCardSaid :=
  Claim7.holds_tied_plain_at .later [] [.handle, .data] true (true, "f0659f8924366627c8d27a58d5cb44758547b60776ef5df080b654cbcddf38d8") true
    row (fun _ h => by cases h) (by kernel_rfl) (fun _ h => by cases h) stackPushes_row_tie rfl ⟨rfl, rfl⟩ (by kernel_rfl) rfl
    (fun f fn hf hfn => by
      obtain rfl : f = 4 := Option.some.inj ((show Tryd.prog.funcNamed "gleaning/gleaninglaw15.StackPushes" = some 4 by kernel_rfl).symm.trans hf) |>.symm
      obtain rfl : fn = Tryd.f4 := (Option.some.inj (Tryd.func4.symm.trans hfn)).symm
      exact ⟨by kernel_rfl, fun j t ht => by
        rw [Tryd.params4] at ht
        have hm : t ∈ [23, 3, 24] := by simpa using Array.mem_of_getElem? ht
        have hall : ([23, 3, 24].all fun u => !Tryd.prog.wantsStandIn u) = true := by kernel_rfl
        exact (show Tryd.prog.wantsStandIn t = false by simpa using List.all_eq_true.1 hall t hm)⟩)
    (by kernel_rfl)

#print axioms proved
end Go.Proofs.YtfejkcbdbkpnfaaDoor.stackPushes
