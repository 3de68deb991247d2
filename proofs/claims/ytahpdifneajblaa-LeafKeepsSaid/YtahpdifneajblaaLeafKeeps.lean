/- gleaninglaw12.LeafKeeps: for every input the law returns true, and leaves its arguments as they were. No condition. -/
import Derived.Test.YtahpdifneajblaaRows
import Derived.WalkKit
import Derived.Deep.QuietTactic
import Derived.BigQuiet
import Derived.Deep.RegionWith
import Derived.Deep.LoopGhost
import Derived.Test.YtahpdifneajblaaLk
import Derived.Test.YtahpdifneajblaaTail
import Derived.Test.YtahpdifneajblaaFrame
import Derived.ProofKit
import Derived.OpenShut
namespace Go.Proofs.Ytahpdifneajblaa.leafKeeps
open Go.ChangeShapes Go.WideShapes Go.ChangeAt Go.RowKit
set_option linter.unusedVariables false

theorem own : ownKnob Try.prog.godebug = none := by kernel_rfl
theorem laidOut : laidOutB Try.prog = true := by kernel_rfl

set_option maxRecDepth 100000 in
set_option maxHeartbeats 4000000 in
theorem walk (w : World) (A0 : Option Addr) (len0 cap0 b0 off0 : Nat) (rs0 : List (Nat × Nat)) (hl0 : rs0.length = len0) (hm0 : len0 ≤ cap0 ∧ len0 ≤ maxLen) (hR0 : RdR w A0 b0 off0 rs0) (hb0 : ∀ r ∈ rs0, r.1 < 18446744073709551616 ∧ r.2 < 18446744073709551616) :
    Calls Try.prog 6 #[.slice A0 len0 cap0] w fun e w' => e = .returned (.bool true) ∧ Below w.heap.size w w' := by
  have H1 := Lib.hid hR0
  clear hR0 hb0
  by_cases hlen : (len0 : Int) ≤ 60
  · have hln : len0 ≤ 60 := by omega
    have HN := Lib.hid (show len0 ≤ rs0.length by omega)
    clear hl0
    have OF := Lib.hid of_9
    have AW := Lib.hid awake12_any
    go_enter Try.func6, Try.ntmps6
    go_wp2_with (go_at_call 25; refine (OF.out _).mono ?_; rintro e w1 ⟨A1, c1, A2, c2, rfl, hr, hn⟩; have K1 := Lib.hid (KN.start w w1 hn hr); clear hr hn; generalize hg : w1.heap.size = g at K1 ⊢)
    go_loopg [4] len0 (fun gk i wr => ∃ (j : Nat) (ks vs : List Nat) (A1 : Option Addr) (c1 : Nat) (A2 : Option Addr) (c2 : Nat), j ≤ len0 ∧ gk = len0 - j ∧ i = .int .i64 j ∧ okL ks vs ∧ ks.length ≤ j ∧ KN w g ks vs A1 c1 A2 c2 wr)
    case atStart => exact ⟨0, [], [], A1, c1, A2, c2, by omega, by omega, rfl, ⟨rfl, by simp [ris]⟩, by simp, K1.out⟩
    case round =>
      clear K1
      obtain ⟨j, ks, vs, A1, c1, A2, c2, hj, hgk, rfl, hok, hlk, hr⟩ := hrel
      by_cases hlt : j < len0
      · have hjl : j < rs0.length := by have := HN.out; omega
        obtain rfl := H1.out.a (by omega)
        have hbl := H1.out.lt (by omega)
        have q0 := (H1.out.next hr.bl).c0 j hjl
        have q1 := (H1.out.next hr.bl).c1 j hjl
        have hli : (j : Int) < len0 := by omega
        generalize rs0.getD j (0, 0) = r at q0 q1
        obtain ⟨kk, vv⟩ := r
        simp only at q0 q1
        have HS := Lib.hid (hr.kq hbl q0 q1)
        have HS1 := Lib.hid (HS.out.drew)
        clear H1 hjl hbl
        by_cases hodd : vv % 2 = 1
        · have hE : ((vv : Int) % 2 == 1) = true := by simp; omega
          have hZ : ((vv : Int) % 2 == 0) = false := by simp; omega
          have hT : (vv : Int).tmod 2 = (vv : Int) % 2 := Int.tmod_eq_emod_of_nonneg (by omega)
          have CK := Lib.hid (fun W h => drop_9 ks vs A1 c1 A2 c2 kk (by omega) hok W h)
          have HLK := Lib.hid hlk
          have f0' := HS.out.f0; have f1' := HS.out.f1; have f2' := HS.out.f2; have f3' := HS.out.f3; have fz' := HS.out.fz
          clear hr hok hodd hlk HS
          go_wp2
          go_region_with (go_at_call 12; refine (CK.out _ HS1.out.rn).mono ?_; rintro e u1 ⟨ks2, vs2, A3, c3, A4, c4, ol, hd, rfl, ok2, hl2, hb2, oy, hn⟩; have HU2 := Lib.hid (HS1.out.next hn); have SZ := Lib.hid (World.block_lt_of_cell? _ _ HS1.out.f0); have HM0 := Lib.hid (HU2.out.stored oy SZ.out); have g0 := HU2.out.f0; have g1 := HU2.out.f1; have g2 := HU2.out.f2; have g3 := HU2.out.f3; have gz := HU2.out.fz; have OK2 := Lib.hid ok2; have HL2 := Lib.hid hl2; have HB2 := Lib.hid hb2; clear hn oy ok2 hl2 hb2)
          all_goals (
            obtain ⟨um, hum⟩ : ∃ z : World, z = ((((u1.setCell ⟨g, 0, none⟩ (.bool false)).setCell ⟨g, 1, none⟩ (.slice A3 ks2.length c3)).setCell ⟨g, 2, none⟩ (.slice A4 vs2.length c4)).setCell ⟨g, 3, none⟩ (.int .u64 9)) := ⟨_, rfl⟩
            have HM := HM0.out
            rw [← hum] at HM ⊢
            clear hum HM0 g0 g1 g2 g3 gz f0' f1' f2' f3' fz' q0 q1
            have HM1 := Lib.hid HM.drew
            have hl3 : ks2.length ≤ 400 := by have := HL2.out; have := HLK.out; omega
            have FD0 := fun W h => find_9 ks2 vs2 A3 c3 A4 c4 kk hl3 OK2.out W h
            rw [HB2.out] at FD0
            have FD := Lib.hid FD0
            have RR := Lib.hid (fun W h => rright_9 ks2 vs2 A3 c3 A4 c4 hl3 OK2.out W h)
            generalize cnt ks2 kk = n0 at FD FD0
            have REL := Lib.hid (And.intro OK2.out (show ks2.length ≤ j + 1 by have := HL2.out; have := HLK.out; omega))
            clear HM FD0 OK2 HL2 HB2 
            go_wp2
            refine wp_region_class (C := KQ w g ks2 vs2 A3 c3 A4 c4 b0 (off0 + j * 2) kk vv) (by kernel_rfl) (by kernel_rfl) (HM1.out) ?_
            repeat (first
              | go_big_quiet_skip
              | (go_big_quiet_want; go_big_quiet_op; go_big_quiet_on)
              | (go_big_quiet_want; go_big_quiet_op; refine ⟨_, fun _ _ => rfl, ?_⟩; go_big_quiet_on)
              | (go_big_quiet_want
                 apply quiet_mk
                 · intro u hu
                   have f0 := hu.f0; have f1 := hu.f1; have f2 := hu.f2; have f3 := hu.f3; have k0 := hu.k0
                   have HU := Lib.hid hu
                   clear hu
                   go_simp
                   first
                     | with_reducible rfl
                     | (go_at_call 10; refine (FD.out _ HU.out.rn).mono ?_; rintro e w' ⟨rfl, hn⟩; exact ⟨rfl, HU.out.next hn⟩)
                 simp only [Act.put, List.setIfInBounds_toArray, List.set_cons_zero, List.set_cons_succ]
                 go_big_quiet_on))
            refine wpQuiet_nil ?_
            intro u hu
            have HV1 := Lib.hid hu.drew
            clear hu HM1
            have HV2 := HV1
            go_wp2
            refine wp_region_class (C := KQ w g ks2 vs2 A3 c3 A4 c4 b0 (off0 + j * 2) kk vv) (by kernel_rfl) (by kernel_rfl) (HV2.out) ?_
            repeat (first
              | go_big_quiet_skip
              | (go_big_quiet_want; go_big_quiet_op; go_big_quiet_on)
              | (go_big_quiet_want; go_big_quiet_op; refine ⟨_, fun _ _ => rfl, ?_⟩; go_big_quiet_on)
              | (go_big_quiet_want
                 apply quiet_mk
                 · intro u hu
                   have f0 := hu.f0; have f1 := hu.f1; have f2 := hu.f2; have f3 := hu.f3; have k1 := hu.k1
                   have HU := Lib.hid hu
                   clear hu
                   go_simp
                   first
                     | with_reducible rfl
                     | (go_at_call 13; refine (RR.out _ HU.out.rn).mono ?_; rintro e w' ⟨rfl, hn⟩; exact ⟨rfl, HU.out.next hn⟩)
                 simp only [Act.put, List.setIfInBounds_toArray, List.set_cons_zero, List.set_cons_succ]
                 go_big_quiet_on))
            refine wpQuiet_nil ?_
            intro u hu
            have HW := Lib.hid hu.kn
            clear hu HV2
            go_wp2
            go_roundg (len0 - (j + 1))
            case rel => exact ⟨j + 1, ks2, vs2, A3, c3, _, c4, by omega, rfl, by go_num, REL.out.1, REL.out.2, HW.out⟩
            case measure => omega)
        · have hE : ((vv : Int) % 2 == 1) = false := by simp; omega
          have hZ : ((vv : Int) % 2 == 0) = true := by simp; omega
          have hT : (vv : Int).tmod 2 = (vv : Int) % 2 := Int.tmod_eq_emod_of_nonneg (by omega)
          have CK := Lib.hid (fun W h => put_9 ks vs A1 c1 A2 c2 kk vv (by omega) hok W h)
          have HLK := Lib.hid hlk
          have f0' := HS.out.f0; have f1' := HS.out.f1; have f2' := HS.out.f2; have f3' := HS.out.f3; have fz' := HS.out.fz
          clear hr hok hodd hlk HS
          go_wp2
          go_region_with (go_at_call 11; refine (CK.out _ HS1.out.rn).mono ?_; rintro e u1 ⟨ks2, vs2, A3, c3, kb, ko, c4, ol, n0, hd, rfl, ok2, hl2, hb2, hc2, hn2, hv2, oy, hn⟩; have HU2 := Lib.hid (HS1.out.next hn); have SZ := Lib.hid (World.block_lt_of_cell? _ _ HS1.out.f0); have HM0 := Lib.hid (HU2.out.stored oy SZ.out); have g0 := HU2.out.f0; have g1 := HU2.out.f1; have g2 := HU2.out.f2; have g3 := HU2.out.f3; have gz := HU2.out.fz; have OK2 := Lib.hid ok2; have HL2 := Lib.hid hl2; have HB2 := Lib.hid hb2; have HC2 := Lib.hid hc2; have HN2 := Lib.hid hn2; have HV2 := Lib.hid hv2; clear hc2 hn2 hv2; clear hn oy ok2 hl2 hb2)
          all_goals (
            obtain ⟨um, hum⟩ : ∃ z : World, z = ((((u1.setCell ⟨g, 0, none⟩ (.bool false)).setCell ⟨g, 1, none⟩ (.slice A3 ks2.length c3)).setCell ⟨g, 2, none⟩ (.slice (some ⟨kb, ko, none⟩) vs2.length c4)).setCell ⟨g, 3, none⟩ (.int .u64 9)) := ⟨_, rfl⟩
            have HM := HM0.out
            rw [← hum] at HM ⊢
            clear hum HM0 g0 g1 g2 g3 gz f0' f1' f2' f3' fz' q0 q1
            have HM1 := Lib.hid HM.drew
            have hl3 : ks2.length ≤ 400 := by have := HL2.out; have := HLK.out; omega
            have FD0 := fun W h => find_9 ks2 vs2 A3 c3 (some ⟨kb, ko, none⟩) c4 kk hl3 OK2.out W h
            rw [HB2.out, HC2.out] at FD0
            have FD := Lib.hid FD0
            have RR := Lib.hid (fun W h => rright_9 ks2 vs2 A3 c3 (some ⟨kb, ko, none⟩) c4 hl3 OK2.out W h)
            have REL := Lib.hid (And.intro OK2.out (show ks2.length ≤ j + 1 by have := HL2.out; have := HLK.out; omega))
            have CT := Lib.hid (fun (W : World) (h : NR W (n9 ks2 vs2 A3 c3 (some ⟨kb, ko, none⟩) c4)) => show W.cell? ⟨kb, ko + n0, none⟩ = some (.int .u64 (vv : Nat)) by have := cell_two h n0 HN2.out; rw [HV2.out] at this; exact this)
            have hi1 : (n0 : Int) < (vs2.length : Int) := by have := HN2.out; omega
            have hi0 : (0 : Int) ≤ (n0 : Int) := by omega
            have hmx : vs2.length ≤ maxLen := by have := OK2.out.1; unfold maxLen; omega
            clear HM FD0 OK2 HL2 HB2 HC2 HN2 HV2
            go_wp2
            refine wp_region_class (C := KQ w g ks2 vs2 A3 c3 (some ⟨kb, ko, none⟩) c4 b0 (off0 + j * 2) kk vv) (by kernel_rfl) (by kernel_rfl) (HM1.out) ?_
            repeat (first
              | go_big_quiet_skip
              | (go_big_quiet_want; go_big_quiet_op; go_big_quiet_on)
              | (go_big_quiet_want; go_big_quiet_op; refine ⟨_, fun _ _ => rfl, ?_⟩; go_big_quiet_on)
              | (go_big_quiet_want
                 apply quiet_mk
                 · intro u hu
                   have f0 := hu.f0; have f1 := hu.f1; have f2 := hu.f2; have f3 := hu.f3; have k0 := hu.k0
                   have HU := Lib.hid hu
                   clear hu
                   go_simp
                   first
                     | with_reducible rfl
                     | (go_at_call 10; refine (FD.out _ HU.out.rn).mono ?_; rintro e w' ⟨rfl, hn⟩; exact ⟨rfl, HU.out.next hn⟩)
                 simp only [Act.put, List.setIfInBounds_toArray, List.set_cons_zero, List.set_cons_succ]
                 go_big_quiet_on))
            refine wpQuiet_nil ?_
            intro u hu
            have HV1 := Lib.hid hu.drew
            clear hu HM1
            have HV2 := Lib.hid (show KV w g ks2 vs2 A3 c3 kb ko c4 b0 (off0 + j * 2) kk vv n0 _ from ⟨HV1.out, CT.out _ HV1.out.rn⟩)
            go_wp2
            refine wp_region_class (C := KV w g ks2 vs2 A3 c3 kb ko c4 b0 (off0 + j * 2) kk vv n0) (by kernel_rfl) (by kernel_rfl) (HV2.out) ?_
            repeat (first
              | go_big_quiet_skip
              | (go_big_quiet_want; go_big_quiet_op; go_big_quiet_on)
              | (go_big_quiet_want; go_big_quiet_op; refine ⟨_, fun _ _ => rfl, ?_⟩; go_big_quiet_on)
              | (go_big_quiet_want
                 apply quiet_mk
                 · intro u hu
                   have f0 := hu.f0; have f1 := hu.f1; have f2 := hu.f2; have f3 := hu.f3; have k1 := hu.k1; have kv := hu.kv
                   have HU := Lib.hid hu
                   clear hu
                   go_simp
                   first
                     | with_reducible rfl
                     | (go_at_call 13; refine (RR.out _ HU.out.rn).mono ?_; rintro e w' ⟨rfl, hn⟩; exact ⟨rfl, HU.out.next hn⟩)
                 simp only [Act.put, List.setIfInBounds_toArray, List.set_cons_zero, List.set_cons_succ]
                 go_big_quiet_on))
            refine wpQuiet_nil ?_
            intro u hu
            have HW := Lib.hid hu.kn
            clear hu HV2
            go_wp2
            go_roundg (len0 - (j + 1))
            case rel => exact ⟨j + 1, ks2, vs2, A3, c3, _, c4, by omega, rfl, by go_num, REL.out.1, REL.out.2, HW.out⟩
            case measure => omega)
      · obtain rfl : j = len0 := by omega
        have HR := Lib.hid hr
        clear hr hok
        go_wp2_with (go_at_call 9; refine (AW.out _).mono ?_; rintro e wn ⟨rfl, hn⟩)
        go_ret
        exact ⟨rfl, (HR.out.next hn).bl⟩
  · have hln : 60 < len0 := by omega
    have HN := Lib.hid (show 60 ≤ rs0.length by omega)
    clear hl0
    have OF := Lib.hid of_9
    have AW := Lib.hid awake12_any
    go_enter Try.func6, Try.ntmps6
    go_wp2_with (go_at_call 25; refine (OF.out _).mono ?_; rintro e w1 ⟨A1, c1, A2, c2, rfl, hr, hn⟩; have K1 := Lib.hid (KN.start w w1 hn hr); clear hr hn; generalize hg : w1.heap.size = g at K1 ⊢)
    go_loopg [4] 60 (fun gk i wr => ∃ (j : Nat) (ks vs : List Nat) (A1 : Option Addr) (c1 : Nat) (A2 : Option Addr) (c2 : Nat), j ≤ 60 ∧ gk = 60 - j ∧ i = .int .i64 j ∧ okL ks vs ∧ ks.length ≤ j ∧ KN w g ks vs A1 c1 A2 c2 wr)
    case atStart => exact ⟨0, [], [], A1, c1, A2, c2, by omega, by omega, rfl, ⟨rfl, by simp [ris]⟩, by simp, K1.out⟩
    case round =>
      clear K1
      obtain ⟨j, ks, vs, A1, c1, A2, c2, hj, hgk, rfl, hok, hlk, hr⟩ := hrel
      by_cases hlt : j < 60
      · have hjl : j < rs0.length := by have := HN.out; omega
        obtain rfl := H1.out.a (by omega)
        have hbl := H1.out.lt (by omega)
        have q0 := (H1.out.next hr.bl).c0 j hjl
        have q1 := (H1.out.next hr.bl).c1 j hjl
        have hli : (j : Int) < 60 := by omega
        generalize rs0.getD j (0, 0) = r at q0 q1
        obtain ⟨kk, vv⟩ := r
        simp only at q0 q1
        have HS := Lib.hid (hr.kq hbl q0 q1)
        have HS1 := Lib.hid (HS.out.drew)
        clear H1 hjl hbl
        by_cases hodd : vv % 2 = 1
        · have hE : ((vv : Int) % 2 == 1) = true := by simp; omega
          have hZ : ((vv : Int) % 2 == 0) = false := by simp; omega
          have hT : (vv : Int).tmod 2 = (vv : Int) % 2 := Int.tmod_eq_emod_of_nonneg (by omega)
          have CK := Lib.hid (fun W h => drop_9 ks vs A1 c1 A2 c2 kk (by omega) hok W h)
          have HLK := Lib.hid hlk
          have f0' := HS.out.f0; have f1' := HS.out.f1; have f2' := HS.out.f2; have f3' := HS.out.f3; have fz' := HS.out.fz
          clear hr hok hodd hlk HS
          go_wp2
          go_region_with (go_at_call 12; refine (CK.out _ HS1.out.rn).mono ?_; rintro e u1 ⟨ks2, vs2, A3, c3, A4, c4, ol, hd, rfl, ok2, hl2, hb2, oy, hn⟩; have HU2 := Lib.hid (HS1.out.next hn); have SZ := Lib.hid (World.block_lt_of_cell? _ _ HS1.out.f0); have HM0 := Lib.hid (HU2.out.stored oy SZ.out); have g0 := HU2.out.f0; have g1 := HU2.out.f1; have g2 := HU2.out.f2; have g3 := HU2.out.f3; have gz := HU2.out.fz; have OK2 := Lib.hid ok2; have HL2 := Lib.hid hl2; have HB2 := Lib.hid hb2; clear hn oy ok2 hl2 hb2)
          all_goals (
            obtain ⟨um, hum⟩ : ∃ z : World, z = ((((u1.setCell ⟨g, 0, none⟩ (.bool false)).setCell ⟨g, 1, none⟩ (.slice A3 ks2.length c3)).setCell ⟨g, 2, none⟩ (.slice A4 vs2.length c4)).setCell ⟨g, 3, none⟩ (.int .u64 9)) := ⟨_, rfl⟩
            have HM := HM0.out
            rw [← hum] at HM ⊢
            clear hum HM0 g0 g1 g2 g3 gz f0' f1' f2' f3' fz' q0 q1
            have HM1 := Lib.hid HM.drew
            have hl3 : ks2.length ≤ 400 := by have := HL2.out; have := HLK.out; omega
            have FD0 := fun W h => find_9 ks2 vs2 A3 c3 A4 c4 kk hl3 OK2.out W h
            rw [HB2.out] at FD0
            have FD := Lib.hid FD0
            have RR := Lib.hid (fun W h => rright_9 ks2 vs2 A3 c3 A4 c4 hl3 OK2.out W h)
            generalize cnt ks2 kk = n0 at FD FD0
            have REL := Lib.hid (And.intro OK2.out (show ks2.length ≤ j + 1 by have := HL2.out; have := HLK.out; omega))
            clear HM FD0 OK2 HL2 HB2 
            go_wp2
            refine wp_region_class (C := KQ w g ks2 vs2 A3 c3 A4 c4 b0 (off0 + j * 2) kk vv) (by kernel_rfl) (by kernel_rfl) (HM1.out) ?_
            repeat (first
              | go_big_quiet_skip
              | (go_big_quiet_want; go_big_quiet_op; go_big_quiet_on)
              | (go_big_quiet_want; go_big_quiet_op; refine ⟨_, fun _ _ => rfl, ?_⟩; go_big_quiet_on)
              | (go_big_quiet_want
                 apply quiet_mk
                 · intro u hu
                   have f0 := hu.f0; have f1 := hu.f1; have f2 := hu.f2; have f3 := hu.f3; have k0 := hu.k0
                   have HU := Lib.hid hu
                   clear hu
                   go_simp
                   first
                     | with_reducible rfl
                     | (go_at_call 10; refine (FD.out _ HU.out.rn).mono ?_; rintro e w' ⟨rfl, hn⟩; exact ⟨rfl, HU.out.next hn⟩)
                 simp only [Act.put, List.setIfInBounds_toArray, List.set_cons_zero, List.set_cons_succ]
                 go_big_quiet_on))
            refine wpQuiet_nil ?_
            intro u hu
            have HV1 := Lib.hid hu.drew
            clear hu HM1
            have HV2 := HV1
            go_wp2
            refine wp_region_class (C := KQ w g ks2 vs2 A3 c3 A4 c4 b0 (off0 + j * 2) kk vv) (by kernel_rfl) (by kernel_rfl) (HV2.out) ?_
            repeat (first
              | go_big_quiet_skip
              | (go_big_quiet_want; go_big_quiet_op; go_big_quiet_on)
              | (go_big_quiet_want; go_big_quiet_op; refine ⟨_, fun _ _ => rfl, ?_⟩; go_big_quiet_on)
              | (go_big_quiet_want
                 apply quiet_mk
                 · intro u hu
                   have f0 := hu.f0; have f1 := hu.f1; have f2 := hu.f2; have f3 := hu.f3; have k1 := hu.k1
                   have HU := Lib.hid hu
                   clear hu
                   go_simp
                   first
                     | with_reducible rfl
                     | (go_at_call 13; refine (RR.out _ HU.out.rn).mono ?_; rintro e w' ⟨rfl, hn⟩; exact ⟨rfl, HU.out.next hn⟩)
                 simp only [Act.put, List.setIfInBounds_toArray, List.set_cons_zero, List.set_cons_succ]
                 go_big_quiet_on))
            refine wpQuiet_nil ?_
            intro u hu
            have HW := Lib.hid hu.kn
            clear hu HV2
            go_wp2
            go_roundg (60 - (j + 1))
            case rel => exact ⟨j + 1, ks2, vs2, A3, c3, _, c4, by omega, rfl, by go_num, REL.out.1, REL.out.2, HW.out⟩
            case measure => omega)
        · have hE : ((vv : Int) % 2 == 1) = false := by simp; omega
          have hZ : ((vv : Int) % 2 == 0) = true := by simp; omega
          have hT : (vv : Int).tmod 2 = (vv : Int) % 2 := Int.tmod_eq_emod_of_nonneg (by omega)
          have CK := Lib.hid (fun W h => put_9 ks vs A1 c1 A2 c2 kk vv (by omega) hok W h)
          have HLK := Lib.hid hlk
          have f0' := HS.out.f0; have f1' := HS.out.f1; have f2' := HS.out.f2; have f3' := HS.out.f3; have fz' := HS.out.fz
          clear hr hok hodd hlk HS
          go_wp2
          go_region_with (go_at_call 11; refine (CK.out _ HS1.out.rn).mono ?_; rintro e u1 ⟨ks2, vs2, A3, c3, kb, ko, c4, ol, n0, hd, rfl, ok2, hl2, hb2, hc2, hn2, hv2, oy, hn⟩; have HU2 := Lib.hid (HS1.out.next hn); have SZ := Lib.hid (World.block_lt_of_cell? _ _ HS1.out.f0); have HM0 := Lib.hid (HU2.out.stored oy SZ.out); have g0 := HU2.out.f0; have g1 := HU2.out.f1; have g2 := HU2.out.f2; have g3 := HU2.out.f3; have gz := HU2.out.fz; have OK2 := Lib.hid ok2; have HL2 := Lib.hid hl2; have HB2 := Lib.hid hb2; have HC2 := Lib.hid hc2; have HN2 := Lib.hid hn2; have HV2 := Lib.hid hv2; clear hc2 hn2 hv2; clear hn oy ok2 hl2 hb2)
          all_goals (
            obtain ⟨um, hum⟩ : ∃ z : World, z = ((((u1.setCell ⟨g, 0, none⟩ (.bool false)).setCell ⟨g, 1, none⟩ (.slice A3 ks2.length c3)).setCell ⟨g, 2, none⟩ (.slice (some ⟨kb, ko, none⟩) vs2.length c4)).setCell ⟨g, 3, none⟩ (.int .u64 9)) := ⟨_, rfl⟩
            have HM := HM0.out
            rw [← hum] at HM ⊢
            clear hum HM0 g0 g1 g2 g3 gz f0' f1' f2' f3' fz' q0 q1
            have HM1 := Lib.hid HM.drew
            have hl3 : ks2.length ≤ 400 := by have := HL2.out; have := HLK.out; omega
            have FD0 := fun W h => find_9 ks2 vs2 A3 c3 (some ⟨kb, ko, none⟩) c4 kk hl3 OK2.out W h
            rw [HB2.out, HC2.out] at FD0
            have FD := Lib.hid FD0
            have RR := Lib.hid (fun W h => rright_9 ks2 vs2 A3 c3 (some ⟨kb, ko, none⟩) c4 hl3 OK2.out W h)
            have REL := Lib.hid (And.intro OK2.out (show ks2.length ≤ j + 1 by have := HL2.out; have := HLK.out; omega))
            have CT := Lib.hid (fun (W : World) (h : NR W (n9 ks2 vs2 A3 c3 (some ⟨kb, ko, none⟩) c4)) => show W.cell? ⟨kb, ko + n0, none⟩ = some (.int .u64 (vv : Nat)) by have := cell_two h n0 HN2.out; rw [HV2.out] at this; exact this)
            have hi1 : (n0 : Int) < (vs2.length : Int) := by have := HN2.out; omega
            have hi0 : (0 : Int) ≤ (n0 : Int) := by omega
            have hmx : vs2.length ≤ maxLen := by have := OK2.out.1; unfold maxLen; omega
            clear HM FD0 OK2 HL2 HB2 HC2 HN2 HV2
            go_wp2
            refine wp_region_class (C := KQ w g ks2 vs2 A3 c3 (some ⟨kb, ko, none⟩) c4 b0 (off0 + j * 2) kk vv) (by kernel_rfl) (by kernel_rfl) (HM1.out) ?_
            repeat (first
              | go_big_quiet_skip
              | (go_big_quiet_want; go_big_quiet_op; go_big_quiet_on)
              | (go_big_quiet_want; go_big_quiet_op; refine ⟨_, fun _ _ => rfl, ?_⟩; go_big_quiet_on)
              | (go_big_quiet_want
                 apply quiet_mk
                 · intro u hu
                   have f0 := hu.f0; have f1 := hu.f1; have f2 := hu.f2; have f3 := hu.f3; have k0 := hu.k0
                   have HU := Lib.hid hu
                   clear hu
                   go_simp
                   first
                     | with_reducible rfl
                     | (go_at_call 10; refine (FD.out _ HU.out.rn).mono ?_; rintro e w' ⟨rfl, hn⟩; exact ⟨rfl, HU.out.next hn⟩)
                 simp only [Act.put, List.setIfInBounds_toArray, List.set_cons_zero, List.set_cons_succ]
                 go_big_quiet_on))
            refine wpQuiet_nil ?_
            intro u hu
            have HV1 := Lib.hid hu.drew
            clear hu HM1
            have HV2 := Lib.hid (show KV w g ks2 vs2 A3 c3 kb ko c4 b0 (off0 + j * 2) kk vv n0 _ from ⟨HV1.out, CT.out _ HV1.out.rn⟩)
            go_wp2
            refine wp_region_class (C := KV w g ks2 vs2 A3 c3 kb ko c4 b0 (off0 + j * 2) kk vv n0) (by kernel_rfl) (by kernel_rfl) (HV2.out) ?_
            repeat (first
              | go_big_quiet_skip
              | (go_big_quiet_want; go_big_quiet_op; go_big_quiet_on)
              | (go_big_quiet_want; go_big_quiet_op; refine ⟨_, fun _ _ => rfl, ?_⟩; go_big_quiet_on)
              | (go_big_quiet_want
                 apply quiet_mk
                 · intro u hu
                   have f0 := hu.f0; have f1 := hu.f1; have f2 := hu.f2; have f3 := hu.f3; have k1 := hu.k1; have kv := hu.kv
                   have HU := Lib.hid hu
                   clear hu
                   go_simp
                   first
                     | with_reducible rfl
                     | (go_at_call 13; refine (RR.out _ HU.out.rn).mono ?_; rintro e w' ⟨rfl, hn⟩; exact ⟨rfl, HU.out.next hn⟩)
                 simp only [Act.put, List.setIfInBounds_toArray, List.set_cons_zero, List.set_cons_succ]
                 go_big_quiet_on))
            refine wpQuiet_nil ?_
            intro u hu
            have HW := Lib.hid hu.kn
            clear hu HV2
            go_wp2
            go_roundg (60 - (j + 1))
            case rel => exact ⟨j + 1, ks2, vs2, A3, c3, _, c4, by omega, rfl, by go_num, REL.out.1, REL.out.2, HW.out⟩
            case measure => omega)
      · obtain rfl : j = 60 := by omega
        have HR := Lib.hid hr
        clear hr hok
        go_wp2_with (go_at_call 9; refine (AW.out _).mono ?_; rintro e wn ⟨rfl, hn⟩)
        go_ret
        exact ⟨rfl, (HR.out.next hn).bl⟩

set_option maxRecDepth 100000 in
theorem lifted (os : Os) (started : os.Started) (H : Type) (enc : TypeId × Value → H) :
    ReturnsInHanded {} Try.checked os 6 .any (Rows.leafKeepsSpec.pre6 enc Try.prog Try.f6 Rows.leafKeepsRow.domain false) (Rows.leafKeepsSpec.post enc Try.prog Try.f6 false true false false) := by
  refine returnsInHanded_of_change (C := Try.checked) own started (by kernel_rfl) Try.func6
    (ChangeSpec.witness6 (enc := enc) (C := Try.checked) false ⟨#[], #[.slice none 0 0], []⟩ 8 (by kernel_rfl) (by kernel_rfl) (by kernel_rfl) (by kernel_rfl)) ?_
  intro W base args ds gs before hval0 hW hcnd _
  have hval : ∀ (j : Nat) t v, Try.f6.params[j]? = some t → args[j]? = some v → Value.okWide Try.prog W .any base t v := hval0
  have hW' := hW
  obtain ⟨p, q, hA0, hV, rfl, hfz, hnd⟩ := hW
  have hA : DataW.TrodAll enc Try.prog W 0 (fun _ => true) true Try.f6.params.toList args.toList ds p := hA0
  rw [Try.params6] at hA hval
  obtain ⟨v0, vs0, d0, ds0, p0, q0, hargs, rfl, rfl, h0, r0⟩ := trodAll_cons hA
  obtain ⟨rfl, rfl, rfl⟩ := trodAll_nil r0
  obtain rfl : args = #[v0] := by cases args; simp_all
  obtain ⟨rfl, rfl⟩ := trodVars_none hV
  obtain ⟨A0, len0, cap0, rfl⟩ := okWide_slice Try.underlying43 (hval 0 43 v0 rfl rfl)
  have k0 := h0
  obtain ⟨b0, off0, rs0, hl0, hm0, hR0, hb0⟩ := open_pairs Try.underlying43 Try.underlying46 (by kernel_rfl) rfl rfl (by kernel_rfl) (by kernel_rfl) Try.underlying23 Try.underlying23 h0
  clear hA0 hval0
  simp only [List.append_nil] at hW'
  have hlt0 : ∀ x ∈ p0, x.block < W.heap.size := fun x hx => by simpa using hW'.lt x (by simp [hx])
  refine (walk W A0 len0 cap0 b0 off0 rs0 hl0 hm0 hR0 hb0).mono fun e W' ⟨he, hg⟩ => ?_
  subst he
  exact ⟨_, rfl, post_of_below2 (pv := []) hW' (fun _ _ _ => (trodAll_cons_mk (shut_bool Try.underlying4 _) trodAll_mk0)) (trodAll_cons_mk (Below.trod laidOut (by kernel_rfl) (of_decide_eq_true (by kernel_rfl)) k0 hg hlt0) trodAll_mk0) rfl (by simp) (hg.frame _)⟩

theorem over : Rows.leafKeepsRow.holds Try.pinned (OpenSpec.ofChange Rows.leafKeepsSpec) :=
  OpenClaim.holds_of_wide 6 Try.f6 rfl rfl rfl rfl rfl rfl rfl ⟨rfl, rfl, rfl, rfl, rfl⟩ rfl rfl rfl rfl rfl (by kernel_rfl) Try.func6 (by kernel_rfl)
    (of_decide_eq_true (by kernel_rfl)) (by unfold Func.isWrapper; first | (rw [if_pos (by decide +kernel)]; kernel_rfl) | (rw [if_neg (by decide +kernel)]; exact ⟨rfl, rfl⟩))
    (fun os started H enc _ => lifted os started H enc)

theorem proved : Rows.LeafKeepsSaid :=
  over

#print axioms proved
end Go.Proofs.Ytahpdifneajblaa.leafKeeps
