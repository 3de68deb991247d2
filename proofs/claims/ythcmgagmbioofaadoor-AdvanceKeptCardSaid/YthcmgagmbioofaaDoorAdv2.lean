/- advance.Advance: Took, Done, Epoch, Want, New. -/
import Derived.Test.YthcmgagmbioofaaDoorAdv
namespace Go.Proofs.YthcmgagmbioofaaDoor
set_option linter.unusedVariables false
open Go.RowKit Go.Extern.Stop Go.Stop Go.Extern
set_option maxHeartbeats 400000 in
theorem ann_kept (s t f l p th st oc ot wd ev ju : Int) (ep n : Nat) (hep : ep < 18446744073709551616) (hn : n < 18446744073709551616) (hb : awBlocks n ep = true) (W : World) :
    Calls Tryd.prog 36 #[(adV ⟨s, t, f, l, p, th, st, oc, (ep : Nat), ot, wd, ev, ju⟩), .int .u64 n] W fun e w' => e = .returned (adV ⟨s, t, f, l, p, th, 3, oc, (ep : Nat), ot, (n : Nat), ev, ju⟩) ∧ Below W.heap.size W w' := by
  have hB := Lib.hid (below2 W)
  have S := Lib.hid (ablocks_any n ep hn hep)
  rw [hb] at S
  clear hb
  go_enter Tryd.func36, Tryd.ntmps36
  go_wp2_with (go_at_call 58; refine (S.out _).mono ?_; rintro e w0 ⟨rfl, m, rfl⟩)
  exact bodyPost_ret (v := adV ⟨s, t, f, l, p, th, 3, oc, (ep : Nat), ot, (n : Nat), ev, ju⟩) (by simp [results, Tryd.results36, go_sem]) rfl ⟨rfl, (by repeat (first | (with_reducible refine Below.setCell ?_ (by first | omega | (simp; omega) | simp) _) | (with_reducible refine below_drewN7 ?_ _) | exact hB.out _ _ | exact HBL.out | exact Nat.le_refl _))⟩
set_option maxHeartbeats 400000 in
theorem ann_free (s t f l p th st oc ot wd ev ju : Int) (ep n : Nat) (hep : ep < 18446744073709551616) (hn : n < 18446744073709551616) (hb : awBlocks n ep = false) (h0 : 0 ≤ ot) (h1 : ot < 64) (W : World) :
    Calls Tryd.prog 36 #[(adV ⟨s, t, f, l, p, th, st, oc, (ep : Nat), ot, wd, ev, ju⟩), .int .u64 n] W fun e w' => e = .returned (adV (Ad.turn ⟨s, t, f, l, p, th, st, oc, (ep : Nat), ot, wd, ev, ju⟩ (ot + 1))) ∧ Below W.heap.size W w' := by
  have HK := Lib.hid (KA.start W ⟨s, t, f, l, p, th, st, oc, (ep : Nat), ot, wd, ev, ju⟩)
  have S := Lib.hid (ablocks_any n ep hn hep)
  rw [hb] at S
  have T := Lib.hid (fun W => turn_any ⟨s, t, f, l, p, th, st, oc, (ep : Nat), ot, wd, ev, ju⟩ (ot + 1) (by omega) (by omega) W)
  generalize Ad.turn ⟨s, t, f, l, p, th, st, oc, (ep : Nat), ot, wd, ev, ju⟩ (ot + 1) = y at T ⊢
  have hwr : wrap64 (ot + 1) = ot + 1 := IntWalk.wrap64_in _ ⟨by omega, by omega⟩
  clear hb
  go_enter Tryd.func36, Tryd.ntmps36
  go_wp2_with (first | (go_at_call 58; refine (S.out _).mono ?_; rintro e w0 ⟨rfl, m, rfl⟩) | (go_at_call 35; refine (T.out _).mono ?_; rintro e w1 ⟨rfl, hn⟩; have h1 := HK.out.drewN m |>.next hn; clear hn; have e0 := h1.e0; have e1 := h1.e1; have e2 := h1.e2; have e3 := h1.e3; have e4 := h1.e4; have e5 := h1.e5; have e6 := h1.e6; have e7 := h1.e7; have e8 := h1.e8; have e9 := h1.e9; have e10 := h1.e10; have e11 := h1.e11; have e12 := h1.e12; have fz := h1.rc.fz; have gz := h1.ac.fz))
  exact bodyPost_ret (v := adV y) (by simp [results, Tryd.results36, go_sem, e0, e1, e2, e3, e4, e5, e6, e7, e8, e9, e10, e11, e12]) rfl ⟨rfl, belowA (h1.bl) h1.le y⟩
set_option maxHeartbeats 800000 in
theorem clk_yes (s t f l p th st oc ep ot ev ju : Int) (wd n : Nat) (hwd : wd < 18446744073709551616) (hn : n < 18446744073709551616) (hp : p ≤ 9223372036854775807) (hb : awStalled wd n p = true) (W : World) :
    Calls Tryd.prog 38 #[(adV ⟨s, t, f, l, p, th, st, oc, ep, ot, (wd : Nat), ev, ju⟩), .int .u64 n] W fun e w' => e = .returned (adV ⟨s, t, f, l, p, th, 4, oc, ep, ot, (wd : Nat), ev, ju⟩) ∧ Below W.heap.size W w' := by
  have HK := Lib.hid (KA.start W ⟨s, t, f, l, p, th, st, oc, ep, ot, (wd : Nat), ev, ju⟩)
  have S := Lib.hid (astalled_any wd n p hwd hn hp)
  have C := Lib.hid (config_any s t f l p)
  have hfd := cfgfield4 s t f l p
  rw [hb] at S
  clear hb
  go_enter Tryd.func38, Tryd.ntmps38
  go_wp2
  have HD := Lib.hid HK.out.drew
  clear HK
  refine wp_region_class (C := KA W.heap.size W W.heap.size ⟨s, t, f, l, p, th, st, oc, ep, ot, (wd : Nat), ev, ju⟩ (W.heap.size + 1)) (by kernel_rfl) (by kernel_rfl) (HD.out) ?_
  repeat (first
    | go_big_quiet_skip
    | (go_big_quiet_want; go_big_quiet_op; go_big_quiet_on)
    | (go_big_quiet_want; go_big_quiet_op; refine ⟨_, fun _ _ => rfl, ?_⟩; go_big_quiet_on)
    | (go_big_quiet_want
       apply quiet_mk
       · intro u hu
         have c0 := hu.c0; have c1 := hu.c1; have c2 := hu.c2; have c3 := hu.c3; have c4 := hu.c4; have c5 := hu.c5; have c6 := hu.c6; have c7 := hu.c7; have c8 := hu.c8; have c9 := hu.c9; have c10 := hu.c10; have c11 := hu.c11; have c12 := hu.c12
         have HU := Lib.hid hu
         clear hu
         go_simp
         first
           | with_reducible rfl
           | (go_at_call 57; refine (C.out _).mono ?_; rintro e w' ⟨rfl, hn⟩; exact ⟨rfl, HU.out.next hn⟩) | (go_at_call 59; refine (S.out _).mono ?_; rintro e w' ⟨rfl, m, rfl⟩; exact ⟨rfl, HU.out.drewN m⟩)
       simp only [Act.put, List.setIfInBounds_toArray, List.set_cons_zero, List.set_cons_succ]
       go_big_quiet_on))
  refine wpQuiet_nil ?_
  intro u hu
  have h1 := hu
  clear HD
  have c0 := h1.c0; have c1 := h1.c1; have c2 := h1.c2; have c3 := h1.c3; have c4 := h1.c4; have c5 := h1.c5; have c6 := h1.c6; have c7 := h1.c7; have c8 := h1.c8; have c9 := h1.c9; have c10 := h1.c10; have c11 := h1.c11; have c12 := h1.c12
  have e0 := h1.e0; have e1 := h1.e1; have e2 := h1.e2; have e3 := h1.e3; have e4 := h1.e4; have e5 := h1.e5; have e6 := h1.e6; have e7 := h1.e7; have e8 := h1.e8; have e9 := h1.e9; have e10 := h1.e10; have e11 := h1.e11; have e12 := h1.e12; have fz := h1.rc.fz; have gz := h1.ac.fz
  go_wp2
  exact bodyPost_ret (v := adV ⟨s, t, f, l, p, th, 4, oc, ep, ot, (wd : Nat), ev, ju⟩) (by simp [results, Tryd.results38, go_sem, e0, e1, e2, e3, e4, e5, e6, e7, e8, e9, e10, e11, e12]) rfl ⟨rfl, belowA (h1.bl.setCell h1.lg _) h1.le ⟨s, t, f, l, p, th, 4, oc, ep, ot, (wd : Nat), ev, ju⟩⟩
set_option maxHeartbeats 800000 in
theorem clk_no (s t f l p th st oc ep ot ev ju : Int) (wd n : Nat) (hwd : wd < 18446744073709551616) (hn : n < 18446744073709551616) (hp : p ≤ 9223372036854775807) (hb : awStalled wd n p = false) (W : World) :
    Calls Tryd.prog 38 #[(adV ⟨s, t, f, l, p, th, st, oc, ep, ot, (wd : Nat), ev, ju⟩), .int .u64 n] W fun e w' => e = .returned (adV ⟨s, t, f, l, p, th, 0, 1, ep, ot, (wd : Nat), ev, ju⟩) ∧ Below W.heap.size W w' := by
  have HK := Lib.hid (KA.start W ⟨s, t, f, l, p, th, st, oc, ep, ot, (wd : Nat), ev, ju⟩)
  have S := Lib.hid (astalled_any wd n p hwd hn hp)
  have C := Lib.hid (config_any s t f l p)
  have hfd := cfgfield4 s t f l p
  rw [hb] at S
  clear hb
  go_enter Tryd.func38, Tryd.ntmps38
  go_wp2
  have HD := Lib.hid HK.out.drew
  clear HK
  refine wp_region_class (C := KA W.heap.size W W.heap.size ⟨s, t, f, l, p, th, st, oc, ep, ot, (wd : Nat), ev, ju⟩ (W.heap.size + 1)) (by kernel_rfl) (by kernel_rfl) (HD.out) ?_
  repeat (first
    | go_big_quiet_skip
    | (go_big_quiet_want; go_big_quiet_op; go_big_quiet_on)
    | (go_big_quiet_want; go_big_quiet_op; refine ⟨_, fun _ _ => rfl, ?_⟩; go_big_quiet_on)
    | (go_big_quiet_want
       apply quiet_mk
       · intro u hu
         have c0 := hu.c0; have c1 := hu.c1; have c2 := hu.c2; have c3 := hu.c3; have c4 := hu.c4; have c5 := hu.c5; have c6 := hu.c6; have c7 := hu.c7; have c8 := hu.c8; have c9 := hu.c9; have c10 := hu.c10; have c11 := hu.c11; have c12 := hu.c12
         have HU := Lib.hid hu
         clear hu
         go_simp
         first
           | with_reducible rfl
           | (go_at_call 57; refine (C.out _).mono ?_; rintro e w' ⟨rfl, hn⟩; exact ⟨rfl, HU.out.next hn⟩) | (go_at_call 59; refine (S.out _).mono ?_; rintro e w' ⟨rfl, m, rfl⟩; exact ⟨rfl, HU.out.drewN m⟩)
       simp only [Act.put, List.setIfInBounds_toArray, List.set_cons_zero, List.set_cons_succ]
       go_big_quiet_on))
  refine wpQuiet_nil ?_
  intro u hu
  have h1 := hu
  clear HD
  have c0 := h1.c0; have c1 := h1.c1; have c2 := h1.c2; have c3 := h1.c3; have c4 := h1.c4; have c5 := h1.c5; have c6 := h1.c6; have c7 := h1.c7; have c8 := h1.c8; have c9 := h1.c9; have c10 := h1.c10; have c11 := h1.c11; have c12 := h1.c12
  have e0 := h1.e0; have e1 := h1.e1; have e2 := h1.e2; have e3 := h1.e3; have e4 := h1.e4; have e5 := h1.e5; have e6 := h1.e6; have e7 := h1.e7; have e8 := h1.e8; have e9 := h1.e9; have e10 := h1.e10; have e11 := h1.e11; have e12 := h1.e12; have fz := h1.rc.fz; have gz := h1.ac.fz
  go_wp2
  exact bodyPost_ret (v := adV ⟨s, t, f, l, p, th, 0, 1, ep, ot, (wd : Nat), ev, ju⟩) (by simp [results, Tryd.results38, go_sem, e0, e1, e2, e3, e4, e5, e6, e7, e8, e9, e10, e11, e12]) rfl ⟨rfl, belowA ((h1.bl.setCell h1.lg _).setCell h1.lg _) h1.le ⟨s, t, f, l, p, th, 0, 1, ep, ot, (wd : Nat), ev, ju⟩⟩
set_option maxHeartbeats 400000 in
theorem evi_miss (s t f l p th st oc ep ot wd ev ju : Int) (n : Nat) (hn : n < 18446744073709551616) (h : n ≠ 1) (W : World) :
    Calls Tryd.prog 37 #[(adV ⟨s, t, f, l, p, th, st, oc, ep, ot, wd, ev, ju⟩), .int .u64 n] W fun e w' => e = .returned (adV ⟨s, t, f, l, p, th, 2, oc, ep, ot, wd, ev, ju⟩) ∧ Below W.heap.size W w' := by
  have hB := Lib.hid (below2 W)
  have h1 : ((n : Int) != 1) = true := by simp; omega
  have h2 : ((n : Int) == 1) = false := by simp; omega
  clear h
  go_enter Tryd.func37, Tryd.ntmps37
  go_wp2
  exact bodyPost_ret (v := adV ⟨s, t, f, l, p, th, 2, oc, ep, ot, wd, ev, ju⟩) (by simp [results, Tryd.results37, go_sem]) rfl ⟨rfl, (by repeat (first | (with_reducible refine Below.setCell ?_ (by first | omega | (simp; omega) | simp) _) | (with_reducible refine below_drewN7 ?_ _) | exact hB.out _ _ | exact HBL.out | exact Nat.le_refl _))⟩
set_option maxHeartbeats 800000 in
theorem evi_hit (s t f l p th st oc ep wd ju : Int) (ot ev : Nat) (h1 : ot < 64) (hev : ev < 18446744073709551616) (W : World) :
    Calls Tryd.prog 37 #[(adV ⟨s, t, f, l, p, th, st, oc, ep, (ot : Nat), wd, (ev : Nat), ju⟩), .int .u64 1] W fun e w' => e = .returned (adV (Ad.turn ⟨s, t, f, l, p, th, st, oc, ep, (ot : Nat), wd, ((ev ||| 2 ^ ot : Nat) : Int), ((2 ^ ot : Nat) : Int)⟩ (ot + 1))) ∧ Below W.heap.size W w' := by
  have hp2 : (2 : Nat) ^ ot < 18446744073709551616 := by
    have : (2 : Nat) ^ ot < 2 ^ 64 := Nat.pow_lt_pow_right (by omega) h1
    omega
  have hpi : ((2 : Int) ^ ot) = ((2 ^ ot : Nat) : Int) := by norm_cast
  have hor : bits .or .u64 (ev : Int) ((2 ^ ot : Nat) : Int) = ((ev ||| 2 ^ ot : Nat) : Int) := by first | exact u64_or_nat hev hp2 | exact u64_or_nat _ _ hev hp2 | exact M.u64_or_nat _ _ hev hp2
  have hwr : wrap64 ((ot : Int) + 1) = ot + 1 := IntWalk.wrap64_in _ ⟨by omega, by omega⟩
  have hwq : ∀ q : Nat, q < 18446744073709551616 → IntKind.u64.wrap (q : Int) = q := fun q hq => IntWalk.u64_in _ ⟨Int.natCast_nonneg _, by omega⟩
  have hw2 : IntKind.u64.wrap ((2 : Int) ^ ot) = ((2 ^ ot : Nat) : Int) := by rw [hpi]; exact hwq _ hp2
  have hw3 : IntKind.u64.wrap ((2 ^ ot : Nat) : Int) = ((2 ^ ot : Nat) : Int) := hwq _ hp2
  clear hwq
  have HK := Lib.hid (KA.start W ⟨s, t, f, l, p, th, st, oc, ep, (ot : Nat), wd, ((ev ||| 2 ^ ot : Nat) : Int), ((2 ^ ot : Nat) : Int)⟩)
  have T := Lib.hid (fun W => turn_any ⟨s, t, f, l, p, th, st, oc, ep, (ot : Nat), wd, ((ev ||| 2 ^ ot : Nat) : Int), ((2 ^ ot : Nat) : Int)⟩ (ot + 1) (by omega) (by omega) W)
  generalize Ad.turn ⟨s, t, f, l, p, th, st, oc, ep, (ot : Nat), wd, ((ev ||| 2 ^ ot : Nat) : Int), ((2 ^ ot : Nat) : Int)⟩ (ot + 1) = y at T ⊢
  generalize (2 : Nat) ^ ot = q at hp2 hpi hor hw2 hw3 HK T
  generalize ev ||| q = r at hor HK T
  go_enter Tryd.func37, Tryd.ntmps37
  go_wp2_with (go_at_call 35; refine (T.out _).mono ?_; rintro e w1 ⟨rfl, hn⟩; have h1 := HK.out.next hn; clear hn; have e0 := h1.e0; have e1 := h1.e1; have e2 := h1.e2; have e3 := h1.e3; have e4 := h1.e4; have e5 := h1.e5; have e6 := h1.e6; have e7 := h1.e7; have e8 := h1.e8; have e9 := h1.e9; have e10 := h1.e10; have e11 := h1.e11; have e12 := h1.e12; have fz := h1.rc.fz; have gz := h1.ac.fz)
  exact bodyPost_ret (v := adV y) (by simp [results, Tryd.results37, go_sem, e0, e1, e2, e3, e4, e5, e6, e7, e8, e9, e10, e11, e12]) rfl ⟨rfl, belowA (h1.bl) h1.le y⟩
set_option maxHeartbeats 400000 in
theorem atook_1 (s t f l p th oc ep ot wd ev ju n : Int) (y : Ad) (hT : ∀ W : World, Calls Tryd.prog 35 #[(adV ⟨s, t, f, l, p, th, 1, oc, n, ot, wd, ev, 0⟩), .int .i64 0] W fun e w' => e = .returned (adV y) ∧ Below W.heap.size W w') (W : World) :
    Calls Tryd.prog 17 #[(adV ⟨s, t, f, l, p, th, 1, oc, ep, ot, wd, ev, ju⟩), .int .u64 n] W fun e w' => e = .returned (adV y) ∧ Below W.heap.size W w' := by
  have HK := Lib.hid (KA.start W ⟨s, t, f, l, p, th, 1, oc, n, ot, wd, ev, 0⟩)
  have T := Lib.hid hT
  clear hT
  go_enter Tryd.func17, Tryd.ntmps17
  go_wp2_with (go_at_call 35; refine (T.out _).mono ?_; rintro e w1 ⟨rfl, hn⟩; have h1 := HK.out.next hn; clear hn; have e0 := h1.e0; have e1 := h1.e1; have e2 := h1.e2; have e3 := h1.e3; have e4 := h1.e4; have e5 := h1.e5; have e6 := h1.e6; have e7 := h1.e7; have e8 := h1.e8; have e9 := h1.e9; have e10 := h1.e10; have e11 := h1.e11; have e12 := h1.e12; have fz := h1.rc.fz; have gz := h1.ac.fz)
  exact bodyPost_ret (v := adV y) (by simp [results, Tryd.results17, go_sem, e0, e1, e2, e3, e4, e5, e6, e7, e8, e9, e10, e11, e12]) rfl ⟨rfl, belowA (h1.bl) h1.le y⟩
set_option maxHeartbeats 400000 in
theorem atook_2 (s t f l p th oc ep ot wd ev ju n : Int) (y : Ad) (hT : ∀ W : World, Calls Tryd.prog 36 #[(adV ⟨s, t, f, l, p, th, 2, oc, ep, ot, wd, ev, 0⟩), .int .u64 n] W fun e w' => e = .returned (adV y) ∧ Below W.heap.size W w') (W : World) :
    Calls Tryd.prog 17 #[(adV ⟨s, t, f, l, p, th, 2, oc, ep, ot, wd, ev, ju⟩), .int .u64 n] W fun e w' => e = .returned (adV y) ∧ Below W.heap.size W w' := by
  have HK := Lib.hid (KA.start W ⟨s, t, f, l, p, th, 2, oc, ep, ot, wd, ev, 0⟩)
  have T := Lib.hid hT
  clear hT
  go_enter Tryd.func17, Tryd.ntmps17
  go_wp2_with (go_at_call 36; refine (T.out _).mono ?_; rintro e w1 ⟨rfl, hn⟩; have h1 := HK.out.next hn; clear hn; have e0 := h1.e0; have e1 := h1.e1; have e2 := h1.e2; have e3 := h1.e3; have e4 := h1.e4; have e5 := h1.e5; have e6 := h1.e6; have e7 := h1.e7; have e8 := h1.e8; have e9 := h1.e9; have e10 := h1.e10; have e11 := h1.e11; have e12 := h1.e12; have fz := h1.rc.fz; have gz := h1.ac.fz)
  exact bodyPost_ret (v := adV y) (by simp [results, Tryd.results17, go_sem, e0, e1, e2, e3, e4, e5, e6, e7, e8, e9, e10, e11, e12]) rfl ⟨rfl, belowA (h1.bl) h1.le y⟩
set_option maxHeartbeats 400000 in
theorem atook_3 (s t f l p th oc ep ot wd ev ju n : Int) (y : Ad) (hT : ∀ W : World, Calls Tryd.prog 38 #[(adV ⟨s, t, f, l, p, th, 3, oc, ep, ot, wd, ev, 0⟩), .int .u64 n] W fun e w' => e = .returned (adV y) ∧ Below W.heap.size W w') (W : World) :
    Calls Tryd.prog 17 #[(adV ⟨s, t, f, l, p, th, 3, oc, ep, ot, wd, ev, ju⟩), .int .u64 n] W fun e w' => e = .returned (adV y) ∧ Below W.heap.size W w' := by
  have HK := Lib.hid (KA.start W ⟨s, t, f, l, p, th, 3, oc, ep, ot, wd, ev, 0⟩)
  have T := Lib.hid hT
  clear hT
  go_enter Tryd.func17, Tryd.ntmps17
  go_wp2_with (go_at_call 38; refine (T.out _).mono ?_; rintro e w1 ⟨rfl, hn⟩; have h1 := HK.out.next hn; clear hn; have e0 := h1.e0; have e1 := h1.e1; have e2 := h1.e2; have e3 := h1.e3; have e4 := h1.e4; have e5 := h1.e5; have e6 := h1.e6; have e7 := h1.e7; have e8 := h1.e8; have e9 := h1.e9; have e10 := h1.e10; have e11 := h1.e11; have e12 := h1.e12; have fz := h1.rc.fz; have gz := h1.ac.fz)
  exact bodyPost_ret (v := adV y) (by simp [results, Tryd.results17, go_sem, e0, e1, e2, e3, e4, e5, e6, e7, e8, e9, e10, e11, e12]) rfl ⟨rfl, belowA (h1.bl) h1.le y⟩
set_option maxHeartbeats 400000 in
theorem atook_4 (s t f l p th oc ep ot wd ev ju n : Int) (y : Ad) (hT : ∀ W : World, Calls Tryd.prog 37 #[(adV ⟨s, t, f, l, p, th, 4, oc, ep, ot, wd, ev, 0⟩), .int .u64 n] W fun e w' => e = .returned (adV y) ∧ Below W.heap.size W w') (W : World) :
    Calls Tryd.prog 17 #[(adV ⟨s, t, f, l, p, th, 4, oc, ep, ot, wd, ev, ju⟩), .int .u64 n] W fun e w' => e = .returned (adV y) ∧ Below W.heap.size W w' := by
  have HK := Lib.hid (KA.start W ⟨s, t, f, l, p, th, 4, oc, ep, ot, wd, ev, 0⟩)
  have T := Lib.hid hT
  clear hT
  go_enter Tryd.func17, Tryd.ntmps17
  go_wp2_with (go_at_call 37; refine (T.out _).mono ?_; rintro e w1 ⟨rfl, hn⟩; have h1 := HK.out.next hn; clear hn; have e0 := h1.e0; have e1 := h1.e1; have e2 := h1.e2; have e3 := h1.e3; have e4 := h1.e4; have e5 := h1.e5; have e6 := h1.e6; have e7 := h1.e7; have e8 := h1.e8; have e9 := h1.e9; have e10 := h1.e10; have e11 := h1.e11; have e12 := h1.e12; have fz := h1.rc.fz; have gz := h1.ac.fz)
  exact bodyPost_ret (v := adV y) (by simp [results, Tryd.results17, go_sem, e0, e1, e2, e3, e4, e5, e6, e7, e8, e9, e10, e11, e12]) rfl ⟨rfl, belowA (h1.bl) h1.le y⟩
set_option maxHeartbeats 400000 in
theorem atook_5y (s t f l p th oc ep ot wd ev ju : Int) (W : World) :
    Calls Tryd.prog 17 #[(adV ⟨s, t, f, l, p, th, 5, oc, ep, ot, wd, ev, ju⟩), .int .u64 1] W fun e w' => e = .returned (adV ⟨s, t, f, l, p, th, 0, 3, ep, ot, wd, ev, 0⟩) ∧ Below W.heap.size W w' := by
  have hB := Lib.hid (below2 W)
  go_enter Tryd.func17, Tryd.ntmps17
  go_wp2
  exact bodyPost_ret (v := adV ⟨s, t, f, l, p, th, 0, 3, ep, ot, wd, ev, 0⟩) (by simp [results, Tryd.results17, go_sem]) rfl ⟨rfl, (by repeat (first | (with_reducible refine Below.setCell ?_ (by first | omega | (simp; omega) | simp) _) | (with_reducible refine below_drewN7 ?_ _) | exact hB.out _ _ | exact HBL.out | exact Nat.le_refl _))⟩
set_option maxHeartbeats 400000 in
theorem atook_5n (s t f l p th oc ep ot wd ev ju n : Int) (h : n ≠ 1) (W : World) :
    Calls Tryd.prog 17 #[(adV ⟨s, t, f, l, p, th, 5, oc, ep, ot, wd, ev, ju⟩), .int .u64 n] W fun e w' => e = .returned (adV ⟨s, t, f, l, p, th, 0, 2, ep, ot, wd, ev, 0⟩) ∧ Below W.heap.size W w' := by
  have hB := Lib.hid (below2 W)
  have h2 : (n == 1) = false := by simp; omega
  go_enter Tryd.func17, Tryd.ntmps17
  go_wp2
  exact bodyPost_ret (v := adV ⟨s, t, f, l, p, th, 0, 2, ep, ot, wd, ev, 0⟩) (by simp [results, Tryd.results17, go_sem]) rfl ⟨rfl, (by repeat (first | (with_reducible refine Below.setCell ?_ (by first | omega | (simp; omega) | simp) _) | (with_reducible refine below_drewN7 ?_ _) | exact hB.out _ _ | exact HBL.out | exact Nat.le_refl _))⟩
set_option maxHeartbeats 400000 in
theorem atook_0 (s t f l p th oc ep ot wd ev ju n : Int) (W : World) :
    Calls Tryd.prog 17 #[(adV ⟨s, t, f, l, p, th, 0, oc, ep, ot, wd, ev, ju⟩), .int .u64 n] W fun e w' => e = .returned (adV ⟨s, t, f, l, p, th, 0, oc, ep, ot, wd, ev, 0⟩) ∧ Below W.heap.size W w' := by
  have hB := Lib.hid (below2 W)
  go_enter Tryd.func17, Tryd.ntmps17
  go_wp2
  exact bodyPost_ret (v := adV ⟨s, t, f, l, p, th, 0, oc, ep, ot, wd, ev, 0⟩) (by simp [results, Tryd.results17, go_sem]) rfl ⟨rfl, (by repeat (first | (with_reducible refine Below.setCell ?_ (by first | omega | (simp; omega) | simp) _) | (with_reducible refine below_drewN7 ?_ _) | exact hB.out _ _ | exact HBL.out | exact Nat.le_refl _))⟩
theorem adone_yes (s t f l p th oc ep ot wd ev ju : Int) (h : 1 ≤ oc) (W : World) :
    Calls Tryd.prog 10 #[(adV ⟨s, t, f, l, p, th, 0, oc, ep, ot, wd, ev, ju⟩)] W fun e w' => e = .returned (.tuple #[.int .i64 oc, .bool true]) ∧ Below W.heap.size W w' := by
  have hB := Lib.hid (below1 W)
  by_cases he : oc = 1
  · subst he
    clear h
    go_enter Tryd.func10, Tryd.ntmps10
    go_wp2
    go_ret2
    exact ⟨rfl, hB.out _⟩
  · have h2 : 1 < oc := by omega
    have h3 : (decide (oc < 1)) = false := by simp; omega
    have h4 : (decide (oc ≤ 1)) = false := by simp; omega
    clear h he
    go_enter Tryd.func10, Tryd.ntmps10
    go_wp2
    go_ret2
    exact ⟨rfl, hB.out _⟩
theorem adone_zero (s t f l p th ep ot wd ev ju : Int) (W : World) :
    Calls Tryd.prog 10 #[(adV ⟨s, t, f, l, p, th, 0, 0, ep, ot, wd, ev, ju⟩)] W fun e w' => e = .returned (.tuple #[.int .i64 1, .bool true]) ∧ Below W.heap.size W w' := by
  have hB := Lib.hid (below1 W)
  go_enter Tryd.func10, Tryd.ntmps10
  go_wp2
  go_ret2
  exact ⟨rfl, hB.out _⟩
theorem adone_no (s t f l p th st oc ep ot wd ev ju : Int) (h : st ≠ 0) (W : World) :
    Calls Tryd.prog 10 #[(adV ⟨s, t, f, l, p, th, st, oc, ep, ot, wd, ev, ju⟩)] W fun e w' => e = .returned (.tuple #[.int .i64 0, .bool false]) ∧ Below W.heap.size W w' := by
  have hB := Lib.hid (below1 W)
  have h0 : (st == 0) = false := by simp; omega
  clear h
  go_enter Tryd.func10, Tryd.ntmps10
  go_wp2
  go_ret2
  exact ⟨rfl, hB.out _⟩
theorem aepochof_any (x : Ad) (W : World) :
    Calls Tryd.prog 13 #[adV x] W fun e w' => e = .returned (.int .u64 x.ep) ∧ Below W.heap.size W w' := by
  have hB := Lib.hid (below1 W)
  obtain ⟨s, t, f, l, p, th, st, oc, ep, ot, wd, ev, ju⟩ := x
  go_enter Tryd.func13, Tryd.ntmps13
  go_wp2
  go_ret
  exact ⟨rfl, hB.out _⟩
end Go.Proofs.YthcmgagmbioofaaDoor
