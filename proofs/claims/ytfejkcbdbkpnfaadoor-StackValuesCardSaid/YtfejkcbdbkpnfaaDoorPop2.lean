/- stack.Pop's Want and Done, NewPop; gleaningref15's Pop; the relation of both. -/
import Derived.Test.YtfejkcbdbkpnfaaDoorPop
namespace Go.Proofs.YtfejkcbdbkpnfaaDoor
set_option linter.unusedVariables false
open Go.RowKit Go.Extern.Stop Go.Stop Go.Extern
theorem below3p (W : World) (a b c : Obj) : Below W.heap.size W (((W.alloc a).alloc b).alloc c) := (below2 W a b).alloc (by simp; omega) _
structure KP1 (B : Nat) (w0 : World) (g : Nat) (x : Po) (W : World) : Prop extends PC g x W where
  bl : Below B w0 W
  le : B ≤ W.heap.size
theorem KP1.next {B : Nat} {w0 : World} {g : Nat} {x : Po} {W W' : World} (h : KP1 B w0 g x W) (hb : Below W.heap.size W W') : KP1 B w0 g x W' := ⟨h.toPC.next hb, h.bl.trans (hb.mono h.le), Nat.le_trans h.le hb.size⟩
theorem KP1.start (W : World) (x : Po) : KP1 W.heap.size W W.heap.size x (W.alloc (popRow x)) := ⟨PC.alloc W x, below1 _ _, by simp⟩
theorem KP1.drew {B : Nat} {w0 : World} {g : Nat} {x : Po} {W : World} (h : KP1 B w0 g x W) : KP1 B w0 g x W.drew := ⟨h.toPC.drew, h.bl.drew, h.le⟩
structure KPA (B : Nat) (w0 : World) (g : Nat) (x : Po) (r : Nat) (W : World) : Prop extends KP1 B w0 g x W where
  r0 : W.cell? ⟨r, 0, none⟩ = some (.int .i64 0)
  r1 : W.cell? ⟨r, 1, none⟩ = some (.int .i64 0)
  r2 : W.cell? ⟨r, 2, none⟩ = some (.int .u64 0)
  r3 : W.cell? ⟨r, 3, none⟩ = some (.int .u64 0)
  rz : ∀ i, W.frozen? ⟨r, i, none⟩ = false
theorem KPA.next {B : Nat} {w0 : World} {g : Nat} {x : Po} {r : Nat} {W W' : World} (h : KPA B w0 g x r W) (hb : Below W.heap.size W W') : KPA B w0 g x r W' := by
  have hr : r < W.heap.size := World.block_lt_of_cell? W _ h.r0
  have c : ∀ j, W'.cell? ⟨r, j, none⟩ = W.cell? ⟨r, j, none⟩ := fun j => hb.cell (p := ⟨r, j, none⟩) hr
  exact ⟨h.toKP1.next hb, (c _).trans h.r0, (c _).trans h.r1, (c _).trans h.r2, (c _).trans h.r3, fun i => (hb.frozen (p := ⟨r, i, none⟩) hr).trans (h.rz i)⟩
theorem KPA.drew {B : Nat} {w0 : World} {g : Nat} {x : Po} {r : Nat} {W : World} (h : KPA B w0 g x r W) : KPA B w0 g x r W.drew := ⟨h.toKP1.drew, h.r0, h.r1, h.r2, h.r3, h.rz⟩
theorem KPA.start (W : World) (x : Po) : KPA W.heap.size W W.heap.size x (W.heap.size + 1) ((W.alloc (popRow x)).alloc (.cells #[.int .i64 0, .int .i64 0, .int .u64 0, .int .u64 0] 39)) := by
  have h := (KP1.start W x).next (below1 _ (.cells #[.int .i64 0, .int .i64 0, .int .u64 0, .int .u64 0] 39))
  exact ⟨h, by simp, by simp, by simp, by simp, fun i => by simp⟩
set_option maxHeartbeats 1000000 in
theorem next_in (s t f l p st hd : Int) (lk : Nat) (sl tr : Int) (h0 : 0 ≤ s) (h1 : s ≤ 1000) (hk : lk < 18446744073709551616) (h : (lk : Int) ≤ s) (W : World) :
    Calls Tryd.prog 54 #[popV ⟨s, t, f, l, p, st, hd, lk, sl, tr⟩] W fun e w' => e = .returned (.int .i64 (lk : Nat)) ∧ Below W.heap.size W w' := by
  have HK := Lib.hid (KP1.start W ⟨s, t, f, l, p, st, hd, lk, sl, tr⟩).drew
  have C : RowKit.Hid (∀ W : World, Calls Tryd.prog 94 #[layV s t f l p] W fun e w' => e = .returned (.agg #[.int .i64 s, .int .i64 t, .int .i64 f, .int .i64 l, .int .i64 p]) ∧ Below W.heap.size W w') := Lib.hid (config_any s t f l p)
  have hfd : ∀ w : World, (Instr.field 23 (.agg #[.int .i64 s, .int .i64 t, .int .i64 f, .int .i64 l, .int .i64 p]) 0).run Tryd.prog w = .ok (.int .i64 s) w := fun _ => by kernel_rfl
  go_enter Tryd.func54, Tryd.ntmps54
  go_wp2
  refine wp_region_class (C := KP1 W.heap.size W W.heap.size ⟨s, t, f, l, p, st, hd, lk, sl, tr⟩) (by kernel_rfl) (by kernel_rfl) (HK.out) ?_
  repeat (first
    | go_big_quiet_skip
    | (go_big_quiet_want; go_big_quiet_op; go_big_quiet_on)
    | (go_big_quiet_want; go_big_quiet_op; refine ⟨_, fun _ _ => rfl, ?_⟩; go_big_quiet_on)
    | (go_big_quiet_want
       apply quiet_mk
       · intro u hu
         have c0 := hu.c0; have c1 := hu.c1; have c2 := hu.c2; have c3 := hu.c3; have c4 := hu.c4; have c5 := hu.c5; have c6 := hu.c6; have c7 := hu.c7; have c8 := hu.c8; have c9 := hu.c9
         have HU := Lib.hid hu
         clear hu
         go_simp
         first
           | with_reducible rfl
           | (go_at_call 94; refine (C.out _).mono ?_; rintro e w' ⟨rfl, hn⟩; exact ⟨rfl, HU.out.next hn⟩)
       simp only [Act.put, List.setIfInBounds_toArray, List.set_cons_zero, List.set_cons_succ]
       go_big_quiet_on))
  refine wpQuiet_nil ?_
  intro u hu
  have BL := Lib.hid hu.bl
  have c0 := hu.c0
  have c1 := hu.c1
  have c2 := hu.c2
  have c3 := hu.c3
  have c4 := hu.c4
  have c5 := hu.c5
  have c6 := hu.c6
  have c7 := hu.c7
  have c8 := hu.c8
  have c9 := hu.c9
  clear hu HK
  go_wp2
  go_ret
  exact ⟨rfl, BL.out⟩
set_option maxHeartbeats 1000000 in
theorem next_out (s t f l p st hd : Int) (lk : Nat) (sl tr : Int) (h0 : 0 ≤ s) (h1 : s ≤ 1000) (hk : lk < 18446744073709551616) (h : s < (lk : Int)) (W : World) :
    Calls Tryd.prog 54 #[popV ⟨s, t, f, l, p, st, hd, lk, sl, tr⟩] W fun e w' => e = .returned (.int .i64 0) ∧ Below W.heap.size W w' := by
  have HK := Lib.hid (KP1.start W ⟨s, t, f, l, p, st, hd, lk, sl, tr⟩).drew
  have C : RowKit.Hid (∀ W : World, Calls Tryd.prog 94 #[layV s t f l p] W fun e w' => e = .returned (.agg #[.int .i64 s, .int .i64 t, .int .i64 f, .int .i64 l, .int .i64 p]) ∧ Below W.heap.size W w') := Lib.hid (config_any s t f l p)
  have hfd : ∀ w : World, (Instr.field 23 (.agg #[.int .i64 s, .int .i64 t, .int .i64 f, .int .i64 l, .int .i64 p]) 0).run Tryd.prog w = .ok (.int .i64 s) w := fun _ => by kernel_rfl
  go_enter Tryd.func54, Tryd.ntmps54
  go_wp2
  refine wp_region_class (C := KP1 W.heap.size W W.heap.size ⟨s, t, f, l, p, st, hd, lk, sl, tr⟩) (by kernel_rfl) (by kernel_rfl) (HK.out) ?_
  repeat (first
    | go_big_quiet_skip
    | (go_big_quiet_want; go_big_quiet_op; go_big_quiet_on)
    | (go_big_quiet_want; go_big_quiet_op; refine ⟨_, fun _ _ => rfl, ?_⟩; go_big_quiet_on)
    | (go_big_quiet_want
       apply quiet_mk
       · intro u hu
         have c0 := hu.c0; have c1 := hu.c1; have c2 := hu.c2; have c3 := hu.c3; have c4 := hu.c4; have c5 := hu.c5; have c6 := hu.c6; have c7 := hu.c7; have c8 := hu.c8; have c9 := hu.c9
         have HU := Lib.hid hu
         clear hu
         go_simp
         first
           | with_reducible rfl
           | (go_at_call 94; refine (C.out _).mono ?_; rintro e w' ⟨rfl, hn⟩; exact ⟨rfl, HU.out.next hn⟩)
       simp only [Act.put, List.setIfInBounds_toArray, List.set_cons_zero, List.set_cons_succ]
       go_big_quiet_on))
  refine wpQuiet_nil ?_
  intro u hu
  have BL := Lib.hid hu.bl
  have c0 := hu.c0
  have c1 := hu.c1
  have c2 := hu.c2
  have c3 := hu.c3
  have c4 := hu.c4
  have c5 := hu.c5
  have c6 := hu.c6
  have c7 := hu.c7
  have c8 := hu.c8
  have c9 := hu.c9
  clear hu HK
  go_wp2
  go_ret
  exact ⟨rfl, BL.out⟩
theorem pwant_1 (s t f l p hd lk sl tr : Int) (h : okL s t f l p) (W : World) :
    Calls Tryd.prog 15 #[popV ⟨s, t, f, l, p, 1, hd, lk, sl, tr⟩] W fun e w' => e = .returned (askQ 1 (atL s t f 3 0 0) 0 0) ∧ Below W.heap.size W w' := by
  have HK := Lib.hid (KPA.start W ⟨s, t, f, l, p, 1, hd, lk, sl, tr⟩)
  have A := Lib.hid (head_any s t f l p h)
  generalize atL s t f 3 0 0 = a at A ⊢
  clear h
  go_enter Tryd.func15, Tryd.ntmps15
  go_wp2_with (go_at_call 50; refine (A.out _).mono ?_; rintro e w1 ⟨rfl, hn⟩; have h1 := HK.out.next hn; clear hn; have r0 := h1.r0; have r1 := h1.r1; have r2 := h1.r2; have r3 := h1.r3; have rz := h1.rz)
  exact bodyPost_ret (v := askQ 1 a 0 0) (by simp [results, Tryd.results15, go_sem, r0, r1, r2, r3]) rfl ⟨rfl, belowQ4 h1.bl (by omega) _ _ _ _⟩
set_option maxHeartbeats 1000000 in
theorem pwant_2 (s t f l p : Int) (hd : Nat) (lk sl tr : Int) (hh : hd < 18446744073709551616) (h : okL s t f l p) (W : World) :
    Calls Tryd.prog 15 #[popV ⟨s, t, f, l, p, 2, hd, lk, sl, tr⟩] W fun e w' => e = .returned (askQ 1 (atL s t f 8 (hd % 65536 : Nat) 0) 0 0) ∧ Below W.heap.size W w' := by
  have HK := Lib.hid (KPA.start W ⟨s, t, f, l, p, 2, hd, lk, sl, tr⟩).drew
  have S := Lib.hid (hslot_any hd hh)
  have A := Lib.hid (link_any s t f l p (hd % 65536 : Nat) h)
  generalize atL s t f 8 (hd % 65536 : Nat) 0 = a at A ⊢
  generalize hd % 65536 = m at A S
  clear h
  go_enter Tryd.func15, Tryd.ntmps15
  go_wp2
  refine wp_region_class_tail (C := KPA W.heap.size W W.heap.size ⟨s, t, f, l, p, 2, hd, lk, sl, tr⟩ (W.heap.size + 1)) 7 (by kernel_rfl) (by kernel_rfl) (HK.out) ?_
  simp only [List.take_succ_cons, List.take_zero, List.drop_succ_cons, List.drop_zero]
  repeat (first
    | go_big_quiet_skip
    | (go_big_quiet_want; go_big_quiet_op; go_big_quiet_on)
    | (go_big_quiet_want; go_big_quiet_op; refine ⟨_, fun _ _ => rfl, ?_⟩; go_big_quiet_on)
    | (go_big_quiet_want
       apply quiet_mk
       · intro u hu
         have c0 := hu.c0; have c1 := hu.c1; have c2 := hu.c2; have c3 := hu.c3; have c4 := hu.c4; have c5 := hu.c5; have c6 := hu.c6; have c7 := hu.c7; have c8 := hu.c8; have c9 := hu.c9
         have HU := Lib.hid hu
         clear hu
         go_simp
         first
           | with_reducible rfl
           | (go_at_call 52; refine (S.out _).mono ?_; rintro e w' ⟨rfl, q, rfl⟩; exact ⟨rfl, HU.out.next (below_drewN7 (Below.refl _ _) _)⟩) | (go_at_call 51; refine (A.out _).mono ?_; rintro e w' ⟨rfl, hn⟩; exact ⟨rfl, HU.out.next hn⟩)
       simp only [Act.put, List.setIfInBounds_toArray, List.set_cons_zero, List.set_cons_succ]
       go_big_quiet_on))
  refine wpQuiet_nil ?_
  intro u hu
  have r0 := hu.r0
  have r1 := hu.r1
  have r2 := hu.r2
  have r3 := hu.r3
  have rz := hu.rz
  go_wp2
  exact bodyPost_ret (v := askQ 1 a 0 0) (by simp [results, Tryd.results15, go_sem, r0, r1, r2, r3]) rfl ⟨rfl, belowQ4 hu.bl (by omega) _ _ _ _⟩
set_option maxHeartbeats 1000000 in
theorem pwant_3 (s t f l p : Int) (hd : Nat) (lk sl tr nx : Int) (hh : hd < 18446744073709551616) (h : okL s t f l p)
    (hX : ∀ W : World, Calls Tryd.prog 54 #[popV ⟨s, t, f, l, p, 3, hd, lk, sl, tr⟩] W fun e w' => e = .returned (.int .i64 nx) ∧ Below W.heap.size W w') (W : World) :
    Calls Tryd.prog 15 #[popV ⟨s, t, f, l, p, 3, hd, lk, sl, tr⟩] W fun e w' => e = .returned (askQ 3 (atL s t f 3 0 0) hd (hwTurn hd nx)) ∧ Below W.heap.size W w' := by
  have HK := Lib.hid (KPA.start W ⟨s, t, f, l, p, 3, hd, lk, sl, tr⟩).drew
  have T := Lib.hid (hturn_any hd nx hh)
  have A := Lib.hid (head_any s t f l p h)
  have N := Lib.hid hX
  generalize atL s t f 3 0 0 = a at A ⊢
  generalize hwTurn hd nx = tn at T ⊢
  clear h hX
  go_enter Tryd.func15, Tryd.ntmps15
  go_wp2
  refine wp_region_class_tail (C := KPA W.heap.size W W.heap.size ⟨s, t, f, l, p, 3, hd, lk, sl, tr⟩ (W.heap.size + 1)) 11 (by kernel_rfl) (by kernel_rfl) (HK.out) ?_
  simp only [List.take_succ_cons, List.take_zero, List.drop_succ_cons, List.drop_zero]
  repeat (first
    | go_big_quiet_skip
    | (go_big_quiet_want; go_big_quiet_op; go_big_quiet_on)
    | (go_big_quiet_want; go_big_quiet_op; refine ⟨_, fun _ _ => rfl, ?_⟩; go_big_quiet_on)
    | (go_big_quiet_want
       apply quiet_mk
       · intro u hu
         have c0 := hu.c0; have c1 := hu.c1; have c2 := hu.c2; have c3 := hu.c3; have c4 := hu.c4; have c5 := hu.c5; have c6 := hu.c6; have c7 := hu.c7; have c8 := hu.c8; have c9 := hu.c9
         have HU := Lib.hid hu
         clear hu
         go_simp
         first
           | with_reducible rfl
           | (go_at_call 50; refine (A.out _).mono ?_; rintro e w' ⟨rfl, hn⟩; exact ⟨rfl, HU.out.next hn⟩) | (go_at_call 54; refine (N.out _).mono ?_; rintro e w' ⟨rfl, hn⟩; exact ⟨rfl, HU.out.next hn⟩) | (go_at_call 53; refine (T.out _).mono ?_; rintro e w' ⟨rfl, q, rfl⟩; exact ⟨rfl, HU.out.next (below_drewN7 (Below.refl _ _) _)⟩)
       simp only [Act.put, List.setIfInBounds_toArray, List.set_cons_zero, List.set_cons_succ]
       go_big_quiet_on))
  refine wpQuiet_nil ?_
  intro u hu
  have r0 := hu.r0
  have r1 := hu.r1
  have r2 := hu.r2
  have r3 := hu.r3
  have rz := hu.rz
  go_wp2
  exact bodyPost_ret (v := askQ 3 a hd tn) (by simp [results, Tryd.results15, go_sem, r0, r1, r2, r3]) rfl ⟨rfl, belowQ4 hu.bl (by omega) _ _ _ _⟩
theorem pwant_0 (sl tr : Int) (W : World) :
    Calls Tryd.prog 15 #[popV (Po.end sl tr)] W fun e w' => e = .returned (askQ 0 0 0 0) ∧ Below W.heap.size W w' := by
  have hB := Lib.hid (below2 W)
  go_enter Tryd.func15, Tryd.ntmps15
  go_wp2
  exact bodyPost_ret (v := askQ 0 0 0 0) (by simp [results, Tryd.results15, go_sem]) rfl ⟨rfl, (by repeat (first | (with_reducible refine Below.setCell ?_ (by simp) _) | exact hB.out _ _ | exact Nat.le_refl _))⟩
set_option maxHeartbeats 1000000 in
theorem pdone_no (s t f l p st hd lk sl tr : Int) (h : (s == 0) = false) (W : World) :
    Calls Tryd.prog 14 #[popV ⟨s, t, f, l, p, st, hd, lk, sl, tr⟩] W fun e w' => e = .returned (.tuple #[.int .i64 0, .bool false]) ∧ Below W.heap.size W w' := by
  have HK := Lib.hid (KP1.start W ⟨s, t, f, l, p, st, hd, lk, sl, tr⟩).drew
  have M := Lib.hid (come_any ⟨s, t, f, l, p, st, hd, lk, sl, tr⟩ sl)
  go_enter Tryd.func14, Tryd.ntmps14
  go_wp2
  refine wp_region_class (C := KP1 W.heap.size W W.heap.size ⟨s, t, f, l, p, st, hd, lk, sl, tr⟩) (by kernel_rfl) (by kernel_rfl) (HK.out) ?_
  repeat (first
    | go_big_quiet_skip
    | (go_big_quiet_want; go_big_quiet_op; go_big_quiet_on)
    | (go_big_quiet_want; go_big_quiet_op; refine ⟨_, fun _ _ => rfl, ?_⟩; go_big_quiet_on)
    | (go_big_quiet_want
       apply quiet_mk
       · intro u hu
         have c0 := hu.c0; have c1 := hu.c1; have c2 := hu.c2; have c3 := hu.c3; have c4 := hu.c4; have c5 := hu.c5; have c6 := hu.c6; have c7 := hu.c7; have c8 := hu.c8; have c9 := hu.c9
         have HU := Lib.hid hu
         clear hu
         go_simp
         first
           | with_reducible rfl
           | (go_at_call 49; refine (M.out _).mono ?_; rintro e w' ⟨rfl, hn⟩; exact ⟨rfl, HU.out.next hn⟩)
       simp only [Act.put, List.setIfInBounds_toArray, List.set_cons_zero, List.set_cons_succ]
       go_big_quiet_on))
  refine wpQuiet_nil ?_
  intro u hu
  have BL := Lib.hid hu.bl
  have c0 := hu.c0
  have c1 := hu.c1
  have c2 := hu.c2
  have c3 := hu.c3
  have c4 := hu.c4
  have c5 := hu.c5
  have c6 := hu.c6
  have c7 := hu.c7
  have c8 := hu.c8
  have c9 := hu.c9
  clear hu HK
  go_wp2
  go_ret2
  exact ⟨rfl, BL.out⟩
set_option maxHeartbeats 1000000 in
theorem pdone_yes (sl tr : Int) (W : World) :
    Calls Tryd.prog 14 #[popV (Po.end sl tr)] W fun e w' => e = .returned (.tuple #[.int .i64 sl, .bool true]) ∧ Below W.heap.size W w' := by
  have HK := Lib.hid (KP1.start W (Po.end sl tr)).drew
  have M := Lib.hid (come_any (Po.end sl tr) sl)
  go_enter Tryd.func14, Tryd.ntmps14
  go_wp2
  refine wp_region_class (C := KP1 W.heap.size W W.heap.size (Po.end sl tr)) (by kernel_rfl) (by kernel_rfl) (HK.out) ?_
  repeat (first
    | go_big_quiet_skip
    | (go_big_quiet_want; go_big_quiet_op; go_big_quiet_on)
    | (go_big_quiet_want; go_big_quiet_op; refine ⟨_, fun _ _ => rfl, ?_⟩; go_big_quiet_on)
    | (go_big_quiet_want
       apply quiet_mk
       · intro u hu
         have c0 := hu.c0; have c1 := hu.c1; have c2 := hu.c2; have c3 := hu.c3; have c4 := hu.c4; have c5 := hu.c5; have c6 := hu.c6; have c7 := hu.c7; have c8 := hu.c8; have c9 := hu.c9
         have HU := Lib.hid hu
         clear hu
         go_simp
         first
           | with_reducible rfl
           | (go_at_call 49; refine (M.out _).mono ?_; rintro e w' ⟨rfl, hn⟩; exact ⟨rfl, HU.out.next hn⟩)
       simp only [Act.put, List.setIfInBounds_toArray, List.set_cons_zero, List.set_cons_succ]
       go_big_quiet_on))
  refine wpQuiet_nil ?_
  intro u hu
  have BL := Lib.hid hu.bl
  have c0 := hu.c0
  have c1 := hu.c1
  have c2 := hu.c2
  have c3 := hu.c3
  have c4 := hu.c4
  have c5 := hu.c5
  have c6 := hu.c6
  have c7 := hu.c7
  have c8 := hu.c8
  have c9 := hu.c9
  clear hu HK
  go_wp2
  go_ret2
  exact ⟨rfl, BL.out⟩
theorem pnew_yes (s t f l p : Int) (h : (s == 0) = false) (W : World) :
    Calls Tryd.prog 11 #[layV s t f l p] W fun e w' => e = .returned (popV ⟨s, t, f, l, p, 1, 0, 0, 0, 0⟩) ∧ Below W.heap.size W w' := by
  have hB := Lib.hid (below2 W)
  go_enter Tryd.func11, Tryd.ntmps11
  go_wp2
  exact bodyPost_ret (v := popV ⟨s, t, f, l, p, 1, 0, 0, 0, 0⟩) (by simp [results, Tryd.results11, go_sem]) rfl ⟨rfl, (by repeat (first | (with_reducible refine Below.setCell ?_ (by simp) _) | exact hB.out _ _ | exact Nat.le_refl _))⟩
theorem pnew_no (W : World) :
    Calls Tryd.prog 11 #[layV 0 0 0 0 0] W fun e w' => e = .returned (popV (Po.end 0 0)) ∧ Below W.heap.size W w' := by
  have hB := Lib.hid (below2 W)
  go_enter Tryd.func11, Tryd.ntmps11
  go_wp2
  exact bodyPost_ret (v := popV (Po.end 0 0)) (by simp [results, Tryd.results11, go_sem]) rfl ⟨rfl, (by repeat (first | (with_reducible refine Below.setCell ?_ (by simp) _) | exact hB.out _ _ | exact Nat.le_refl _))⟩
theorem rnode_any (s t f l p n : Int) (h : okC s t f l p) (h0 : 0 ≤ n) (h1 : n ≤ s) (W : World) :
    Calls Tryd.prog 95 #[cfgV s t f l p, .int .i64 n] W fun e w' => e = .returned (.int .i64 (3 + 3 * t + n * (3 + 2 * f))) ∧ Below W.heap.size W w' := by
  obtain ⟨⟨a1, a2⟩, ⟨a3, a4⟩, ⟨a5, a6⟩, a7, a8⟩ := h
  obtain ⟨m1, m2⟩ := mul_bd (a := n) (b := 3 + 2 * f) (x := 1000) (y := 131) (by omega) (by omega) (by omega) (by omega) (by omega)
  have HB := Lib.hid (below1 W)
  clear a7 a8
  go_enter Tryd.func95, Tryd.ntmps95
  go_wp2
  go_ret
  exact ⟨ret_i (by omega), HB.out _⟩
theorem rlink_any (s t f l p n : Int) (h : okC s t f l p) (h0 : 0 ≤ n) (h1 : n ≤ s) (W : World) :
    Calls Tryd.prog 55 #[cfgV s t f l p, .int .i64 n] W fun e w' => e = .returned (.int .i64 (atL s t f 8 n 0)) ∧ Below W.heap.size W w' := by
  have N := Lib.hid (rnode_any s t f l p n h h0 h1)
  obtain ⟨⟨a1, a2⟩, ⟨a3, a4⟩, ⟨a5, a6⟩, a7, a8⟩ := h
  obtain ⟨m1, m2⟩ := mul_bd (a := n) (b := 3 + 2 * f) (x := 1000) (y := 131) (by omega) (by omega) (by omega) (by omega) (by omega)
  have e : atL s t f 8 n 0 = 3 + 3 * t + n * (3 + 2 * f) + 2 := by
    unfold atL
    rw [if_neg (by omega), if_neg (by omega), if_neg (by omega), if_pos (by omega), if_neg (show ¬ ((8:Int) = 9 ∨ (8:Int) = 10) by omega), if_neg (by omega)]
    have hi : inL f 8 = 2 := rfl
    rw [hi]; omega
  rw [e]
  generalize n * (3 + 2 * f) = m at N m1 m2 ⊢
  have HB := Lib.hid (below1 W)
  clear a7 a8 e
  go_enter Tryd.func55, Tryd.ntmps55
  go_wp2_with (go_at_call 95; refine (N.out _).mono ?_; rintro e w1 ⟨rfl, hn⟩)
  go_ret
  exact ⟨ret_i (by omega), (HB.out _).trans (hn.mono (by simp))⟩
structure KRP (B : Nat) (w0 : World) (g : Nat) (s t f l p : Int) (r : Nat) (y : Rp) (W : World) : Prop extends K5 B w0 g s t f l p W where
  e : RPC r y W
theorem KRP.next {B : Nat} {w0 : World} {g : Nat} {s t f l p : Int} {r : Nat} {y : Rp} {W W' : World} (h : KRP B w0 g s t f l p r y W) (hb : Below W.heap.size W W') : KRP B w0 g s t f l p r y W' := ⟨h.toK5.next hb, h.e.next hb⟩
theorem KRP.start (W : World) (s t f l p : Int) (y : Rp) : KRP W.heap.size W W.heap.size s t f l p (W.heap.size + 1) y ((W.alloc (.cells #[.int .i64 s, .int .i64 t, .int .i64 f, .int .i64 l, .int .i64 p] 23)).alloc (rpRow y)) :=
  ⟨⟨by simp, by simp, by simp, by simp, by simp, below2 _ _ _, by simp; omega⟩, ⟨by simp, by simp, by simp, by simp, by simp, fun i => by simp⟩⟩
theorem rpnew_yes (s t f l p : Int) (h : okC s t f l p) (W : World) :
    Calls Tryd.prog 13 #[cfgV s t f l p] W fun e w' => e = .returned (rpV ⟨1, 0, 0, 0, 0⟩) ∧ Below W.heap.size W w' := by
  have HK := Lib.hid (KRP.start W s t f l p ⟨0, 0, 0, 0, 0⟩)
  have R := Lib.hid (rwrong_yes s t f l p h)
  clear h
  go_enter Tryd.func13, Tryd.ntmps13
  go_wp2_with (go_at_call 28; refine (R.out _).mono ?_; rintro e w1 ⟨rfl, hn⟩; have h1 := HK.out.next hn; clear hn; have e0 := h1.e.c0; have e1 := h1.e.c1; have e2 := h1.e.c2; have e3 := h1.e.c3; have e4 := h1.e.c4; have fz := h1.e.fz)
  exact bodyPost_ret (v := rpV ⟨1, 0, 0, 0, 0⟩) (by simp [results, Tryd.results13, go_sem, e0, e1, e2, e3, e4]) rfl ⟨rfl, below_putQ h1.bl (by omega) ⟨1, 0, 0, 0, 0⟩⟩
theorem rpnew_no (s t f l p : Int) (h : ¬ okC s t f l p) (W : World) :
    Calls Tryd.prog 13 #[cfgV s t f l p] W fun e w' => e = .returned (rpV ⟨0, 0, 0, 0, 0⟩) ∧ Below W.heap.size W w' := by
  have HK := Lib.hid (KRP.start W s t f l p ⟨0, 0, 0, 0, 0⟩)
  obtain ⟨k, _, hk5, R⟩ := rwrong_no s t f l p h
  have R := Lib.hid R
  clear h
  go_enter Tryd.func13, Tryd.ntmps13
  go_wp2_with (go_at_call 28; refine (R.out _).mono ?_; rintro e w1 ⟨rfl, hn⟩; have h1 := HK.out.next hn; clear hn; have e0 := h1.e.c0; have e1 := h1.e.c1; have e2 := h1.e.c2; have e3 := h1.e.c3; have e4 := h1.e.c4; have fz := h1.e.fz)
  exact bodyPost_ret (v := rpV ⟨0, 0, 0, 0, 0⟩) (by simp [results, Tryd.results13, go_sem, e0, e1, e2, e3, e4]) rfl ⟨rfl, below_putQ h1.bl (by omega) ⟨0, 0, 0, 0, 0⟩⟩
structure KRQ (B : Nat) (w0 : World) (g : Nat) (s t f l p : Int) (q : Nat) (y : Rp) (r : Nat) (W : World) : Prop extends KRP B w0 g s t f l p q y W where
  r0 : W.cell? ⟨r, 0, none⟩ = some (.int .i64 0)
  r1 : W.cell? ⟨r, 1, none⟩ = some (.int .i64 0)
  r2 : W.cell? ⟨r, 2, none⟩ = some (.int .u64 0)
  r3 : W.cell? ⟨r, 3, none⟩ = some (.int .u64 0)
  rz : ∀ i, W.frozen? ⟨r, i, none⟩ = false
section
variable {B : Nat} {w0 : World} {g : Nat} {s t f l p : Int} {q : Nat} {y : Rp} {r : Nat} {W W' : World}
theorem KRQ.next (h : KRQ B w0 g s t f l p q y r W) (hb : Below W.heap.size W W') : KRQ B w0 g s t f l p q y r W' := by
  have hr : r < W.heap.size := World.block_lt_of_cell? W _ h.r0
  have c : ∀ j, W'.cell? ⟨r, j, none⟩ = W.cell? ⟨r, j, none⟩ := fun j => hb.cell (p := ⟨r, j, none⟩) hr
  exact ⟨h.toKRP.next hb, (c _).trans h.r0, (c _).trans h.r1, (c _).trans h.r2, (c _).trans h.r3, fun i => (hb.frozen (p := ⟨r, i, none⟩) hr).trans (h.rz i)⟩
theorem KRQ.drew (h : KRQ B w0 g s t f l p q y r W) : KRQ B w0 g s t f l p q y r W.drew := ⟨⟨⟨h.c0, h.c1, h.c2, h.c3, h.c4, h.bl.drew, h.le⟩, h.e.drew⟩, h.r0, h.r1, h.r2, h.r3, h.rz⟩
theorem KRQ.d0 (h : KRQ B w0 g s t f l p q y r W) : W.cell? ⟨q, 0, none⟩ = some (.int .i64 y.a) := h.e.c0
theorem KRQ.d1 (h : KRQ B w0 g s t f l p q y r W) : W.cell? ⟨q, 1, none⟩ = some (.int .u64 y.hd) := h.e.c1
theorem KRQ.d2 (h : KRQ B w0 g s t f l p q y r W) : W.cell? ⟨q, 2, none⟩ = some (.int .i64 y.sl) := h.e.c2
theorem KRQ.d3 (h : KRQ B w0 g s t f l p q y r W) : W.cell? ⟨q, 3, none⟩ = some (.int .i64 y.lk) := h.e.c3
theorem KRQ.d4 (h : KRQ B w0 g s t f l p q y r W) : W.cell? ⟨q, 4, none⟩ = some (.int .i64 y.tr) := h.e.c4
end
theorem KRQ.start (W : World) (s t f l p : Int) (y : Rp) : KRQ W.heap.size W W.heap.size s t f l p (W.heap.size + 1) y (W.heap.size + 2) (((W.alloc (.cells #[.int .i64 s, .int .i64 t, .int .i64 f, .int .i64 l, .int .i64 p] 23)).alloc (rpRow y)).alloc (.cells #[.int .i64 0, .int .i64 0, .int .u64 0, .int .u64 0] 39)) := by
  have k := KRP.start W s t f l p y
  have hz : ((W.alloc (.cells #[.int .i64 s, .int .i64 t, .int .i64 f, .int .i64 l, .int .i64 p] 23)).alloc (rpRow y)).heap.size = W.heap.size + 2 := by simp
  generalize (W.alloc (.cells #[.int .i64 s, .int .i64 t, .int .i64 f, .int .i64 l, .int .i64 p] 23)).alloc (rpRow y) = W2 at k hz ⊢
  rw [← hz]
  exact ⟨k.next (below1 W2 (.cells #[.int .i64 0, .int .i64 0, .int .u64 0, .int .u64 0] 39)), by simp, by simp, by simp, by simp, fun i => by simp⟩
theorem rpwant_1 (s t f l p hd sl lk tr : Int) (W : World) :
    Calls Tryd.prog 16 #[cfgV s t f l p, rpV ⟨1, hd, sl, lk, tr⟩] W fun e w' => e = .returned (askQ 1 2 0 0) ∧ Below W.heap.size W w' := by
  go_enter Tryd.func16, Tryd.ntmps16
  go_wp2
  exact bodyPost_ret (v := askQ 1 2 0 0) (by simp [results, Tryd.results16, go_sem]) rfl ⟨rfl, below3p _ _ _ _⟩
theorem rpwant_0 (s t f l p hd sl lk tr : Int) (W : World) :
    Calls Tryd.prog 16 #[cfgV s t f l p, rpV ⟨0, hd, sl, lk, tr⟩] W fun e w' => e = .returned (askQ 0 0 0 0) ∧ Below W.heap.size W w' := by
  go_enter Tryd.func16, Tryd.ntmps16
  go_wp2
  exact bodyPost_ret (v := askQ 0 0 0 0) (by simp [results, Tryd.results16, go_sem]) rfl ⟨rfl, below3p _ _ _ _⟩
theorem rpwant_2 (s t f l p hd sl lk tr : Int) (h : okC s t f l p) (h0 : 0 ≤ sl) (h1 : sl ≤ s) (W : World) :
    Calls Tryd.prog 16 #[cfgV s t f l p, rpV ⟨2, hd, sl, lk, tr⟩] W fun e w' => e = .returned (askQ 1 (atL s t f 8 sl 0) 0 0) ∧ Below W.heap.size W w' := by
  have HK := Lib.hid (KRQ.start W s t f l p ⟨2, hd, sl, lk, tr⟩)
  have A := Lib.hid (rlink_any s t f l p sl h h0 h1)
  generalize atL s t f 8 sl 0 = a at A ⊢
  clear h h0 h1
  go_enter Tryd.func16, Tryd.ntmps16
  go_wp2_with (go_at_call 55; refine (A.out _).mono ?_; rintro e w1 ⟨rfl, hn⟩; have h1 := HK.out.next hn; clear hn; have r0 := h1.r0; have r1 := h1.r1; have r2 := h1.r2; have r3 := h1.r3; have rz := h1.rz)
  exact bodyPost_ret (v := askQ 1 a 0 0) (by simp [results, Tryd.results16, go_sem, r0, r1, r2, r3]) rfl ⟨rfl, belowQ4 h1.bl (by omega) _ _ _ _⟩
set_option maxHeartbeats 1000000 in
theorem rpwant_3 (s t f l p : Int) (hd : Nat) (sl lk tr : Int) (hh : hd < 18446744073709551616) (W : World) :
    Calls Tryd.prog 16 #[cfgV s t f l p, rpV ⟨3, hd, sl, lk, tr⟩] W fun e w' => e = .returned (askQ 3 2 hd (hwTurn hd lk)) ∧ Below W.heap.size W w' := by
  have HK := Lib.hid (KRQ.start W s t f l p ⟨3, hd, sl, lk, tr⟩).drew
  have T := Lib.hid (rhturn_any hd lk hh)
  generalize hwTurn hd lk = tn at T ⊢
  go_enter Tryd.func16, Tryd.ntmps16
  go_wp2
  refine wp_region_class_tail (C := KRQ W.heap.size W W.heap.size s t f l p (W.heap.size + 1) ⟨3, hd, sl, lk, tr⟩ (W.heap.size + 2)) 8 (by kernel_rfl) (by kernel_rfl) (HK.out) ?_
  simp only [List.take_succ_cons, List.take_zero, List.drop_succ_cons, List.drop_zero]
  repeat (first
    | go_big_quiet_skip
    | (go_big_quiet_want; go_big_quiet_op; go_big_quiet_on)
    | (go_big_quiet_want; go_big_quiet_op; refine ⟨_, fun _ _ => rfl, ?_⟩; go_big_quiet_on)
    | (go_big_quiet_want
       apply quiet_mk
       · intro u hu
         have c0 := hu.c0; have c1 := hu.c1; have c2 := hu.c2; have c3 := hu.c3; have c4 := hu.c4; have d0 := hu.d0; have d1 := hu.d1; have d2 := hu.d2; have d3 := hu.d3; have d4 := hu.d4
         have HU := Lib.hid hu
         clear hu
         go_simp
         first
           | with_reducible rfl
           | (go_at_call 56; refine (T.out _).mono ?_; rintro e w' ⟨rfl, rfl⟩; exact ⟨rfl, HU.out⟩)
       simp only [Act.put, List.setIfInBounds_toArray, List.set_cons_zero, List.set_cons_succ]
       go_big_quiet_on))
  refine wpQuiet_nil ?_
  intro u hu
  have r0 := hu.r0
  have r1 := hu.r1
  have r2 := hu.r2
  have r3 := hu.r3
  have rz := hu.rz
  go_wp2
  exact bodyPost_ret (v := askQ 3 2 hd tn) (by simp [results, Tryd.results16, go_sem, r0, r1, r2, r3]) rfl ⟨rfl, belowQ4 hu.bl (by omega) _ _ _ _⟩
set_option maxHeartbeats 1000000 in
theorem rptook_0 (s t f l p hd sl lk tr : Int) (h0 : 0 ≤ s) (hs : s ≤ 1000) (n : Nat) (hn : n < 18446744073709551616) (W : World) :
    Calls Tryd.prog 19 #[cfgV s t f l p, rpV ⟨0, hd, sl, lk, tr⟩, .int .u64 n] W fun e w' => e = .returned (rpV ⟨0, hd, sl, lk, tr⟩) ∧ Below W.heap.size W w' := by
  have hB := Lib.hid (below3p W)
  go_enter Tryd.func19, Tryd.ntmps19
  go_wp2
  exact bodyPost_ret (v := rpV ⟨0, hd, sl, lk, tr⟩) (by simp [results, Tryd.results19, go_sem]) rfl ⟨rfl, (by repeat (first | (with_reducible refine Below.setCell ?_ (by simp) _) | exact hB.out _ _ _ | exact Nat.le_refl _))⟩
set_option maxHeartbeats 1000000 in
theorem rptook_1lo (s t f l p hd sl lk tr : Int) (h0 : 0 ≤ s) (hs : s ≤ 1000) (n : Nat) (hn : n < 18446744073709551616) (h : ((n % 65536 : Nat) : Int) < 1) (W : World) :
    Calls Tryd.prog 19 #[cfgV s t f l p, rpV ⟨1, hd, sl, lk, tr⟩, .int .u64 n] W fun e w' => e = .returned (rpV ⟨0, n, 0, lk, tr⟩) ∧ Below W.heap.size W w' := by
  have hB := Lib.hid (below3p W)
  have S := Lib.hid (rhslot_any n hn)
  generalize n % 65536 = m at S h
  go_enter Tryd.func19, Tryd.ntmps19
  go_wp2_with (go_at_call 61; refine (S.out _).mono ?_; rintro e w1 ⟨rfl, rfl⟩)
  exact bodyPost_ret (v := rpV ⟨0, n, 0, lk, tr⟩) (by simp [results, Tryd.results19, go_sem]) rfl ⟨rfl, (by repeat (first | (with_reducible refine Below.setCell ?_ (by simp) _) | exact hB.out _ _ _ | exact Nat.le_refl _))⟩
set_option maxHeartbeats 1000000 in
theorem rptook_1hi (s t f l p hd sl lk tr : Int) (h0 : 0 ≤ s) (hs : s ≤ 1000) (n : Nat) (hn : n < 18446744073709551616) (h1 : 1 ≤ ((n % 65536 : Nat) : Int)) (h : s < ((n % 65536 : Nat) : Int)) (W : World) :
    Calls Tryd.prog 19 #[cfgV s t f l p, rpV ⟨1, hd, sl, lk, tr⟩, .int .u64 n] W fun e w' => e = .returned (rpV ⟨0, n, 0, lk, tr⟩) ∧ Below W.heap.size W w' := by
  have hB := Lib.hid (below3p W)
  have S := Lib.hid (rhslot_any n hn)
  generalize n % 65536 = m at S h h1
  go_enter Tryd.func19, Tryd.ntmps19
  go_wp2_with (go_at_call 61; refine (S.out _).mono ?_; rintro e w1 ⟨rfl, rfl⟩)
  exact bodyPost_ret (v := rpV ⟨0, n, 0, lk, tr⟩) (by simp [results, Tryd.results19, go_sem]) rfl ⟨rfl, (by repeat (first | (with_reducible refine Below.setCell ?_ (by simp) _) | exact hB.out _ _ _ | exact Nat.le_refl _))⟩
set_option maxHeartbeats 1000000 in
theorem rptook_1in (s t f l p hd sl lk tr : Int) (h0 : 0 ≤ s) (hs : s ≤ 1000) (n : Nat) (hn : n < 18446744073709551616) (m : Nat) (hm : n % 65536 = m) (h1 : 1 ≤ (m : Int)) (h : (m : Int) ≤ s) (W : World) :
    Calls Tryd.prog 19 #[cfgV s t f l p, rpV ⟨1, hd, sl, lk, tr⟩, .int .u64 n] W fun e w' => e = .returned (rpV ⟨2, n, m, lk, tr⟩) ∧ Below W.heap.size W w' := by
  have hB := Lib.hid (below3p W)
  have S : RowKit.Hid (∀ W : World, Calls Tryd.prog 61 #[.int .u64 n] W fun e w' => e = .returned (.int .i64 m) ∧ W = w') := Lib.hid (fun W => by have := rhslot_any n hn W; rw [hm] at this; exact this)
  clear hm
  go_enter Tryd.func19, Tryd.ntmps19
  go_wp2_with (go_at_call 61; refine (S.out _).mono ?_; rintro e w1 ⟨rfl, rfl⟩)
  exact bodyPost_ret (v := rpV ⟨2, n, m, lk, tr⟩) (by simp [results, Tryd.results19, go_sem]) rfl ⟨rfl, (by repeat (first | (with_reducible refine Below.setCell ?_ (by simp) _) | exact hB.out _ _ _ | exact Nat.le_refl _))⟩
set_option maxHeartbeats 1000000 in
theorem rptook_2in (s t f l p hd sl lk tr : Int) (h0 : 0 ≤ s) (hs : s ≤ 1000) (n : Nat) (hn : n < 18446744073709551616) (h : (n : Int) ≤ s) (W : World) :
    Calls Tryd.prog 19 #[cfgV s t f l p, rpV ⟨2, hd, sl, lk, tr⟩, .int .u64 n] W fun e w' => e = .returned (rpV ⟨3, hd, sl, n, tr⟩) ∧ Below W.heap.size W w' := by
  have hB := Lib.hid (below3p W)
  go_enter Tryd.func19, Tryd.ntmps19
  go_wp2
  exact bodyPost_ret (v := rpV ⟨3, hd, sl, n, tr⟩) (by simp [results, Tryd.results19, go_sem]) rfl ⟨rfl, (by repeat (first | (with_reducible refine Below.setCell ?_ (by simp) _) | exact hB.out _ _ _ | exact Nat.le_refl _))⟩
set_option maxHeartbeats 1000000 in
theorem rptook_2out (s t f l p hd sl lk tr : Int) (h0 : 0 ≤ s) (hs : s ≤ 1000) (n : Nat) (hn : n < 18446744073709551616) (h : s < (n : Int)) (W : World) :
    Calls Tryd.prog 19 #[cfgV s t f l p, rpV ⟨2, hd, sl, lk, tr⟩, .int .u64 n] W fun e w' => e = .returned (rpV ⟨3, hd, sl, 0, tr⟩) ∧ Below W.heap.size W w' := by
  have hB := Lib.hid (below3p W)
  go_enter Tryd.func19, Tryd.ntmps19
  go_wp2
  exact bodyPost_ret (v := rpV ⟨3, hd, sl, 0, tr⟩) (by simp [results, Tryd.results19, go_sem]) rfl ⟨rfl, (by repeat (first | (with_reducible refine Below.setCell ?_ (by simp) _) | exact hB.out _ _ _ | exact Nat.le_refl _))⟩
set_option maxHeartbeats 1000000 in
theorem rptook_3hit (s t f l p hd sl lk tr : Int) (h0 : 0 ≤ s) (hs : s ≤ 1000) (W : World) :
    Calls Tryd.prog 19 #[cfgV s t f l p, rpV ⟨3, hd, sl, lk, tr⟩, .int .u64 1] W fun e w' => e = .returned (rpV ⟨0, hd, sl, lk, tr⟩) ∧ Below W.heap.size W w' := by
  have hB := Lib.hid (below3p W)
  go_enter Tryd.func19, Tryd.ntmps19
  go_wp2
  exact bodyPost_ret (v := rpV ⟨0, hd, sl, lk, tr⟩) (by simp [results, Tryd.results19, go_sem]) rfl ⟨rfl, (by repeat (first | (with_reducible refine Below.setCell ?_ (by simp) _) | exact hB.out _ _ _ | exact Nat.le_refl _))⟩
set_option maxHeartbeats 1000000 in
theorem rptook_3miss (s t f l p hd sl lk tr : Int) (h0 : 0 ≤ s) (hs : s ≤ 1000) (n : Nat) (hn : n < 18446744073709551616) (h1 : n ≠ 1) (ht : 0 ≤ tr) (ht2 : tr ≤ 1000) (W : World) :
    Calls Tryd.prog 19 #[cfgV s t f l p, rpV ⟨3, hd, sl, lk, tr⟩, .int .u64 n] W fun e w' => e = .returned (rpV ⟨1, hd, sl, lk, tr + 1⟩) ∧ Below W.heap.size W w' := by
  have hB := Lib.hid (below3p W)
  have h2 : ((n : Int) == 1) = false := by simp; omega
  clear h1
  go_enter Tryd.func19, Tryd.ntmps19
  go_wp2
  exact bodyPost_ret (v := rpV ⟨1, hd, sl, lk, tr + 1⟩) (by simp [results, Tryd.results19, go_sem]) rfl ⟨rfl, (by repeat (first | (with_reducible refine Below.setCell ?_ (by simp) _) | exact hB.out _ _ _ | exact Nat.le_refl _))⟩
end Go.Proofs.YtfejkcbdbkpnfaaDoor
