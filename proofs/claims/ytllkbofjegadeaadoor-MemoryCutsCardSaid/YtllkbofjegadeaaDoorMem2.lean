/- Do. -/
import Derived.Test.YtllkbofjegadeaaDoorMem1
namespace Go.Proofs.YtllkbofjegadeaaDoor
set_option linter.unusedVariables false
open Go.RowKit
abbrev askV (k a : Int) (o n : Nat) : Value := .agg #[.int .i64 k, .int .i64 a, .int .u64 (o : Nat), .int .u64 (n : Nat)]
abbrev askRow (k a : Int) (o n : Nat) : Obj := .cells #[.int .i64 k, .int .i64 a, .int .u64 (o : Nat), .int .u64 (n : Nat)] 34
/-- What an access tells, and the words behind it. -/
def doF (us : List Nat) (k a : Int) (o n : Nat) : Nat × List Nat :=
  if 0 ≤ a ∧ a < us.length then
    if k = 1 then (us.getD a.toNat 0, us) else if k = 2 then (0, us.set a.toNat n) else if k = 3 then (if us.getD a.toNat 0 = o then (1, us.set a.toNat n) else (0, us)) else (0, us)
  else (0, us)
theorem doF_len (us : List Nat) (k a : Int) (o n : Nat) : (doF us k a o n).2.length = us.length := by
  unfold doF
  split
  · split
    · rfl
    · split
      · simp
      · split
        · split <;> simp
        · rfl
  · rfl
theorem mdo_nil (k a : Int) (o n : Nat) (W : World) : Calls Tryd.prog 11 #[.pointer none, askV k a o n] W fun e w' => e = .returned (.int .u64 0) ∧ Below W.heap.size W w' := by
  have HN := Lib.hid (fun W' => has_nil a W')
  have HB := Lib.hid (ml1 W (askRow k a o n))
  go_enter Tryd.func11, Tryd.ntmps11
  go_wp2_with (go_at_call 23; refine (HN.out _).mono ?_; rintro e w' ⟨rfl, rfl⟩)
  go_ret
  exact ⟨rfl, HB.out⟩
theorem mdo_out (g : Nat) (A : Option Addr) (m c : Nat) (k a : Int) (o n : Nat) (W : World) (h5 : W.cell? ⟨g, 5, none⟩ = some (.slice A m c)) (hm : m ≤ 100000) (ha : ¬ (0 ≤ a ∧ a < m)) : Calls Tryd.prog 11 #[.pointer (some ⟨g, 0, none⟩), askV k a o n] W fun e w' => e = .returned (.int .u64 0) ∧ Below W.heap.size W w' := by
  have hlt := World.block_lt_of_cell? W _ h5
  have HN := Lib.hid (has_any g A m c a (W.alloc (askRow k a o n)) (((ml1 W _).cell (p := ⟨g, 5, none⟩) hlt).trans h5) hm false (by simp only [Bool.false_eq_true, false_iff]; exact ha))
  have HB := Lib.hid (ml1 W (askRow k a o n))
  clear h5 ha hlt
  go_enter Tryd.func11, Tryd.ntmps11
  go_wp2_with (go_at_call 23; refine HN.out.mono ?_; rintro e w' ⟨rfl, rfl⟩)
  go_ret
  exact ⟨rfl, HB.out⟩
structure DK (W0 : World) (g gw q : Nat) (s t f l p : Int) (us : List Nat) (k : Int) (i o n x : Nat) (W : World) : Prop where
  a0 : W.cell? ⟨W0.heap.size, 0, none⟩ = some (.int .i64 k)
  a1 : W.cell? ⟨W0.heap.size, 1, none⟩ = some (.int .i64 (i : Nat))
  a2 : W.cell? ⟨W0.heap.size, 2, none⟩ = some (.int .u64 (o : Nat))
  a3 : W.cell? ⟨W0.heap.size, 3, none⟩ = some (.int .u64 (n : Nat))
  m5 : W.cell? ⟨g, 5, none⟩ = some (.slice (some ⟨gw, 0, none⟩) us.length q)
  xc : W.cell? ⟨gw, i, none⟩ = some (.int .u64 (x : Nat))
  fz : W.frozen? ⟨gw, i, none⟩ = false
  mb : MB g gw s t f l p us W
  bl : Below W0.heap.size W0 W
theorem DK.drew {W0 : World} {g gw q : Nat} {s t f l p : Int} {us : List Nat} {k : Int} {i o n x : Nat} {W : World} (h : DK W0 g gw q s t f l p us k i o n x W) : DK W0 g gw q s t f l p us k i o n x W.drew := ⟨h.a0, h.a1, h.a2, h.a3, h.m5, h.xc, h.fz, h.mb.next (Below.refl _ _).drew, h.bl.drew⟩
theorem DK.start (W0 : World) (g gw : Nat) (s t f l p : Int) (us : List Nat) (k : Int) (i o n x : Nat) (h : MB g gw s t f l p us W0) (hi : i < us.length) (hx : us.getD i 0 = x) : ∃ q, us.length ≤ q ∧ DK W0 g gw q s t f l p us k i o n x (W0.alloc (askRow k i o n)) := by
  have h2 := h.next (ml1 W0 (askRow k i o n))
  obtain ⟨q, hr, hq, _⟩ := h2.ex
  exact ⟨q, hq, by simp, by simp, by simp, by simp, hr.c5, by rw [← hx]; exact h2.b.wd i hi, h2.b.fz i, h2, ml1 _ _⟩
set_option maxHeartbeats 1000000 in
theorem mdo_load (g gw : Nat) (s t f l p : Int) (us : List Nat) (i o n x : Nat) (hl : us.length ≤ 100000) (hi : i < us.length) (hx : us.getD i 0 = x) (W : World) (h : MB g gw s t f l p us W) :
    Calls Tryd.prog 11 #[.pointer (some ⟨g, 0, none⟩), askV 1 i o n] W fun e w' => e = .returned (.int .u64 (x : Nat)) ∧ MB g gw s t f l p us w' ∧ But gw W w' := by
  have HN := Lib.hid (has_any g (some ⟨gw, 0, none⟩) us.length _ i (W.alloc (askRow 1 i o n)) (h.next (ml1 _ _)).r.c5 hl true (by simp; omega))
  obtain ⟨q, hq, hk0⟩ := DK.start W g gw s t f l p us 1 i o n x h hi hx
  have HK := Lib.hid hk0
  clear hk0 hq
  have HK1 := Lib.hid HK.out.drew
  have hi1 : (i : Int) < (us.length : Int) := by omega
  have hi0 : (0 : Int) ≤ (i : Int) := by omega
  have hmx : us.length ≤ maxLen := by unfold maxLen; omega
  have HI := Lib.hid hi
  clear h hi hx
  go_enter Tryd.func11, Tryd.ntmps11
  go_wp2_with (go_at_call 23; refine HN.out.mono ?_; rintro e w' ⟨rfl, rfl⟩)
  refine wp_region_class (C := DK W g gw q s t f l p us 1 i o n x) (by kernel_rfl) (by kernel_rfl) (HK1.out) ?_
  repeat (first
    | go_big_quiet_skip
    | (go_big_quiet_want; go_big_quiet_op; go_big_quiet_on)
    | (go_big_quiet_want; go_big_quiet_op; refine ⟨_, fun _ _ => rfl, ?_⟩; go_big_quiet_on)
    | (go_big_quiet_want
       apply quiet_mk
       · intro u hu
         have a0 := hu.a0; have a1 := hu.a1; have a2 := hu.a2; have a3 := hu.a3; have m5 := hu.m5; have xc := hu.xc
         have HU := Lib.hid hu
         clear hu
         go_simp
         first
           | with_reducible rfl
           | (fail)
       simp only [Act.put, List.setIfInBounds_toArray, List.set_cons_zero, List.set_cons_succ]
       go_big_quiet_on))
  refine wpQuiet_nil ?_
  intro u hu
  have HU := Lib.hid hu
  clear hu
  go_wp2
  go_ret
  exact ⟨rfl, HU.out.mb, But.of_below HU.out.bl⟩
set_option maxHeartbeats 1000000 in
theorem mdo_store (g gw : Nat) (s t f l p : Int) (us : List Nat) (i o n x : Nat) (hl : us.length ≤ 100000) (hi : i < us.length) (hx : us.getD i 0 = x) (W : World) (h : MB g gw s t f l p us W) :
    Calls Tryd.prog 11 #[.pointer (some ⟨g, 0, none⟩), askV 2 i o n] W fun e w' => e = .returned (.int .u64 0) ∧ MB g gw s t f l p (us.set i n) w' ∧ But gw W w' := by
  have HN := Lib.hid (has_any g (some ⟨gw, 0, none⟩) us.length _ i (W.alloc (askRow 2 i o n)) (h.next (ml1 _ _)).r.c5 hl true (by simp; omega))
  obtain ⟨q, hq, hk0⟩ := DK.start W g gw s t f l p us 2 i o n x h hi hx
  have HK := Lib.hid hk0
  clear hk0 hq
  have HK1 := Lib.hid HK.out.drew
  have hi1 : (i : Int) < (us.length : Int) := by omega
  have hi0 : (0 : Int) ≤ (i : Int) := by omega
  have hmx : us.length ≤ maxLen := by unfold maxLen; omega
  have HI := Lib.hid hi
  clear h hi hx
  go_enter Tryd.func11, Tryd.ntmps11
  go_wp2_with (go_at_call 23; refine HN.out.mono ?_; rintro e w' ⟨rfl, rfl⟩)
  refine wp_region_class_tail (C := DK W g gw q s t f l p us 2 i o n x) 9 (by kernel_rfl) (by kernel_rfl) (HK1.out) ?_
  simp only [List.take_succ_cons, List.take_zero, List.drop_succ_cons, List.drop_zero]
  repeat (first
    | go_big_quiet_skip
    | (go_big_quiet_want; go_big_quiet_op; go_big_quiet_on)
    | (go_big_quiet_want; go_big_quiet_op; refine ⟨_, fun _ _ => rfl, ?_⟩; go_big_quiet_on)
    | (go_big_quiet_want
       apply quiet_mk
       · intro u hu
         have a0 := hu.a0; have a1 := hu.a1; have a2 := hu.a2; have a3 := hu.a3; have m5 := hu.m5; have xc := hu.xc
         have HU := Lib.hid hu
         clear hu
         go_simp
         first
           | with_reducible rfl
           | (fail)
       simp only [Act.put, List.setIfInBounds_toArray, List.set_cons_zero, List.set_cons_succ]
       go_big_quiet_on))
  refine wpQuiet_nil ?_
  intro u hu
  have HU := Lib.hid hu
  have xc' := hu.xc
  have fz' := hu.fz
  clear hu
  go_wp2
  go_ret
  exact ⟨rfl, HU.out.mb.set HI.out, (But.of_below HU.out.bl).set _⟩
set_option maxHeartbeats 1000000 in
theorem mdo_casy (g gw : Nat) (s t f l p : Int) (us : List Nat) (i o n x : Nat) (he : x = o) (hl : us.length ≤ 100000) (hi : i < us.length) (hx : us.getD i 0 = x) (W : World) (h : MB g gw s t f l p us W) :
    Calls Tryd.prog 11 #[.pointer (some ⟨g, 0, none⟩), askV 3 i o n] W fun e w' => e = .returned (.int .u64 1) ∧ MB g gw s t f l p (us.set i n) w' ∧ But gw W w' := by
  have e3 : ((x : Int) == (o : Int)) = true := by simp; omega
  have HN := Lib.hid (has_any g (some ⟨gw, 0, none⟩) us.length _ i (W.alloc (askRow 3 i o n)) (h.next (ml1 _ _)).r.c5 hl true (by simp; omega))
  obtain ⟨q, hq, hk0⟩ := DK.start W g gw s t f l p us 3 i o n x h hi hx
  have HK := Lib.hid hk0
  clear hk0 hq
  have HK1 := Lib.hid HK.out.drew
  have hi1 : (i : Int) < (us.length : Int) := by omega
  have hi0 : (0 : Int) ≤ (i : Int) := by omega
  have hmx : us.length ≤ maxLen := by unfold maxLen; omega
  have HI := Lib.hid hi
  clear h hi hx he
  go_enter Tryd.func11, Tryd.ntmps11
  go_wp2_with (go_at_call 23; refine HN.out.mono ?_; rintro e w' ⟨rfl, rfl⟩)
  refine wp_region_class (C := DK W g gw q s t f l p us 3 i o n x) (by kernel_rfl) (by kernel_rfl) (HK1.out) ?_
  repeat (first
    | go_big_quiet_skip
    | (go_big_quiet_want; go_big_quiet_op; go_big_quiet_on)
    | (go_big_quiet_want; go_big_quiet_op; refine ⟨_, fun _ _ => rfl, ?_⟩; go_big_quiet_on)
    | (go_big_quiet_want
       apply quiet_mk
       · intro u hu
         have a0 := hu.a0; have a1 := hu.a1; have a2 := hu.a2; have a3 := hu.a3; have m5 := hu.m5; have xc := hu.xc
         have HU := Lib.hid hu
         clear hu
         go_simp
         first
           | with_reducible rfl
           | (fail)
       simp only [Act.put, List.setIfInBounds_toArray, List.set_cons_zero, List.set_cons_succ]
       go_big_quiet_on))
  refine wpQuiet_nil ?_
  intro u hu
  have HV := Lib.hid hu.drew
  clear hu
  go_wp2
  refine wp_region_class_tail (C := DK W g gw q s t f l p us 3 i o n x) 9 (by kernel_rfl) (by kernel_rfl) (HV.out) ?_
  simp only [List.take_succ_cons, List.take_zero, List.drop_succ_cons, List.drop_zero]
  repeat (first
    | go_big_quiet_skip
    | (go_big_quiet_want; go_big_quiet_op; go_big_quiet_on)
    | (go_big_quiet_want; go_big_quiet_op; refine ⟨_, fun _ _ => rfl, ?_⟩; go_big_quiet_on)
    | (go_big_quiet_want
       apply quiet_mk
       · intro u hu
         have a0 := hu.a0; have a1 := hu.a1; have a2 := hu.a2; have a3 := hu.a3; have m5 := hu.m5; have xc := hu.xc
         have HU := Lib.hid hu
         clear hu
         go_simp
         first
           | with_reducible rfl
           | (fail)
       simp only [Act.put, List.setIfInBounds_toArray, List.set_cons_zero, List.set_cons_succ]
       go_big_quiet_on))
  refine wpQuiet_nil ?_
  intro u hu
  have HU := Lib.hid hu
  have xc' := hu.xc
  have fz' := hu.fz
  clear hu
  go_wp2
  go_ret
  exact ⟨rfl, HU.out.mb.set HI.out, (But.of_below HU.out.bl).set _⟩
set_option maxHeartbeats 1000000 in
theorem mdo_casn (g gw : Nat) (s t f l p : Int) (us : List Nat) (i o n x : Nat) (he : x ≠ o) (hl : us.length ≤ 100000) (hi : i < us.length) (hx : us.getD i 0 = x) (W : World) (h : MB g gw s t f l p us W) :
    Calls Tryd.prog 11 #[.pointer (some ⟨g, 0, none⟩), askV 3 i o n] W fun e w' => e = .returned (.int .u64 0) ∧ MB g gw s t f l p us w' ∧ But gw W w' := by
  have e3 : ((x : Int) == (o : Int)) = false := by simp; omega
  have HN := Lib.hid (has_any g (some ⟨gw, 0, none⟩) us.length _ i (W.alloc (askRow 3 i o n)) (h.next (ml1 _ _)).r.c5 hl true (by simp; omega))
  obtain ⟨q, hq, hk0⟩ := DK.start W g gw s t f l p us 3 i o n x h hi hx
  have HK := Lib.hid hk0
  clear hk0 hq
  have HK1 := Lib.hid HK.out.drew
  have hi1 : (i : Int) < (us.length : Int) := by omega
  have hi0 : (0 : Int) ≤ (i : Int) := by omega
  have hmx : us.length ≤ maxLen := by unfold maxLen; omega
  have HI := Lib.hid hi
  clear h hi hx he
  go_enter Tryd.func11, Tryd.ntmps11
  go_wp2_with (go_at_call 23; refine HN.out.mono ?_; rintro e w' ⟨rfl, rfl⟩)
  refine wp_region_class (C := DK W g gw q s t f l p us 3 i o n x) (by kernel_rfl) (by kernel_rfl) (HK1.out) ?_
  repeat (first
    | go_big_quiet_skip
    | (go_big_quiet_want; go_big_quiet_op; go_big_quiet_on)
    | (go_big_quiet_want; go_big_quiet_op; refine ⟨_, fun _ _ => rfl, ?_⟩; go_big_quiet_on)
    | (go_big_quiet_want
       apply quiet_mk
       · intro u hu
         have a0 := hu.a0; have a1 := hu.a1; have a2 := hu.a2; have a3 := hu.a3; have m5 := hu.m5; have xc := hu.xc
         have HU := Lib.hid hu
         clear hu
         go_simp
         first
           | with_reducible rfl
           | (fail)
       simp only [Act.put, List.setIfInBounds_toArray, List.set_cons_zero, List.set_cons_succ]
       go_big_quiet_on))
  refine wpQuiet_nil ?_
  intro u hu
  have HU := Lib.hid hu
  clear hu
  go_wp2
  go_ret
  exact ⟨rfl, HU.out.mb, But.of_below HU.out.bl⟩
set_option maxHeartbeats 1000000 in
theorem mdo_other (g gw : Nat) (s t f l p : Int) (us : List Nat) (k : Int) (i o n x : Nat) (hk : k < 1 ∨ 3 < k) (hl : us.length ≤ 100000) (hi : i < us.length) (hx : us.getD i 0 = x) (W : World) (h : MB g gw s t f l p us W) :
    Calls Tryd.prog 11 #[.pointer (some ⟨g, 0, none⟩), askV k i o n] W fun e w' => e = .returned (.int .u64 0) ∧ MB g gw s t f l p us w' ∧ But gw W w' := by
  have e1 : (k == 1) = false := by simp; omega
  have e2 : (k == 2) = false := by simp; omega
  have e3 : (k == 3) = false := by simp; omega
  have HN := Lib.hid (has_any g (some ⟨gw, 0, none⟩) us.length _ i (W.alloc (askRow k i o n)) (h.next (ml1 _ _)).r.c5 hl true (by simp; omega))
  obtain ⟨q, hq, hk0⟩ := DK.start W g gw s t f l p us k i o n x h hi hx
  have HK := Lib.hid hk0
  clear hk0 hq
  have HK1 := Lib.hid HK.out.drew
  have hi1 : (i : Int) < (us.length : Int) := by omega
  have hi0 : (0 : Int) ≤ (i : Int) := by omega
  have hmx : us.length ≤ maxLen := by unfold maxLen; omega
  have HI := Lib.hid hi
  clear h hi hx hk
  go_enter Tryd.func11, Tryd.ntmps11
  go_wp2_with (go_at_call 23; refine HN.out.mono ?_; rintro e w' ⟨rfl, rfl⟩)
  go_ret
  exact ⟨rfl, HK.out.mb, But.of_below HK.out.bl⟩
theorem mdo_any (g gw : Nat) (s t f l p : Int) (us : List Nat) (k a : Int) (o n : Nat) (hl : us.length ≤ 100000) (W : World) (h : MB g gw s t f l p us W) :
    Calls Tryd.prog 11 #[.pointer (some ⟨g, 0, none⟩), askV k a o n] W fun e w' => e = .returned (.int .u64 (((doF us k a o n).1 : Nat))) ∧ MB g gw s t f l p (doF us k a o n).2 w' ∧ But gw W w' := by
  by_cases ha : 0 ≤ a ∧ a < us.length
  · obtain ⟨i, rfl⟩ : ∃ i : Nat, a = i := ⟨a.toNat, by omega⟩
    have hi : i < us.length := by omega
    have ed : doF us k i o n = if k = 1 then (us.getD i 0, us) else if k = 2 then (0, us.set i n) else if k = 3 then (if us.getD i 0 = o then (1, us.set i n) else (0, us)) else (0, us) := by
      unfold doF; rw [if_pos ha, Int.toNat_natCast]
    rw [ed]
    by_cases k1 : k = 1
    · subst k1; rw [if_pos rfl]; exact mdo_load g gw s t f l p us i o n _ hl hi rfl W h
    · rw [if_neg k1]
      by_cases k2 : k = 2
      · subst k2; rw [if_pos rfl]; exact mdo_store g gw s t f l p us i o n _ hl hi rfl W h
      · rw [if_neg k2]
        by_cases k3 : k = 3
        · subst k3; rw [if_pos rfl]
          by_cases he : us.getD i 0 = o
          · rw [if_pos he]; exact mdo_casy g gw s t f l p us i o n _ he hl hi rfl W h
          · rw [if_neg he]; exact mdo_casn g gw s t f l p us i o n _ he hl hi rfl W h
        · rw [if_neg k3]; exact mdo_other g gw s t f l p us k i o n _ (by omega) hl hi rfl W h
  · have ed : doF us k a o n = (0, us) := by unfold doF; rw [if_neg ha]
    rw [ed]
    exact (mdo_out g _ _ _ k a o n W h.r.c5 hl ha).mono fun e w' ⟨h1, h2⟩ => ⟨h1, h.next h2, But.of_below h2⟩
end Go.Proofs.YtllkbofjegadeaaDoor
