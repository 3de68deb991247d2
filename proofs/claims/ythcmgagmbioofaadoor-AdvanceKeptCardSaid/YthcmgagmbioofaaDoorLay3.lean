/- layout.ofThread, ofSlot, At. -/
import Derived.Test.YthcmgagmbioofaaDoorLay2
namespace Go.Proofs.YthcmgagmbioofaaDoor
set_option linter.unusedVariables false
open Go.RowKit Go.Extern.Stop Go.Stop Go.Extern

theorem below2d (W : World) (a b : Obj) : Below W.heap.size W ((W.alloc a).alloc b).drew := (below2 W a b).drew
set_option maxHeartbeats 1000000 in
theorem ofThread_any (s t f l p k o i : Int) (h : okL s t f l p) (hk : 4 ≤ k) (hk2 : k ≤ 5) (W : World) :
    Calls Tryd.prog 52 #[layV s t f l p, placeV k o i] W fun e w' => e = .returned (.int .i64 (atL s t f k o i)) ∧ Below W.heap.size W w' := by
  have hb := h.bd
  obtain ⟨⟨b1, b2⟩, ⟨b3, b4⟩, b5, b6⟩ := hb
  clear h
  unfold atL
  rw [if_neg (by omega)]
  by_cases ho : 0 ≤ o ∧ o < t
  · obtain ⟨ho1, ho2⟩ := ho
    obtain rfl | rfl : k = 4 ∨ k = 5 := by omega
    · rw [if_pos rfl]
      by_cases hi : i = 0
      · subst hi
        rw [if_neg (by omega)]
        clear hk hk2
        go_enter Tryd.func52, Tryd.ntmps52
        go_wp2
        go_ret
        exact ⟨rfl, below2 _ _ _⟩
      · rw [if_pos (by omega)]
        have i0 : (i == 0) = false := by simp; omega
        clear hk hk2 hi
        go_enter Tryd.func52, Tryd.ntmps52
        go_wp2
        go_ret
        exact ⟨rfl, below2 _ _ _⟩
    · rw [if_neg (by omega), if_pos rfl]
      clear hk hk2
      by_cases hi : 0 ≤ i ∧ i < 2
      · obtain ⟨hi1, hi2⟩ := hi
        rw [if_neg (by omega)]
        have HH := Lib.hid (hazards_any s t f l p b3 b4)
        have k : K8 W.heap.size W W.heap.size s t f l p (W.heap.size + 1) 5 o i ((W.alloc (.cells #[.int .i64 s, .int .i64 t, .int .i64 f, .int .i64 l, .int .i64 p] 27)).alloc (.cells #[.int .i64 5, .int .i64 o, .int .i64 i] 67)).drew := ⟨⟨by simp, by simp, by simp, by simp, by simp, below2d _ _ _, by simp; omega⟩, by simp, by simp, by simp⟩
        have HK := Lib.hid k
        clear k
        have e1 : IntKind.i64.wrap (o * 2) = o * 2 := IntWalk.i64_in _ (by omega)
        have e2 : IntKind.i64.wrap (3 + t + o * 2) = 3 + t + o * 2 := IntWalk.i64_in _ (by omega)
        have e3 : IntKind.i64.wrap (3 + t + o * 2 + i) = 3 + t + o * 2 + i := IntWalk.i64_in _ (by omega)
        have E1 := Lib.hid e1
        have E2 := Lib.hid e2
        have E3 := Lib.hid e3
        clear e1 e2 e3
        go_enter Tryd.func52, Tryd.ntmps52
        go_wp2
        have e1 := E1.out
        have e2 := E2.out
        have e3 := E3.out
        refine wp_region_class (C := K8 W.heap.size W W.heap.size s t f l p (W.heap.size + 1) 5 o i) (by kernel_rfl) (by kernel_rfl) (HK.out) ?_
        repeat (first
          | go_big_quiet_skip
          | (go_big_quiet_want; go_big_quiet_op; go_big_quiet_on)
          | (go_big_quiet_want; go_big_quiet_op; refine ⟨_, fun _ _ => rfl, ?_⟩; go_big_quiet_on)
          | (go_big_quiet_want
             apply quiet_mk
             · intro u hu
               have c0 := hu.c0; have c1 := hu.c1; have c2 := hu.c2; have c3 := hu.c3; have c4 := hu.c4; have d0 := hu.d0; have d1 := hu.d1; have d2 := hu.d2
               have HU := Lib.hid hu
               clear hu
               go_simp
               first
                 | with_reducible rfl
                 | (go_at_call 63; refine (HH.out _).mono ?_; rintro e w' ⟨rfl, hn⟩; exact ⟨rfl, HU.out.next hn⟩)
             simp only [Act.put, List.setIfInBounds_toArray, List.set_cons_zero, List.set_cons_succ]
             go_big_quiet_on))
        refine wpQuiet_nil ?_
        intro u hu
        clear e1 e2 e3
        go_wp2
        go_ret
        exact ⟨rfl, hu.bl⟩
      · rw [if_pos (by omega)]
        have hi2 : i < 0 ∨ 2 ≤ i := by omega
        clear hi
        rcases hi2 with hi | hi
        all_goals
          go_enter Tryd.func52, Tryd.ntmps52
          go_wp2
          go_ret
          exact ⟨rfl, below2 _ _ _⟩
  · have e : (if k = 4 then (if o < 0 ∨ t ≤ o ∨ i ≠ 0 then (-1 : Int) else 3 + o) else if k = 5 then (if o < 0 ∨ t ≤ o ∨ i < 0 ∨ 2 ≤ i then -1 else 3 + t + o * 2 + i) else if 6 ≤ k ∧ k ≤ 10 then (if s = 0 ∨ o < 0 ∨ s < o ∨ i < 0 ∨ (if k = 9 ∨ k = 10 then f else 1) ≤ i then -1 else 3 + t + 2 * t + o * (3 + 2 * f) + inL f k + i) else -1) = -1 := by
      obtain rfl | rfl : k = 4 ∨ k = 5 := by omega
      · rw [if_pos rfl, if_pos (by omega)]
      · rw [if_neg (by omega), if_pos rfl, if_pos (by omega)]
    rw [e]
    have ho2 : o < 0 ∨ t ≤ o := by omega
    clear ho e
    rcases ho2 with ho | ho
    all_goals
      go_enter Tryd.func52, Tryd.ntmps52
      go_wp2
      go_ret
      exact ⟨rfl, below2 _ _ _⟩
/-- How many words of a kind a slot has. -/
def manyL (f k : Int) : Int := if k = 9 ∨ k = 10 then f else 1
set_option maxHeartbeats 2000000 in
theorem ofSlot_any (s t f l p k o i : Int) (h : okL s t f l p) (hk : 6 ≤ k) (hk2 : k ≤ 10) (W : World) :
    Calls Tryd.prog 53 #[layV s t f l p, placeV k o i] W fun e w' => e = .returned (.int .i64 (atL s t f k o i)) ∧ Below W.heap.size W w' := by
  have hb := h.bd
  obtain ⟨⟨b1, b2⟩, ⟨b3, b4⟩, b5, b6⟩ := hb
  unfold atL
  rw [if_neg (by omega), if_neg (by omega), if_neg (by omega), if_pos ⟨hk, hk2⟩]
  by_cases ho : s ≠ 0 ∧ 0 ≤ o ∧ o ≤ s
  · obtain ⟨hs, ho1, ho2⟩ := ho
    have hs1 : 1 ≤ s := by omega
    have s0 : (s == 0) = false := by simp; omega
    have S0 := Lib.hid s0
    clear s0
    by_cases hi : 0 ≤ i ∧ i < (if k = 9 ∨ k = 10 then f else 1)
    · obtain ⟨hi1, hi2⟩ := hi
      rw [if_neg (by omega)]
      have hi64 : i < 64 := by split at hi2 <;> omega
      have HS := Lib.hid (slots_any s t f l p b3 b4)
      have HW := Lib.hid (width_any s t f l p b5 b6)
      have HI := Lib.hid (in_any s t f l p k b5 b6 hk hk2)
      have hin : 0 ≤ inL f k ∧ inL f k ≤ 67 := by unfold inL; repeat' split <;> omega
      obtain ⟨m1, m2⟩ := mul_bd (a := o) (b := 3 + 2 * f) (x := 1000) (y := 131) (by omega) (by omega) (by omega) (by omega) (by omega)
      have e1 : IntKind.i64.wrap (o * (3 + 2 * f)) = o * (3 + 2 * f) := IntWalk.i64_in _ (by omega)
      have e2 : IntKind.i64.wrap (3 + t + 2 * t + o * (3 + 2 * f)) = 3 + t + 2 * t + o * (3 + 2 * f) := IntWalk.i64_in _ (by omega)
      have e3 : IntKind.i64.wrap (3 + t + 2 * t + o * (3 + 2 * f) + inL f k) = 3 + t + 2 * t + o * (3 + 2 * f) + inL f k := IntWalk.i64_in _ (by omega)
      have e4 : IntKind.i64.wrap (3 + t + 2 * t + o * (3 + 2 * f) + inL f k + i) = 3 + t + 2 * t + o * (3 + 2 * f) + inL f k + i := IntWalk.i64_in _ (by omega)
      generalize inL f k = n at HI hin e3 e4 ⊢
      have E1 := Lib.hid e1
      have E2 := Lib.hid e2
      have E3 := Lib.hid e3
      have E4 := Lib.hid e4
      clear e1 e2 e3 e4 hin
      obtain rfl | rfl | rfl | rfl | rfl : k = 6 ∨ k = 7 ∨ k = 8 ∨ k = 9 ∨ k = 10 := by omega
      all_goals
        simp only [Int.reduceEq, or_false, or_true, if_true, if_false] at hi2
        clear hk hk2
        have s0 := S0.out
        go_enter Tryd.func53, Tryd.ntmps53
        go_wp2
        clear s0
        have e1 := E1.out
        have e2 := E2.out
        have e3 := E3.out
        have e4 := E4.out
        refine wp_region_class (C := K8 W.heap.size W W.heap.size s t f l p (W.heap.size + 1) _ o i) (by kernel_rfl) (by kernel_rfl) (⟨⟨by simp, by simp, by simp, by simp, by simp, below2d _ _ _, by simp; omega⟩, by simp; rfl, by simp, by simp⟩) ?_
        repeat (first
          | go_big_quiet_skip
          | (go_big_quiet_want; go_big_quiet_op; go_big_quiet_on)
          | (go_big_quiet_want; go_big_quiet_op; refine ⟨_, fun _ _ => rfl, ?_⟩; go_big_quiet_on)
          | (go_big_quiet_want
             apply quiet_mk
             · intro u hu
               have c0 := hu.c0; have c1 := hu.c1; have c2 := hu.c2; have c3 := hu.c3; have c4 := hu.c4; have d0 := hu.d0; have d1 := hu.d1; have d2 := hu.d2
               have HU := Lib.hid hu
               clear hu
               go_simp
               first
                 | with_reducible rfl
                 | (go_at_call 64; refine (HS.out _).mono ?_; rintro e w' ⟨rfl, hn⟩; exact ⟨rfl, HU.out.next hn⟩) | (go_at_call 65; refine (HW.out _).mono ?_; rintro e w' ⟨rfl, hn⟩; exact ⟨rfl, HU.out.next hn⟩) | (go_at_call 66; refine (HI.out _).mono ?_; rintro e w' ⟨rfl, hn⟩; exact ⟨rfl, HU.out.next hn⟩)
             simp only [Act.put, List.setIfInBounds_toArray, List.set_cons_zero, List.set_cons_succ]
             go_big_quiet_on))
        refine wpQuiet_nil ?_
        intro u hu
        clear e1 e2 e3 e4
        go_wp2
        go_ret
        exact ⟨rfl, hu.bl⟩
    · rw [if_pos (by omega)]
      have hi2 : i < 0 ∨ manyL f k ≤ i := by unfold manyL; omega
      clear hi
      rcases hi2 with hi | hi
      all_goals
        obtain rfl | rfl | rfl | rfl | rfl : k = 6 ∨ k = 7 ∨ k = 8 ∨ k = 9 ∨ k = 10 := by omega
        all_goals
          try simp only [manyL, Int.reduceEq, or_false, or_true, if_true, if_false] at hi
          clear hk hk2
          have s0 := S0.out
          go_enter Tryd.func53, Tryd.ntmps53
          go_wp2
          go_ret
          exact ⟨rfl, below2 _ _ _⟩
  · rw [if_pos (by omega)]
    rcases h with ⟨⟨h1, h2⟩, ⟨h3, h4⟩, ⟨h5, h6⟩, h7, h8⟩ | ⟨rfl, rfl, rfl, rfl, rfl⟩
    · have ho2 : o < 0 ∨ s < o := by omega
      have s0 : (s == 0) = false := by simp; omega
      clear ho
      rcases ho2 with ho | ho
      all_goals
        go_enter Tryd.func53, Tryd.ntmps53
        go_wp2
        go_ret
        exact ⟨rfl, below2 _ _ _⟩
    · clear ho
      go_enter Tryd.func53, Tryd.ntmps53
      go_wp2
      go_ret
      exact ⟨rfl, below2 _ _ _⟩
set_option maxHeartbeats 1000000 in
theorem at_any (s t f l p k o i : Int) (h : okL s t f l p) (W : World) :
    Calls Tryd.prog 31 #[layV s t f l p, placeV k o i] W fun e w' => e = .returned (.int .i64 (atL s t f k o i)) ∧ Below W.heap.size W w' := by
  by_cases hk : 1 ≤ k ∧ k ≤ 10
  · have A := fun h1 h2 => first_any s t f l p k o i h h1 h2
    have B := fun h1 h2 => ofThread_any s t f l p k o i h h1 h2
    have C := fun h1 h2 => ofSlot_any s t f l p k o i h h1 h2
    generalize atL s t f k o i = r at A B C ⊢
    have A := Lib.hid A
    have B := Lib.hid B
    have C := Lib.hid C
    have hb2 := Lib.hid (below2 W)
    obtain rfl | rfl | rfl | rfl | rfl | rfl | rfl | rfl | rfl | rfl : k = 1 ∨ k = 2 ∨ k = 3 ∨ k = 4 ∨ k = 5 ∨ k = 6 ∨ k = 7 ∨ k = 8 ∨ k = 9 ∨ k = 10 := by omega
    all_goals
      clear hk h
      go_enter Tryd.func31, Tryd.ntmps31
      go_wp2_with (first | (go_at_call 51; refine (A.out (by omega) (by omega) _).mono ?_; rintro e w1 ⟨rfl, h1⟩) | (go_at_call 52; refine (B.out (by omega) (by omega) _).mono ?_; rintro e w1 ⟨rfl, h1⟩) | (go_at_call 53; refine (C.out (by omega) (by omega) _).mono ?_; rintro e w1 ⟨rfl, h1⟩))
      go_ret
      exact ⟨rfl, (hb2.out _ _).trans (h1.mono (by simp; omega))⟩
  · have e : atL s t f k o i = -1 := by unfold atL; rw [if_neg (by omega), if_neg (by omega), if_neg (by omega), if_neg (by omega)]
    rw [e]
    have k1 : (k == 1) = false := by simp; omega
    have k2 : (k == 2) = false := by simp; omega
    have k3 : (k == 3) = false := by simp; omega
    have k4 : (k == 4) = false := by simp; omega
    have k5 : (k == 5) = false := by simp; omega
    have k6 : (k == 6) = false := by simp; omega
    have k7 : (k == 7) = false := by simp; omega
    have k8 : (k == 8) = false := by simp; omega
    have k9 : (k == 9) = false := by simp; omega
    have k10 : (k == 10) = false := by simp; omega
    clear hk e h
    go_enter Tryd.func31, Tryd.ntmps31
    go_wp2
    go_ret
    exact ⟨rfl, below2 _ _ _⟩
end Go.Proofs.YthcmgagmbioofaaDoor
