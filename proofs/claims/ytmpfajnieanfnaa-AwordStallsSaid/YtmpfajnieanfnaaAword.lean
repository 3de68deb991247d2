/- Contracts of package aword, and of the document's answers for it. -/
import Derived.Test.YtmpfajnieanfnaaFPut
namespace Go.Proofs.Ytmpfajnieanfnaa
set_option linter.unusedVariables false
open Go.RowKit

/-! ### Plain numbers -/
theorem aw_state (a : Nat) : M.fget a 0 2 = a % 4 := by simp [M.fget, M.get, M.sz]
theorem aw_epoch (a : Nat) : M.fget a 2 30 = a / 4 % 1073741824 := by simp [M.fget, M.get, M.sz]
theorem aw_tick (a : Nat) (h : a < 18446744073709551616) : M.fget a 32 32 = a / 4294967296 := by
  simp [M.fget, M.get, M.sz]; omega
def awMake (s e t : Nat) : Nat := t % 4294967296 * 4294967296 + e % 1073741824 * 4 + s
theorem awMake_lt (s e t : Nat) (hs : s ≤ 3) : awMake s e t < 18446744073709551616 := by unfold awMake; omega
theorem aw_make (s e t : Nat) (hs : s ≤ 3) : M.fput (M.fput s 2 30 e) 32 32 t = awMake s e t := by
  have h1 : M.fput s 2 30 e = 4294967296 * (s / 4294967296) + (4 * (e % 1073741824) + s % 4) := M.fput_eq s 2 30 e (by omega) (by omega) (by omega)
  have l := M.fput_lt s 2 30 e (by omega)
  have h2 : M.fput (M.fput s 2 30 e) 32 32 t = 18446744073709551616 * (M.fput s 2 30 e / 18446744073709551616) + (4294967296 * (t % 4294967296) + M.fput s 2 30 e % 4294967296) := M.fput_eq (M.fput s 2 30 e) 32 32 t (by omega) (by omega) l
  unfold awMake
  rw [h2]
  omega
theorem aw_evict (a : Nat) (h : a < 18446744073709551616) : M.fput a 0 2 2 = a - a % 4 + 2 := by
  have h1 : M.fput a 0 2 2 = 4 * (a / 4) + (1 * (2 % 4) + a % 1) := M.fput_eq a 0 2 2 (by omega) (by omega) h
  omega

/-! ### The program's -/
theorem aname_0 (W : World) : Calls Try.prog 49 #[.int .i64 0] W fun e w' => e = .returned (.string { data := #[105, 100, 108, 101] }) ∧ W = w' := by
  go_enter Try.func49, Try.ntmps49
  go_wp2
  go_ret
  exact ⟨rfl, rfl⟩
theorem aname_1 (W : World) : Calls Try.prog 49 #[.int .i64 1] W fun e w' => e = .returned (.string { data := #[97, 110, 110, 111, 117, 110, 99, 101, 100] }) ∧ W = w' := by
  go_enter Try.func49, Try.ntmps49
  go_wp2
  go_ret
  exact ⟨rfl, rfl⟩
theorem aname_2 (W : World) : Calls Try.prog 49 #[.int .i64 2] W fun e w' => e = .returned (.string { data := #[101, 118, 105, 99, 116, 101, 100] }) ∧ W = w' := by
  go_enter Try.func49, Try.ntmps49
  go_wp2
  go_ret
  exact ⟨rfl, rfl⟩
theorem aname_3 (W : World) : Calls Try.prog 49 #[.int .i64 3] W fun e w' => e = .returned (.string { data := #[115, 108, 111, 119] }) ∧ W = w' := by
  go_enter Try.func49, Try.ntmps49
  go_wp2
  go_ret
  exact ⟨rfl, rfl⟩
theorem aname_none (n : Int) (h : n < 0 ∨ 3 < n) (W : World) : Calls Try.prog 49 #[.int .i64 n] W fun e w' => e = .returned (.string { data := #[] }) ∧ W = w' := by
  have h0 : (n == 0) = false := by simp; omega
  have h1 : (n == 1) = false := by simp; omega
  have h2 : (n == 2) = false := by simp; omega
  have h3 : (n == 3) = false := by simp; omega
  clear h
  go_enter Try.func49, Try.ntmps49
  go_wp2
  go_ret
  exact ⟨rfl, rfl⟩
theorem astate_any (a : Nat) (h : a < 18446744073709551616) (W : World) :
    Calls Try.prog 36 #[.int .u64 a] W fun e w' => e = .returned (.int .i64 (a % 4 : Nat)) ∧ ∃ n, w' = W.drewN n := by
  have c : ∀ W : World, Calls Try.prog 66 #[.int .u64 a, .int .i64 0, .int .i64 2] W fun e w' => e = .returned (.int .u64 (a % 4 : Nat)) ∧ ∃ n, w' = W.drewN n := fun W => by
    have := get_any a h 0 2 W; rw [aw_state] at this; exact this
  have C := Lib.hid c
  clear c
  go_enter Try.func36, Try.ntmps36
  go_wp2_with (go_at_call 66; refine (C.out _).mono ?_; rintro e w' ⟨rfl, n, rfl⟩)
  go_ret
  exact ⟨ret_i (by omega), _, rfl⟩
theorem aepoch_any (a : Nat) (h : a < 18446744073709551616) (W : World) :
    Calls Try.prog 38 #[.int .u64 a] W fun e w' => e = .returned (.int .u64 (a / 4 % 1073741824 : Nat)) ∧ ∃ n, w' = W.drewN n := by
  have c : ∀ W : World, Calls Try.prog 66 #[.int .u64 a, .int .i64 2, .int .i64 30] W fun e w' => e = .returned (.int .u64 (a / 4 % 1073741824 : Nat)) ∧ ∃ n, w' = W.drewN n := fun W => by
    have := get_any a h 2 30 W; rw [aw_epoch] at this; exact this
  have C := Lib.hid c
  clear c
  go_enter Try.func38, Try.ntmps38
  go_wp2_with (go_at_call 66; refine (C.out _).mono ?_; rintro e w' ⟨rfl, n, rfl⟩)
  go_ret
  exact ⟨rfl, _, rfl⟩
theorem atick_any (a : Nat) (h : a < 18446744073709551616) (W : World) :
    Calls Try.prog 40 #[.int .u64 a] W fun e w' => e = .returned (.int .u64 (a / 4294967296 : Nat)) ∧ ∃ n, w' = W.drewN n := by
  have c : ∀ W : World, Calls Try.prog 66 #[.int .u64 a, .int .i64 32, .int .i64 32] W fun e w' => e = .returned (.int .u64 (a / 4294967296 : Nat)) ∧ ∃ n, w' = W.drewN n := fun W => by
    have := get_any a h 32 32 W; rw [aw_tick a h] at this; exact this
  have C := Lib.hid c
  clear c
  go_enter Try.func40, Try.ntmps40
  go_wp2_with (go_at_call 66; refine (C.out _).mono ?_; rintro e w' ⟨rfl, n, rfl⟩)
  go_ret
  exact ⟨rfl, _, rfl⟩
theorem aevict_any (a : Nat) (h : a < 18446744073709551616) (W : World) :
    Calls Try.prog 42 #[.int .u64 a] W fun e w' => e = .returned (.int .u64 (a - a % 4 + 2 : Nat)) ∧ W = w' := by
  have c : ∀ W : World, Calls Try.prog 64 #[.int .u64 a, .int .i64 0, .int .i64 2, .int .u64 2] W fun e w' => e = .returned (.int .u64 (a - a % 4 + 2 : Nat)) ∧ W = w' := fun W => by
    have := put_any a 2 h (by omega) 0 2 W; rw [aw_evict a h] at this; exact this
  have C := Lib.hid c
  clear c
  go_enter Try.func42, Try.ntmps42
  go_wp2_with (go_at_call 64; refine (C.out _).mono ?_; rintro e w' ⟨rfl, rfl⟩)
  go_ret
  exact ⟨rfl, rfl⟩
theorem amake_of (s e t : Nat) (str : ByteArray) (hs : s ≤ 3) (he : e < 18446744073709551616) (ht : t < 18446744073709551616)
    (hN : ∀ W : World, Calls Try.prog 49 #[.int .i64 s] W fun e w' => e = .returned (.string str) ∧ W = w') (hE : str.toList.isEmpty = false) (hE2 : (!str.toList.isEmpty) = true) (W : World) :
    Calls Try.prog 34 #[.int .i64 s, .int .u64 e, .int .u64 t] W fun e' w' => e' = .returned (.int .u64 (awMake s e t)) ∧ W = w' := by
  have c1 : ∀ W : World, Calls Try.prog 64 #[.int .u64 s, .int .i64 2, .int .i64 30, .int .u64 e] W fun e' w' => e' = .returned (.int .u64 (M.fput s 2 30 e)) ∧ W = w' := fun W => put_any s e (by omega) he 2 30 W
  have c2 : ∀ W : World, Calls Try.prog 64 #[.int .u64 (M.fput s 2 30 e : Nat), .int .i64 32, .int .i64 32, .int .u64 t] W fun e' w' => e' = .returned (.int .u64 (awMake s e t)) ∧ W = w' := fun W => by
    have := put_any (M.fput s 2 30 e) t (M.fput_lt s 2 30 e (by omega)) ht 32 32 W
    rw [aw_make s e t hs] at this; exact this
  have C1 := Lib.hid c1
  have C2 := Lib.hid c2
  have C0 := Lib.hid hN
  clear c1 c2 hN
  go_enter Try.func34, Try.ntmps34
  go_wp2_with (first | (go_at_call 49; refine (C0.out _).mono ?_; rintro e w' ⟨rfl, rfl⟩) | (go_at_call 64; first | ((with_reducible refine (C1.out _).mono ?_); rintro e w' ⟨rfl, rfl⟩) | ((with_reducible refine (C2.out _).mono ?_); rintro e w' ⟨rfl, rfl⟩)))
  go_ret
  exact ⟨rfl, rfl⟩
theorem amake_in (s e t : Nat) (hs : s ≤ 3) (he : e < 18446744073709551616) (ht : t < 18446744073709551616) (W : World) :
    Calls Try.prog 34 #[.int .i64 s, .int .u64 e, .int .u64 t] W fun e' w' => e' = .returned (.int .u64 (awMake s e t)) ∧ W = w' := by
  obtain rfl | rfl | rfl | rfl : s = 0 ∨ s = 1 ∨ s = 2 ∨ s = 3 := by omega
  · exact amake_of 0 e t _ (by omega) he ht aname_0 (by decide +kernel) (by decide +kernel) W
  · exact amake_of 1 e t _ (by omega) he ht aname_1 (by decide +kernel) (by decide +kernel) W
  · exact amake_of 2 e t _ (by omega) he ht aname_2 (by decide +kernel) (by decide +kernel) W
  · exact amake_of 3 e t _ (by omega) he ht aname_3 (by decide +kernel) (by decide +kernel) W
theorem amake_out (s : Int) (e t : Nat) (hs : s < 0 ∨ 3 < s) (W : World) :
    Calls Try.prog 34 #[.int .i64 s, .int .u64 e, .int .u64 t] W fun e' w' => e' = .returned (.int .u64 0) ∧ W = w' := by
  go_enter Try.func34, Try.ntmps34
  go_wp2_with (go_at_call 49; refine (aname_none _ hs _).mono ?_; rintro e w' ⟨rfl, rfl⟩)
  go_ret
  exact ⟨rfl, rfl⟩

/-- Which announcements keep an epoch from going on. -/
def awBlocks (a e : Nat) : Bool := decide (a % 4 = 1 ∧ a / 4 % 1073741824 ≠ e % 1073741824)
theorem ablocks_any (a e : Nat) (ha : a < 18446744073709551616) (he : e < 18446744073709551616) (W : World) :
    Calls Try.prog 45 #[.int .u64 a, .int .u64 e] W fun e' w' => e' = .returned (.bool (awBlocks a e)) ∧ ∃ n, w' = W.drewN n := by
  have c1 : ∀ W : World, Calls Try.prog 70 #[.int .i64 30] W fun e' w' => e' = .returned (.int .u64 (M.mask 30)) ∧ W = w' := fun W => mask_any 30 W
  have C1 := Lib.hid c1
  clear c1
  have hm : bits .and .u64 (e : Int) (M.mask 30 : Nat) = (e % 1073741824 : Nat) := M.and_mask e 30 he (by omega)
  by_cases h1 : a % 4 = 1
  · have hs : ∀ W : World, Calls Try.prog 36 #[.int .u64 a] W fun e w' => e = .returned (.int .i64 1) ∧ ∃ n, w' = W.drewN n := fun W => by
      have := astate_any a ha W; rw [h1] at this; exact this
    have HS := Lib.hid hs
    clear hs
    have hr : awBlocks a e = (((a / 4 % 1073741824 : Nat) : Int) != ((e % 1073741824 : Nat) : Int)) := by
      unfold awBlocks
      by_cases k : a / 4 % 1073741824 = e % 1073741824
      · rw [k]; simp
      · simp [h1, k]; omega
    rw [hr]
    have HM := Lib.hid hm
    clear hm hr h1
    have E := aepoch_any a ha
    generalize a / 4 % 1073741824 = x at E ⊢
    generalize e % 1073741824 = y at HM ⊢
    have E := Lib.hid E
    go_enter Try.func45, Try.ntmps45
    go_wp2_with (first | (go_at_call 36; refine (HS.out _).mono ?_; rintro e w' ⟨rfl, n, rfl⟩) | (go_at_call 38; refine (E.out _).mono ?_; rintro e w' ⟨rfl, n, rfl⟩) | (go_at_call 70; refine (C1.out _).mono ?_; rintro e w' ⟨rfl, rfl⟩))
    go_ret
    exact ⟨ret_b (by rw [HM.out]), _, rfl⟩
  · have hr : awBlocks a e = false := by unfold awBlocks; simp [h1]
    rw [hr]
    have hq : a % 4 = 0 ∨ a % 4 = 2 ∨ a % 4 = 3 := by omega
    clear h1 hr hm
    rcases hq with h1 | h1 | h1
    all_goals
      have hs := astate_any a ha
      rw [h1] at hs
      simp only [Int.cast_ofNat_Int] at hs
      have HS := Lib.hid hs
      clear hs h1
      go_enter Try.func45, Try.ntmps45
      go_wp2_with (go_at_call 36; refine (HS.out _).mono ?_; rintro e w' ⟨rfl, n, rfl⟩)
      go_ret
      exact ⟨rfl, _, rfl⟩

/-- Which were made long ago. -/
def awStalled (a c : Nat) (p : Int) : Bool := decide (1 ≤ p ∧ p ≤ (((c + 18446744073709551616 - a / 4294967296) % 4294967296 : Nat) : Int))
theorem stalled_code (c t : Nat) (hc : c < 18446744073709551616) (ht : t < 18446744073709551616) :
    bits .and .u64 (IntKind.u64.wrap ((c : Int) - t)) (M.mask 32 : Nat) = ((c + 18446744073709551616 - t) % 4294967296 : Nat) := by
  have e : IntKind.u64.wrap ((c : Int) - t) = (((c + 18446744073709551616 - t) % 18446744073709551616 : Nat) : Int) := by
    rw [IntKind.wrap_u64]; omega
  rw [e, M.and_mask _ 32 (by omega) (by omega)]
  have e2 : (2 : Nat) ^ 32 = 4294967296 := rfl
  rw [e2]
  omega
theorem astalled_any (a c : Nat) (p : Int) (ha : a < 18446744073709551616) (hc : c < 18446744073709551616) (hp : p ≤ 9223372036854775807) (W : World) :
    Calls Try.prog 47 #[.int .u64 a, .int .u64 c, .int .i64 p] W fun e' w' => e' = .returned (.bool (awStalled a c p)) ∧ ∃ n, w' = W.drewN n := by
  by_cases h1 : p < 1
  · have hr : awStalled a c p = false := by unfold awStalled; simp; omega
    rw [hr]
    clear hr
    go_enter Try.func47, Try.ntmps47
    go_wp2
    go_ret
    exact ⟨rfl, 0, rfl⟩
  · have c1 : ∀ W : World, Calls Try.prog 70 #[.int .i64 32] W fun e' w' => e' = .returned (.int .u64 (M.mask 32)) ∧ W = w' := fun W => mask_any 32 W
    have C1 := Lib.hid c1
    clear c1
    have hm := stalled_code c (a / 4294967296) hc (by omega)
    have hr : awStalled a c p = decide (p ≤ (((c + 18446744073709551616 - a / 4294967296) % 4294967296 : Nat) : Int)) := by
      unfold awStalled
      congr 1
      simp; omega
    rw [hr]
    have E := atick_any a ha
    have ht : a / 4294967296 < 4294967296 := by omega
    generalize (c + 18446744073709551616 - a / 4294967296) % 4294967296 = y at hm ⊢
    have HM := Lib.hid hm
    clear hm hr
    generalize a / 4294967296 = x at E HM ht ⊢
    have HE := Lib.hid E
    clear E
    go_enter Try.func47, Try.ntmps47
    go_wp2_with (first | (go_at_call 40; refine (HE.out _).mono ?_; rintro e w' ⟨rfl, n, rfl⟩) | (go_at_call 70; refine (C1.out _).mono ?_; rintro e w' ⟨rfl, rfl⟩))
    go_ret
    exact ⟨ret_b (by rw [HM.out]), _, rfl⟩

/-! ### The document's -/
theorem rastate_any (a : Nat) (h : a < 18446744073709551616) (W : World) :
    Calls Try.prog 37 #[.int .u64 a] W fun e w' => e = .returned (.int .i64 (a % 4 : Nat)) ∧ W = w' := by
  go_enter Try.func37, Try.ntmps37
  go_wp2
  go_ret
  exact ⟨ret_i (by omega), rfl⟩
theorem raepoch_any (a : Nat) (h : a < 18446744073709551616) (W : World) :
    Calls Try.prog 39 #[.int .u64 a] W fun e w' => e = .returned (.int .u64 (a / 4 % 1073741824 : Nat)) ∧ W = w' := by
  go_enter Try.func39, Try.ntmps39
  go_wp2
  go_ret
  exact ⟨ret_i (by omega), rfl⟩
theorem ratick_any (a : Nat) (h : a < 18446744073709551616) (W : World) :
    Calls Try.prog 41 #[.int .u64 a] W fun e w' => e = .returned (.int .u64 (a / 4294967296 : Nat)) ∧ W = w' := by
  go_enter Try.func41, Try.ntmps41
  go_wp2
  go_ret
  exact ⟨ret_i (by omega), rfl⟩
theorem raevict_any (a : Nat) (h : a < 18446744073709551616) (W : World) :
    Calls Try.prog 43 #[.int .u64 a] W fun e w' => e = .returned (.int .u64 (a - a % 4 + 2 : Nat)) ∧ W = w' := by
  go_enter Try.func43, Try.ntmps43
  go_wp2
  go_ret
  exact ⟨ret_i (by omega), rfl⟩
theorem ramake_in (s e t : Nat) (hs : s ≤ 3) (he : e < 18446744073709551616) (ht : t < 18446744073709551616) (W : World) :
    Calls Try.prog 35 #[.int .i64 s, .int .u64 e, .int .u64 t] W fun e' w' => e' = .returned (.int .u64 (awMake s e t)) ∧ W = w' := by
  go_enter Try.func35, Try.ntmps35
  go_wp2
  go_ret
  exact ⟨ret_i (by unfold awMake; omega), rfl⟩
theorem ramake_out (s : Int) (e t : Nat) (hs : s < 0 ∨ 3 < s) (W : World) :
    Calls Try.prog 35 #[.int .i64 s, .int .u64 e, .int .u64 t] W fun e' w' => e' = .returned (.int .u64 0) ∧ W = w' := by
  rcases hs with hs | hs
  all_goals
    go_enter Try.func35, Try.ntmps35
    go_wp2
    go_ret
    exact ⟨rfl, rfl⟩
theorem rablocks_any (a e : Nat) (ha : a < 18446744073709551616) (he : e < 18446744073709551616) (W : World) :
    Calls Try.prog 46 #[.int .u64 a, .int .u64 e] W fun e' w' => e' = .returned (.bool (awBlocks a e)) ∧ W = w' := by
  by_cases h1 : a % 4 = 1
  · have hs := rastate_any a ha
    rw [h1] at hs
    have HS := Lib.hid hs
    have E := Lib.hid (raepoch_any a ha)
    have hr : awBlocks a e = (((a / 4 % 1073741824 : Nat) : Int) != ((e % 1073741824 : Nat) : Int)) := by
      unfold awBlocks
      by_cases k : a / 4 % 1073741824 = e % 1073741824
      · rw [k]; simp
      · simp [h1, k]; omega
    rw [hr]
    clear hs h1 hr
    go_enter Try.func46, Try.ntmps46
    go_wp2_with (first | (go_at_call 37; refine (HS.out _).mono ?_; rintro e w' ⟨rfl, rfl⟩) | (go_at_call 39; refine (E.out _).mono ?_; rintro e w' ⟨rfl, rfl⟩))
    go_ret
    exact ⟨rfl, rfl⟩
  · have hr : awBlocks a e = false := by unfold awBlocks; simp [h1]
    rw [hr]
    have HS := Lib.hid (rastate_any a ha)
    have hq : (((a % 4 : Nat) : Int) == 1) = false := by simp; omega
    have hq2 : ((a : Int) % 4 == 1) = false := by simp; omega
    clear h1 hr
    go_enter Try.func46, Try.ntmps46
    go_wp2_with (go_at_call 37; refine (HS.out _).mono ?_; rintro e w' ⟨rfl, rfl⟩)
    go_ret
    exact ⟨rfl, rfl⟩
theorem rastalled_any (a c : Nat) (p : Int) (ha : a < 18446744073709551616) (hc : c < 18446744073709551616) (hp : p ≤ 9223372036854775807) (W : World) :
    Calls Try.prog 48 #[.int .u64 a, .int .u64 c, .int .i64 p] W fun e' w' => e' = .returned (.bool (awStalled a c p)) ∧ W = w' := by
  by_cases h1 : p < 1
  · have hr : awStalled a c p = false := by unfold awStalled; simp; omega
    rw [hr]
    clear hr
    go_enter Try.func48, Try.ntmps48
    go_wp2
    go_ret
    exact ⟨rfl, rfl⟩
  · have E := Lib.hid (ratick_any a ha)
    by_cases h2 : (c : Int) % 4294967296 < (a : Int) / 4294967296
    all_goals
      go_enter Try.func48, Try.ntmps48
      go_wp2_with (go_at_call 41; refine (E.out _).mono ?_; rintro e w' ⟨rfl, rfl⟩)
      go_ret
      exact ⟨ret_b (by unfold awStalled; rw [decide_eq_decide]; omega), rfl⟩
end Go.Proofs.Ytmpfajnieanfnaa
