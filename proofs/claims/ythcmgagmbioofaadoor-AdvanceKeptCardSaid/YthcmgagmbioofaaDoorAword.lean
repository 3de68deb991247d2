/- Contracts of package aword, and of the document's answers for it. -/
import Derived.Test.YthcmgagmbioofaaDoorFPut
namespace Go.Proofs.YthcmgagmbioofaaDoor
set_option linter.unusedVariables false
open Go.RowKit

/-! ### Plain numbers -/
theorem aw_state (a : Nat) : M.fget a 0 2 = a % 4 := by simp [M.fget, M.get, M.sz]
theorem aw_epoch (a : Nat) : M.fget a 2 30 = a / 4 % 1073741824 := by simp [M.fget, M.get, M.sz]
theorem aw_tick (a : Nat) (h : a < 18446744073709551616) : M.fget a 32 32 = a / 4294967296 := by
  simp [M.fget, M.get, M.sz]; omega
def awMake (s e t : Nat) : Nat := t % 4294967296 * 4294967296 + e % 1073741824 * 4 + s
theorem awMake_lt (s e t : Nat) (hs : s ≤ 3) : awMake s e t < 18446744073709551616 := by unfold awMake; omega
theorem aw_make (s e t : Nat) (hs : s ≤ 3) : M.fput (M.fput s 2 30 e) 32 32 t = awMake s e t := by
  have h1 : M.fput s 2 30 e = 4294967296 * (s / 4294967296) + (4 * (e % 1073741824) + s % 4) := M.fput_eq s 2 30 e (by omega) (by omega) (by omega)
  have l := M.fput_lt s 2 30 e (by omega)
  have h2 : M.fput (M.fput s 2 30 e) 32 32 t = 18446744073709551616 * (M.fput s 2 30 e / 18446744073709551616) + (4294967296 * (t % 4294967296) + M.fput s 2 30 e % 4294967296) := M.fput_eq (M.fput s 2 30 e) 32 32 t (by omega) (by omega) l
  unfold awMake
  rw [h2]
  omega
theorem aw_evict (a : Nat) (h : a < 18446744073709551616) : M.fput a 0 2 2 = a - a % 4 + 2 := by
  have h1 : M.fput a 0 2 2 = 4 * (a / 4) + (1 * (2 % 4) + a % 1) := M.fput_eq a 0 2 2 (by omega) (by omega) h
  omega

/-! ### The program's -/
theorem astate_any (a : Nat) (h : a < 18446744073709551616) (W : World) :
    Calls Tryd.prog 69 #[.int .u64 a] W fun e w' => e = .returned (.int .i64 (a % 4 : Nat)) ∧ ∃ n, w' = W.drewN n := by
  have c : ∀ W : World, Calls Tryd.prog 75 #[.int .u64 a, .int .i64 0, .int .i64 2] W fun e w' => e = .returned (.int .u64 (a % 4 : Nat)) ∧ ∃ n, w' = W.drewN n := fun W => by
    have := get_any a h 0 2 W; rw [aw_state] at this; exact this
  have C := Lib.hid c
  clear c
  go_enter Tryd.func69, Tryd.ntmps69
  go_wp2_with (go_at_call 75; refine (C.out _).mono ?_; rintro e w' ⟨rfl, n, rfl⟩)
  go_ret
  exact ⟨ret_i (by omega), _, rfl⟩
theorem aepoch_any (a : Nat) (h : a < 18446744073709551616) (W : World) :
    Calls Tryd.prog 70 #[.int .u64 a] W fun e w' => e = .returned (.int .u64 (a / 4 % 1073741824 : Nat)) ∧ ∃ n, w' = W.drewN n := by
  have c : ∀ W : World, Calls Tryd.prog 75 #[.int .u64 a, .int .i64 2, .int .i64 30] W fun e w' => e = .returned (.int .u64 (a / 4 % 1073741824 : Nat)) ∧ ∃ n, w' = W.drewN n := fun W => by
    have := get_any a h 2 30 W; rw [aw_epoch] at this; exact this
  have C := Lib.hid c
  clear c
  go_enter Tryd.func70, Tryd.ntmps70
  go_wp2_with (go_at_call 75; refine (C.out _).mono ?_; rintro e w' ⟨rfl, n, rfl⟩)
  go_ret
  exact ⟨rfl, _, rfl⟩
theorem atick_any (a : Nat) (h : a < 18446744073709551616) (W : World) :
    Calls Tryd.prog 71 #[.int .u64 a] W fun e w' => e = .returned (.int .u64 (a / 4294967296 : Nat)) ∧ ∃ n, w' = W.drewN n := by
  have c : ∀ W : World, Calls Tryd.prog 75 #[.int .u64 a, .int .i64 32, .int .i64 32] W fun e w' => e = .returned (.int .u64 (a / 4294967296 : Nat)) ∧ ∃ n, w' = W.drewN n := fun W => by
    have := get_any a h 32 32 W; rw [aw_tick a h] at this; exact this
  have C := Lib.hid c
  clear c
  go_enter Tryd.func71, Tryd.ntmps71
  go_wp2_with (go_at_call 75; refine (C.out _).mono ?_; rintro e w' ⟨rfl, n, rfl⟩)
  go_ret
  exact ⟨rfl, _, rfl⟩
theorem aevict_any (a : Nat) (h : a < 18446744073709551616) (W : World) :
    Calls Tryd.prog 32 #[.int .u64 a] W fun e w' => e = .returned (.int .u64 (a - a % 4 + 2 : Nat)) ∧ W = w' := by
  have c : ∀ W : World, Calls Tryd.prog 54 #[.int .u64 a, .int .i64 0, .int .i64 2, .int .u64 2] W fun e w' => e = .returned (.int .u64 (a - a % 4 + 2 : Nat)) ∧ W = w' := fun W => by
    have := put_any a 2 h (by omega) 0 2 W; rw [aw_evict a h] at this; exact this
  have C := Lib.hid c
  clear c
  go_enter Tryd.func32, Tryd.ntmps32
  go_wp2_with (go_at_call 54; refine (C.out _).mono ?_; rintro e w' ⟨rfl, rfl⟩)
  go_ret
  exact ⟨rfl, rfl⟩
/-- Which announcements keep an epoch from going on. -/
def awBlocks (a e : Nat) : Bool := decide (a % 4 = 1 ∧ a / 4 % 1073741824 ≠ e % 1073741824)
theorem ablocks_any (a e : Nat) (ha : a < 18446744073709551616) (he : e < 18446744073709551616) (W : World) :
    Calls Tryd.prog 58 #[.int .u64 a, .int .u64 e] W fun e' w' => e' = .returned (.bool (awBlocks a e)) ∧ ∃ n, w' = W.drewN n := by
  have c1 : ∀ W : World, Calls Tryd.prog 68 #[.int .i64 30] W fun e' w' => e' = .returned (.int .u64 (M.mask 30)) ∧ W = w' := fun W => mask_any 30 W
  have C1 := Lib.hid c1
  clear c1
  have hm : bits .and .u64 (e : Int) (M.mask 30 : Nat) = (e % 1073741824 : Nat) := M.and_mask e 30 he (by omega)
  by_cases h1 : a % 4 = 1
  · have hs : ∀ W : World, Calls Tryd.prog 69 #[.int .u64 a] W fun e w' => e = .returned (.int .i64 1) ∧ ∃ n, w' = W.drewN n := fun W => by
      have := astate_any a ha W; rw [h1] at this; exact this
    have HS := Lib.hid hs
    clear hs
    have hr : awBlocks a e = (((a / 4 % 1073741824 : Nat) : Int) != ((e % 1073741824 : Nat) : Int)) := by
      unfold awBlocks
      by_cases k : a / 4 % 1073741824 = e % 1073741824
      · rw [k]; simp
      · simp [h1, k]; omega
    rw [hr]
    have HM := Lib.hid hm
    clear hm hr h1
    have E := aepoch_any a ha
    generalize a / 4 % 1073741824 = x at E ⊢
    generalize e % 1073741824 = y at HM ⊢
    have E := Lib.hid E
    go_enter Tryd.func58, Tryd.ntmps58
    go_wp2_with (first | (go_at_call 69; refine (HS.out _).mono ?_; rintro e w' ⟨rfl, n, rfl⟩) | (go_at_call 70; refine (E.out _).mono ?_; rintro e w' ⟨rfl, n, rfl⟩) | (go_at_call 68; refine (C1.out _).mono ?_; rintro e w' ⟨rfl, rfl⟩))
    go_ret
    exact ⟨ret_b (by rw [HM.out]), _, rfl⟩
  · have hr : awBlocks a e = false := by unfold awBlocks; simp [h1]
    rw [hr]
    have hq : a % 4 = 0 ∨ a % 4 = 2 ∨ a % 4 = 3 := by omega
    clear h1 hr hm
    rcases hq with h1 | h1 | h1
    all_goals
      have hs := astate_any a ha
      rw [h1] at hs
      simp only [Int.cast_ofNat_Int] at hs
      have HS := Lib.hid hs
      clear hs h1
      go_enter Tryd.func58, Tryd.ntmps58
      go_wp2_with (go_at_call 69; refine (HS.out _).mono ?_; rintro e w' ⟨rfl, n, rfl⟩)
      go_ret
      exact ⟨rfl, _, rfl⟩

/-- Which were made long ago. -/
def awStalled (a c : Nat) (p : Int) : Bool := decide (1 ≤ p ∧ p ≤ (((c + 18446744073709551616 - a / 4294967296) % 4294967296 : Nat) : Int))
theorem stalled_code (c t : Nat) (hc : c < 18446744073709551616) (ht : t < 18446744073709551616) :
    bits .and .u64 (IntKind.u64.wrap ((c : Int) - t)) (M.mask 32 : Nat) = ((c + 18446744073709551616 - t) % 4294967296 : Nat) := by
  have e : IntKind.u64.wrap ((c : Int) - t) = (((c + 18446744073709551616 - t) % 18446744073709551616 : Nat) : Int) := by
    rw [IntKind.wrap_u64]; omega
  rw [e, M.and_mask _ 32 (by omega) (by omega)]
  have e2 : (2 : Nat) ^ 32 = 4294967296 := rfl
  rw [e2]
  omega
theorem astalled_any (a c : Nat) (p : Int) (ha : a < 18446744073709551616) (hc : c < 18446744073709551616) (hp : p ≤ 9223372036854775807) (W : World) :
    Calls Tryd.prog 59 #[.int .u64 a, .int .u64 c, .int .i64 p] W fun e' w' => e' = .returned (.bool (awStalled a c p)) ∧ ∃ n, w' = W.drewN n := by
  by_cases h1 : p < 1
  · have hr : awStalled a c p = false := by unfold awStalled; simp; omega
    rw [hr]
    clear hr
    go_enter Tryd.func59, Tryd.ntmps59
    go_wp2
    go_ret
    exact ⟨rfl, 0, rfl⟩
  · have c1 : ∀ W : World, Calls Tryd.prog 68 #[.int .i64 32] W fun e' w' => e' = .returned (.int .u64 (M.mask 32)) ∧ W = w' := fun W => mask_any 32 W
    have C1 := Lib.hid c1
    clear c1
    have hm := stalled_code c (a / 4294967296) hc (by omega)
    have hr : awStalled a c p = decide (p ≤ (((c + 18446744073709551616 - a / 4294967296) % 4294967296 : Nat) : Int)) := by
      unfold awStalled
      congr 1
      simp; omega
    rw [hr]
    have E := atick_any a ha
    have ht : a / 4294967296 < 4294967296 := by omega
    generalize (c + 18446744073709551616 - a / 4294967296) % 4294967296 = y at hm ⊢
    have HM := Lib.hid hm
    clear hm hr
    generalize a / 4294967296 = x at E HM ht ⊢
    have HE := Lib.hid E
    clear E
    go_enter Tryd.func59, Tryd.ntmps59
    go_wp2_with (first | (go_at_call 71; refine (HE.out _).mono ?_; rintro e w' ⟨rfl, n, rfl⟩) | (go_at_call 68; refine (C1.out _).mono ?_; rintro e w' ⟨rfl, rfl⟩))
    go_ret
    exact ⟨ret_b (by rw [HM.out]), _, rfl⟩

/-! ### The document's -/
theorem rastate_any (a : Nat) (h : a < 18446744073709551616) (W : World) :
    Calls Tryd.prog 47 #[.int .u64 a] W fun e w' => e = .returned (.int .i64 (a % 4 : Nat)) ∧ W = w' := by
  go_enter Tryd.func47, Tryd.ntmps47
  go_wp2
  go_ret
  exact ⟨ret_i (by omega), rfl⟩
theorem raepoch_any (a : Nat) (h : a < 18446744073709551616) (W : World) :
    Calls Tryd.prog 48 #[.int .u64 a] W fun e w' => e = .returned (.int .u64 (a / 4 % 1073741824 : Nat)) ∧ W = w' := by
  go_enter Tryd.func48, Tryd.ntmps48
  go_wp2
  go_ret
  exact ⟨ret_i (by omega), rfl⟩
theorem ratick_any (a : Nat) (h : a < 18446744073709551616) (W : World) :
    Calls Tryd.prog 49 #[.int .u64 a] W fun e w' => e = .returned (.int .u64 (a / 4294967296 : Nat)) ∧ W = w' := by
  go_enter Tryd.func49, Tryd.ntmps49
  go_wp2
  go_ret
  exact ⟨ret_i (by omega), rfl⟩
theorem raevict_any (a : Nat) (h : a < 18446744073709551616) (W : World) :
    Calls Tryd.prog 27 #[.int .u64 a] W fun e w' => e = .returned (.int .u64 (a - a % 4 + 2 : Nat)) ∧ W = w' := by
  go_enter Tryd.func27, Tryd.ntmps27
  go_wp2
  go_ret
  exact ⟨ret_i (by omega), rfl⟩
theorem rablocks_any (a e : Nat) (ha : a < 18446744073709551616) (he : e < 18446744073709551616) (W : World) :
    Calls Tryd.prog 25 #[.int .u64 a, .int .u64 e] W fun e' w' => e' = .returned (.bool (awBlocks a e)) ∧ W = w' := by
  by_cases h1 : a % 4 = 1
  · have hs := rastate_any a ha
    rw [h1] at hs
    have HS := Lib.hid hs
    have E := Lib.hid (raepoch_any a ha)
    have hr : awBlocks a e = (((a / 4 % 1073741824 : Nat) : Int) != ((e % 1073741824 : Nat) : Int)) := by
      unfold awBlocks
      by_cases k : a / 4 % 1073741824 = e % 1073741824
      · rw [k]; simp
      · simp [h1, k]; omega
    rw [hr]
    clear hs h1 hr
    go_enter Tryd.func25, Tryd.ntmps25
    go_wp2_with (first | (go_at_call 47; refine (HS.out _).mono ?_; rintro e w' ⟨rfl, rfl⟩) | (go_at_call 48; refine (E.out _).mono ?_; rintro e w' ⟨rfl, rfl⟩))
    go_ret
    exact ⟨rfl, rfl⟩
  · have hr : awBlocks a e = false := by unfold awBlocks; simp [h1]
    rw [hr]
    have HS := Lib.hid (rastate_any a ha)
    have hq : (((a % 4 : Nat) : Int) == 1) = false := by simp; omega
    have hq2 : ((a : Int) % 4 == 1) = false := by simp; omega
    clear h1 hr
    go_enter Tryd.func25, Tryd.ntmps25
    go_wp2_with (go_at_call 47; refine (HS.out _).mono ?_; rintro e w' ⟨rfl, rfl⟩)
    go_ret
    exact ⟨rfl, rfl⟩
theorem rastalled_any (a c : Nat) (p : Int) (ha : a < 18446744073709551616) (hc : c < 18446744073709551616) (hp : p ≤ 9223372036854775807) (W : World) :
    Calls Tryd.prog 26 #[.int .u64 a, .int .u64 c, .int .i64 p] W fun e' w' => e' = .returned (.bool (awStalled a c p)) ∧ W = w' := by
  by_cases h1 : p < 1
  · have hr : awStalled a c p = false := by unfold awStalled; simp; omega
    rw [hr]
    clear hr
    go_enter Tryd.func26, Tryd.ntmps26
    go_wp2
    go_ret
    exact ⟨rfl, rfl⟩
  · have E := Lib.hid (ratick_any a ha)
    by_cases h2 : (c : Int) % 4294967296 < (a : Int) / 4294967296
    all_goals
      go_enter Tryd.func26, Tryd.ntmps26
      go_wp2_with (go_at_call 49; refine (E.out _).mono ?_; rintro e w' ⟨rfl, rfl⟩)
      go_ret
      exact ⟨ret_b (by unfold awStalled; rw [decide_eq_decide]; omega), rfl⟩
end Go.Proofs.YthcmgagmbioofaaDoor
