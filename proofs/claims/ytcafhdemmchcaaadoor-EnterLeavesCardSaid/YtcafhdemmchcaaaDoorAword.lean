/- Contracts of package aword, and of the document's answers for it. -/
import Derived.Test.YtcafhdemmchcaaaDoorFPut
namespace Go.Proofs.YtcafhdemmchcaaaDoor
set_option linter.unusedVariables false
open Go.RowKit

/-! ### Plain numbers -/
theorem aw_state (a : Nat) : M.fget a 0 2 = a % 4 := by simp [M.fget, M.get, M.sz]
theorem aw_epoch (a : Nat) : M.fget a 2 30 = a / 4 % 1073741824 := by simp [M.fget, M.get, M.sz]
theorem aw_tick (a : Nat) (h : a < 18446744073709551616) : M.fget a 32 32 = a / 4294967296 := by
  simp [M.fget, M.get, M.sz]; omega
def awMake (s e t : Nat) : Nat := t % 4294967296 * 4294967296 + e % 1073741824 * 4 + s
theorem awMake_lt (s e t : Nat) (hs : s ≤ 3) : awMake s e t < 18446744073709551616 := by unfold awMake; omega
theorem aw_make (s e t : Nat) (hs : s ≤ 3) : M.fput (M.fput s 2 30 e) 32 32 t = awMake s e t := by
  have h1 : M.fput s 2 30 e = 4294967296 * (s / 4294967296) + (4 * (e % 1073741824) + s % 4) := M.fput_eq s 2 30 e (by omega) (by omega) (by omega)
  have l := M.fput_lt s 2 30 e (by omega)
  have h2 : M.fput (M.fput s 2 30 e) 32 32 t = 18446744073709551616 * (M.fput s 2 30 e / 18446744073709551616) + (4294967296 * (t % 4294967296) + M.fput s 2 30 e % 4294967296) := M.fput_eq (M.fput s 2 30 e) 32 32 t (by omega) (by omega) l
  unfold awMake
  rw [h2]
  omega
theorem aw_evict (a : Nat) (h : a < 18446744073709551616) : M.fput a 0 2 2 = a - a % 4 + 2 := by
  have h1 : M.fput a 0 2 2 = 4 * (a / 4) + (1 * (2 % 4) + a % 1) := M.fput_eq a 0 2 2 (by omega) (by omega) h
  omega

/-! ### The program's -/
theorem aname_0 (W : World) : Calls Tryd.prog 41 #[.int .i64 0] W fun e w' => e = .returned (.string { data := #[105, 100, 108, 101] }) ∧ W = w' := by
  go_enter Tryd.func41, Tryd.ntmps41
  go_wp2
  go_ret
  exact ⟨rfl, rfl⟩
theorem aname_1 (W : World) : Calls Tryd.prog 41 #[.int .i64 1] W fun e w' => e = .returned (.string { data := #[97, 110, 110, 111, 117, 110, 99, 101, 100] }) ∧ W = w' := by
  go_enter Tryd.func41, Tryd.ntmps41
  go_wp2
  go_ret
  exact ⟨rfl, rfl⟩
theorem aname_2 (W : World) : Calls Tryd.prog 41 #[.int .i64 2] W fun e w' => e = .returned (.string { data := #[101, 118, 105, 99, 116, 101, 100] }) ∧ W = w' := by
  go_enter Tryd.func41, Tryd.ntmps41
  go_wp2
  go_ret
  exact ⟨rfl, rfl⟩
theorem aname_3 (W : World) : Calls Tryd.prog 41 #[.int .i64 3] W fun e w' => e = .returned (.string { data := #[115, 108, 111, 119] }) ∧ W = w' := by
  go_enter Tryd.func41, Tryd.ntmps41
  go_wp2
  go_ret
  exact ⟨rfl, rfl⟩
theorem aname_none (n : Int) (h : n < 0 ∨ 3 < n) (W : World) : Calls Tryd.prog 41 #[.int .i64 n] W fun e w' => e = .returned (.string { data := #[] }) ∧ W = w' := by
  have h0 : (n == 0) = false := by simp; omega
  have h1 : (n == 1) = false := by simp; omega
  have h2 : (n == 2) = false := by simp; omega
  have h3 : (n == 3) = false := by simp; omega
  clear h
  go_enter Tryd.func41, Tryd.ntmps41
  go_wp2
  go_ret
  exact ⟨rfl, rfl⟩
theorem astate_any (a : Nat) (h : a < 18446744073709551616) (W : World) :
    Calls Tryd.prog 31 #[.int .u64 a] W fun e w' => e = .returned (.int .i64 (a % 4 : Nat)) ∧ ∃ n, w' = W.drewN n := by
  have c : ∀ W : World, Calls Tryd.prog 43 #[.int .u64 a, .int .i64 0, .int .i64 2] W fun e w' => e = .returned (.int .u64 (a % 4 : Nat)) ∧ ∃ n, w' = W.drewN n := fun W => by
    have := get_any a h 0 2 W; rw [aw_state] at this; exact this
  have C := Lib.hid c
  clear c
  go_enter Tryd.func31, Tryd.ntmps31
  go_wp2_with (go_at_call 43; refine (C.out _).mono ?_; rintro e w' ⟨rfl, n, rfl⟩)
  go_ret
  exact ⟨ret_i (by omega), _, rfl⟩
theorem amake_of (s e t : Nat) (str : ByteArray) (hs : s ≤ 3) (he : e < 18446744073709551616) (ht : t < 18446744073709551616)
    (hN : ∀ W : World, Calls Tryd.prog 41 #[.int .i64 s] W fun e w' => e = .returned (.string str) ∧ W = w') (hE : str.toList.isEmpty = false) (hE2 : (!str.toList.isEmpty) = true) (W : World) :
    Calls Tryd.prog 27 #[.int .i64 s, .int .u64 e, .int .u64 t] W fun e' w' => e' = .returned (.int .u64 (awMake s e t)) ∧ W = w' := by
  have c1 : ∀ W : World, Calls Tryd.prog 42 #[.int .u64 s, .int .i64 2, .int .i64 30, .int .u64 e] W fun e' w' => e' = .returned (.int .u64 (M.fput s 2 30 e)) ∧ W = w' := fun W => put_any s e (by omega) he 2 30 W
  have c2 : ∀ W : World, Calls Tryd.prog 42 #[.int .u64 (M.fput s 2 30 e : Nat), .int .i64 32, .int .i64 32, .int .u64 t] W fun e' w' => e' = .returned (.int .u64 (awMake s e t)) ∧ W = w' := fun W => by
    have := put_any (M.fput s 2 30 e) t (M.fput_lt s 2 30 e (by omega)) ht 32 32 W
    rw [aw_make s e t hs] at this; exact this
  have C1 := Lib.hid c1
  have C2 := Lib.hid c2
  have C0 := Lib.hid hN
  clear c1 c2 hN
  go_enter Tryd.func27, Tryd.ntmps27
  go_wp2_with (first | (go_at_call 41; refine (C0.out _).mono ?_; rintro e w' ⟨rfl, rfl⟩) | (go_at_call 42; first | ((with_reducible refine (C1.out _).mono ?_); rintro e w' ⟨rfl, rfl⟩) | ((with_reducible refine (C2.out _).mono ?_); rintro e w' ⟨rfl, rfl⟩)))
  go_ret
  exact ⟨rfl, rfl⟩
theorem amake_in (s e t : Nat) (hs : s ≤ 3) (he : e < 18446744073709551616) (ht : t < 18446744073709551616) (W : World) :
    Calls Tryd.prog 27 #[.int .i64 s, .int .u64 e, .int .u64 t] W fun e' w' => e' = .returned (.int .u64 (awMake s e t)) ∧ W = w' := by
  obtain rfl | rfl | rfl | rfl : s = 0 ∨ s = 1 ∨ s = 2 ∨ s = 3 := by omega
  · exact amake_of 0 e t _ (by omega) he ht aname_0 (by decide +kernel) (by decide +kernel) W
  · exact amake_of 1 e t _ (by omega) he ht aname_1 (by decide +kernel) (by decide +kernel) W
  · exact amake_of 2 e t _ (by omega) he ht aname_2 (by decide +kernel) (by decide +kernel) W
  · exact amake_of 3 e t _ (by omega) he ht aname_3 (by decide +kernel) (by decide +kernel) W
theorem amake_out (s : Int) (e t : Nat) (hs : s < 0 ∨ 3 < s) (W : World) :
    Calls Tryd.prog 27 #[.int .i64 s, .int .u64 e, .int .u64 t] W fun e' w' => e' = .returned (.int .u64 0) ∧ W = w' := by
  go_enter Tryd.func27, Tryd.ntmps27
  go_wp2_with (go_at_call 41; refine (aname_none _ hs _).mono ?_; rintro e w' ⟨rfl, rfl⟩)
  go_ret
  exact ⟨rfl, rfl⟩

/-- Which announcements keep an epoch from going on. -/
def awBlocks (a e : Nat) : Bool := decide (a % 4 = 1 ∧ a / 4 % 1073741824 ≠ e % 1073741824)
/-- Which were made long ago. -/
def awStalled (a c : Nat) (p : Int) : Bool := decide (1 ≤ p ∧ p ≤ (((c + 18446744073709551616 - a / 4294967296) % 4294967296 : Nat) : Int))
theorem stalled_code (c t : Nat) (hc : c < 18446744073709551616) (ht : t < 18446744073709551616) :
    bits .and .u64 (IntKind.u64.wrap ((c : Int) - t)) (M.mask 32 : Nat) = ((c + 18446744073709551616 - t) % 4294967296 : Nat) := by
  have e : IntKind.u64.wrap ((c : Int) - t) = (((c + 18446744073709551616 - t) % 18446744073709551616 : Nat) : Int) := by
    rw [IntKind.wrap_u64]; omega
  rw [e, M.and_mask _ 32 (by omega) (by omega)]
  have e2 : (2 : Nat) ^ 32 = 4294967296 := rfl
  rw [e2]
  omega
/-! ### The document's -/
theorem rastate_any (a : Nat) (h : a < 18446744073709551616) (W : World) :
    Calls Tryd.prog 32 #[.int .u64 a] W fun e w' => e = .returned (.int .i64 (a % 4 : Nat)) ∧ W = w' := by
  go_enter Tryd.func32, Tryd.ntmps32
  go_wp2
  go_ret
  exact ⟨ret_i (by omega), rfl⟩
theorem ramake_in (s e t : Nat) (hs : s ≤ 3) (he : e < 18446744073709551616) (ht : t < 18446744073709551616) (W : World) :
    Calls Tryd.prog 30 #[.int .i64 s, .int .u64 e, .int .u64 t] W fun e' w' => e' = .returned (.int .u64 (awMake s e t)) ∧ W = w' := by
  go_enter Tryd.func30, Tryd.ntmps30
  go_wp2
  go_ret
  exact ⟨ret_i (by unfold awMake; omega), rfl⟩
theorem ramake_out (s : Int) (e t : Nat) (hs : s < 0 ∨ 3 < s) (W : World) :
    Calls Tryd.prog 30 #[.int .i64 s, .int .u64 e, .int .u64 t] W fun e' w' => e' = .returned (.int .u64 0) ∧ W = w' := by
  rcases hs with hs | hs
  all_goals
    go_enter Tryd.func30, Tryd.ntmps30
    go_wp2
    go_ret
    exact ⟨rfl, rfl⟩
end Go.Proofs.YtcafhdemmchcaaaDoor
