/- Contracts of package hword, and of the document's answers for it. -/
import Derived.Test.YtfejkcbdbkpnfaaDoorFPut
import Derived.Below
import Derived.Laws.AppendOwn
namespace Go.Proofs.YtfejkcbdbkpnfaaDoor
set_option linter.unusedVariables false
open Go.RowKit

/-! ### Plain numbers -/
theorem hw_slot (w : Nat) : M.fget w 0 16 = w % 65536 := by simp [M.fget, M.get, M.sz]
theorem hw_tag (w : Nat) (h : w < 18446744073709551616) : M.fget w 16 48 = w / 65536 := by
  simp [M.fget, M.get, M.sz]; omega
def hwMake (t : Nat) (s : Int) : Nat := t % 281474976710656 * 65536 + (if 0 ≤ s ∧ s ≤ 65535 then s.toNat else 0)
theorem hwMake_lt (t : Nat) (s : Int) : hwMake t s < 18446744073709551616 := by unfold hwMake; split <;> omega
theorem hw_make (s t : Nat) (hs : s ≤ 65535) : M.fput s 16 48 t = hwMake t s := by
  have h1 : M.fput s 16 48 t = 18446744073709551616 * (s / 18446744073709551616) + (65536 * (t % 281474976710656) + s % 65536) := M.fput_eq s 16 48 t (by omega) (by omega) (by omega)
  unfold hwMake
  rw [h1, if_pos (by omega)]
  omega
theorem grown_trans {a b c : World} (h : Grown a b) (k : Grown b c) : Grown a c :=
  ⟨World.keptBut_trans h.1 k.1, fun x => (k.2.1 x).trans (h.2.1 x), Nat.le_trans h.2.2 k.2.2⟩

/-! ### The program's -/
theorem hmake_any (t : Nat) (s : Int) (ht : t < 18446744073709551616) (W : World) :
    Calls Tryd.prog 92 #[.int .u64 t, .int .i64 s] W fun e w' => e = .returned (.int .u64 (hwMake t s)) ∧ W = w' := by
  by_cases h : 0 ≤ s ∧ s ≤ 65535
  · obtain ⟨n, rfl⟩ : ∃ n : Nat, s = n := ⟨s.toNat, by omega⟩
    have hn : n ≤ 65535 := by omega
    clear h
    have c := fun W => put_any n t (by omega) ht 16 48 W
    rw [hw_make n t hn] at c
    have C := Lib.hid c
    clear c
    go_enter Tryd.func92, Tryd.ntmps92
    go_wp2_with (go_at_call 103; refine (C.out _).mono ?_; rintro e w' ⟨rfl, rfl⟩)
    go_ret
    exact ⟨rfl, rfl⟩
  · have c : ∀ W : World, Calls Tryd.prog 103 #[.int .u64 0, .int .i64 16, .int .i64 48, .int .u64 t] W fun e w' => e = .returned (.int .u64 (hwMake t s)) ∧ W = w' := fun W => by
      have h1 := put_any 0 t (by omega) ht 16 48 W
      rw [hw_make 0 t (by omega)] at h1
      have e : hwMake t s = hwMake t (0 : Nat) := by unfold hwMake; rw [if_neg h, if_pos (by omega)]; rfl
      rw [e]; exact h1
    have C := Lib.hid c
    have h0 : s < 0 ∨ 65535 < s := by omega
    clear c h
    rcases h0 with h0 | h0
    all_goals
      go_enter Tryd.func92, Tryd.ntmps92
      go_wp2_with (go_at_call 103; refine (C.out _).mono ?_; rintro e w' ⟨rfl, rfl⟩)
      go_ret
      exact ⟨rfl, rfl⟩
theorem hslot_any (w : Nat) (h : w < 18446744073709551616) (W : World) :
    Calls Tryd.prog 52 #[.int .u64 w] W fun e w' => e = .returned (.int .i64 (w % 65536 : Nat)) ∧ ∃ n, w' = W.drewN n := by
  have c : ∀ W : World, Calls Tryd.prog 91 #[.int .u64 w, .int .i64 0, .int .i64 16] W fun e w' => e = .returned (.int .u64 (w % 65536 : Nat)) ∧ ∃ n, w' = W.drewN n := fun W => by
    have := get_any w h 0 16 W; rw [hw_slot] at this; exact this
  have C := Lib.hid c
  clear c
  go_enter Tryd.func52, Tryd.ntmps52
  go_wp2_with (go_at_call 91; refine (C.out _).mono ?_; rintro e w' ⟨rfl, n, rfl⟩)
  go_ret
  exact ⟨ret_i (by omega), _, rfl⟩
theorem htag_any (w : Nat) (h : w < 18446744073709551616) (W : World) :
    Calls Tryd.prog 93 #[.int .u64 w] W fun e w' => e = .returned (.int .u64 (w / 65536 : Nat)) ∧ ∃ n, w' = W.drewN n := by
  have c : ∀ W : World, Calls Tryd.prog 91 #[.int .u64 w, .int .i64 16, .int .i64 48] W fun e w' => e = .returned (.int .u64 (w / 65536 : Nat)) ∧ ∃ n, w' = W.drewN n := fun W => by
    have := get_any w h 16 48 W; rw [hw_tag w h] at this; exact this
  have C := Lib.hid c
  clear c
  go_enter Tryd.func93, Tryd.ntmps93
  go_wp2_with (go_at_call 91; refine (C.out _).mono ?_; rintro e w' ⟨rfl, n, rfl⟩)
  go_ret
  exact ⟨rfl, _, rfl⟩
def hwTurn (w : Nat) (s : Int) : Nat := hwMake (w / 65536 + 1) s
theorem hturn_any (w : Nat) (s : Int) (h : w < 18446744073709551616) (W : World) :
    Calls Tryd.prog 53 #[.int .u64 w, .int .i64 s] W fun e w' => e = .returned (.int .u64 (hwTurn w s)) ∧ ∃ n, w' = W.drewN n := by
  have T := htag_any w h
  have c := fun W => hmake_any (w / 65536 + 1) s (by omega) W
  have hl : w / 65536 < 281474976710656 := by omega
  unfold hwTurn
  generalize w / 65536 = t at T c hl ⊢
  have T := Lib.hid T
  have c : ∀ W : World, Calls Tryd.prog 92 #[.int .u64 ((t : Int) + 1), .int .i64 s] W fun e w' => e = .returned (.int .u64 (hwMake (t + 1) s)) ∧ W = w' := c
  have C := Lib.hid c
  clear c
  go_enter Tryd.func53, Tryd.ntmps53
  go_wp2_with (first | (go_at_call 93; refine (T.out _).mono ?_; rintro e w' ⟨rfl, n, rfl⟩) | (go_at_call 92; refine (C.out _).mono ?_; rintro e w' ⟨rfl, rfl⟩))
  go_ret
  exact ⟨rfl, _, rfl⟩
/-! ### The document's -/
theorem rhmake_any (t : Nat) (s : Int) (ht : t < 18446744073709551616) (W : World) :
    Calls Tryd.prog 96 #[.int .u64 t, .int .i64 s] W fun e w' => e = .returned (.int .u64 (hwMake t s)) ∧ W = w' := by
  by_cases h : 0 ≤ s ∧ s ≤ 65535
  · obtain ⟨n, rfl⟩ : ∃ n : Nat, s = n := ⟨s.toNat, by omega⟩
    have hn : n ≤ 65535 := by omega
    clear h
    go_enter Tryd.func96, Tryd.ntmps96
    go_wp2
    go_ret
    exact ⟨ret_i (by unfold hwMake; rw [if_pos (by omega)]; omega), rfl⟩
  · have h0 : s < 0 ∨ 65535 < s := by omega
    have e := Lib.hid h
    clear h
    rcases h0 with h0 | h0
    all_goals
      go_enter Tryd.func96, Tryd.ntmps96
      go_wp2
      go_ret
      exact ⟨ret_i (by unfold hwMake; rw [if_neg e.out]; omega), rfl⟩
theorem rhslot_any (w : Nat) (h : w < 18446744073709551616) (W : World) :
    Calls Tryd.prog 61 #[.int .u64 w] W fun e w' => e = .returned (.int .i64 (w % 65536 : Nat)) ∧ W = w' := by
  go_enter Tryd.func61, Tryd.ntmps61
  go_wp2
  go_ret
  exact ⟨ret_i (by omega), rfl⟩
theorem rhtag_any (w : Nat) (h : w < 18446744073709551616) (W : World) :
    Calls Tryd.prog 97 #[.int .u64 w] W fun e w' => e = .returned (.int .u64 (w / 65536 : Nat)) ∧ W = w' := by
  go_enter Tryd.func97, Tryd.ntmps97
  go_wp2
  go_ret
  exact ⟨ret_i (by omega), rfl⟩
theorem rhturn_any (w : Nat) (s : Int) (h : w < 18446744073709551616) (W : World) :
    Calls Tryd.prog 56 #[.int .u64 w, .int .i64 s] W fun e w' => e = .returned (.int .u64 (hwTurn w s)) ∧ W = w' := by
  have T := rhtag_any w h
  have c := fun W => rhmake_any (w / 65536 + 1) s (by omega) W
  have hl : w / 65536 < 281474976710656 := by omega
  unfold hwTurn
  generalize w / 65536 = t at T c hl ⊢
  have T := Lib.hid T
  have c : ∀ W : World, Calls Tryd.prog 96 #[.int .u64 ((t : Int) + 1), .int .i64 s] W fun e w' => e = .returned (.int .u64 (hwMake (t + 1) s)) ∧ W = w' := c
  have C := Lib.hid c
  clear c
  go_enter Tryd.func56, Tryd.ntmps56
  go_wp2_with (first | (go_at_call 97; refine (T.out _).mono ?_; rintro e w' ⟨rfl, rfl⟩) | (go_at_call 96; refine (C.out _).mono ?_; rintro e w' ⟨rfl, rfl⟩))
  go_ret
  exact ⟨rfl, rfl⟩

/-! ### Chapter 6's example -/
end Go.Proofs.YtfejkcbdbkpnfaaDoor
