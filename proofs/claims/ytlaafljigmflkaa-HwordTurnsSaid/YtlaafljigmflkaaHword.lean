/- Contracts of package hword, and of the document's answers for it. -/
import Derived.Test.YtlaafljigmflkaaFPut
import Derived.Below
import Derived.Laws.AppendOwn
namespace Go.Proofs.Ytlaafljigmflkaa
set_option linter.unusedVariables false
open Go.RowKit

/-! ### Plain numbers -/
theorem hw_slot (w : Nat) : M.fget w 0 16 = w % 65536 := by simp [M.fget, M.get, M.sz]
theorem hw_tag (w : Nat) (h : w < 18446744073709551616) : M.fget w 16 48 = w / 65536 := by
  simp [M.fget, M.get, M.sz]; omega
def hwMake (t : Nat) (s : Int) : Nat := t % 281474976710656 * 65536 + (if 0 ≤ s ∧ s ≤ 65535 then s.toNat else 0)
theorem hwMake_lt (t : Nat) (s : Int) : hwMake t s < 18446744073709551616 := by unfold hwMake; split <;> omega
theorem hw_make (s t : Nat) (hs : s ≤ 65535) : M.fput s 16 48 t = hwMake t s := by
  have h1 : M.fput s 16 48 t = 18446744073709551616 * (s / 18446744073709551616) + (65536 * (t % 281474976710656) + s % 65536) := M.fput_eq s 16 48 t (by omega) (by omega) (by omega)
  unfold hwMake
  rw [h1, if_pos (by omega)]
  omega
theorem grown_trans {a b c : World} (h : Grown a b) (k : Grown b c) : Grown a c :=
  ⟨World.keptBut_trans h.1 k.1, fun x => (k.2.1 x).trans (h.2.1 x), Nat.le_trans h.2.2 k.2.2⟩

/-! ### The program's -/
theorem hmake_any (t : Nat) (s : Int) (ht : t < 18446744073709551616) (W : World) :
    Calls Try.prog 5 #[.int .u64 t, .int .i64 s] W fun e w' => e = .returned (.int .u64 (hwMake t s)) ∧ W = w' := by
  by_cases h : 0 ≤ s ∧ s ≤ 65535
  · obtain ⟨n, rfl⟩ : ∃ n : Nat, s = n := ⟨s.toNat, by omega⟩
    have hn : n ≤ 65535 := by omega
    clear h
    have c := fun W => put_any n t (by omega) ht 16 48 W
    rw [hw_make n t hn] at c
    have C := Lib.hid c
    clear c
    go_enter Try.func5, Try.ntmps5
    go_wp2_with (go_at_call 16; refine (C.out _).mono ?_; rintro e w' ⟨rfl, rfl⟩)
    go_ret
    exact ⟨rfl, rfl⟩
  · have c : ∀ W : World, Calls Try.prog 16 #[.int .u64 0, .int .i64 16, .int .i64 48, .int .u64 t] W fun e w' => e = .returned (.int .u64 (hwMake t s)) ∧ W = w' := fun W => by
      have h1 := put_any 0 t (by omega) ht 16 48 W
      rw [hw_make 0 t (by omega)] at h1
      have e : hwMake t s = hwMake t (0 : Nat) := by unfold hwMake; rw [if_neg h, if_pos (by omega)]; rfl
      rw [e]; exact h1
    have C := Lib.hid c
    have h0 : s < 0 ∨ 65535 < s := by omega
    clear c h
    rcases h0 with h0 | h0
    all_goals
      go_enter Try.func5, Try.ntmps5
      go_wp2_with (go_at_call 16; refine (C.out _).mono ?_; rintro e w' ⟨rfl, rfl⟩)
      go_ret
      exact ⟨rfl, rfl⟩
theorem hslot_any (w : Nat) (h : w < 18446744073709551616) (W : World) :
    Calls Try.prog 7 #[.int .u64 w] W fun e w' => e = .returned (.int .i64 (w % 65536 : Nat)) ∧ ∃ n, w' = W.drewN n := by
  have c : ∀ W : World, Calls Try.prog 17 #[.int .u64 w, .int .i64 0, .int .i64 16] W fun e w' => e = .returned (.int .u64 (w % 65536 : Nat)) ∧ ∃ n, w' = W.drewN n := fun W => by
    have := get_any w h 0 16 W; rw [hw_slot] at this; exact this
  have C := Lib.hid c
  clear c
  go_enter Try.func7, Try.ntmps7
  go_wp2_with (go_at_call 17; refine (C.out _).mono ?_; rintro e w' ⟨rfl, n, rfl⟩)
  go_ret
  exact ⟨ret_i (by omega), _, rfl⟩
theorem htag_any (w : Nat) (h : w < 18446744073709551616) (W : World) :
    Calls Try.prog 9 #[.int .u64 w] W fun e w' => e = .returned (.int .u64 (w / 65536 : Nat)) ∧ ∃ n, w' = W.drewN n := by
  have c : ∀ W : World, Calls Try.prog 17 #[.int .u64 w, .int .i64 16, .int .i64 48] W fun e w' => e = .returned (.int .u64 (w / 65536 : Nat)) ∧ ∃ n, w' = W.drewN n := fun W => by
    have := get_any w h 16 48 W; rw [hw_tag w h] at this; exact this
  have C := Lib.hid c
  clear c
  go_enter Try.func9, Try.ntmps9
  go_wp2_with (go_at_call 17; refine (C.out _).mono ?_; rintro e w' ⟨rfl, n, rfl⟩)
  go_ret
  exact ⟨rfl, _, rfl⟩
def hwTurn (w : Nat) (s : Int) : Nat := hwMake (w / 65536 + 1) s
theorem hturn_any (w : Nat) (s : Int) (h : w < 18446744073709551616) (W : World) :
    Calls Try.prog 12 #[.int .u64 w, .int .i64 s] W fun e w' => e = .returned (.int .u64 (hwTurn w s)) ∧ ∃ n, w' = W.drewN n := by
  have T := htag_any w h
  have c := fun W => hmake_any (w / 65536 + 1) s (by omega) W
  have hl : w / 65536 < 281474976710656 := by omega
  unfold hwTurn
  generalize w / 65536 = t at T c hl ⊢
  have T := Lib.hid T
  have c : ∀ W : World, Calls Try.prog 5 #[.int .u64 ((t : Int) + 1), .int .i64 s] W fun e w' => e = .returned (.int .u64 (hwMake (t + 1) s)) ∧ W = w' := c
  have C := Lib.hid c
  clear c
  go_enter Try.func12, Try.ntmps12
  go_wp2_with (first | (go_at_call 9; refine (T.out _).mono ?_; rintro e w' ⟨rfl, n, rfl⟩) | (go_at_call 5; refine (C.out _).mono ?_; rintro e w' ⟨rfl, rfl⟩))
  go_ret
  exact ⟨rfl, _, rfl⟩
theorem hof_any (w : Nat) (h : w < 18446744073709551616) (W : World) :
    Calls Try.prog 11 #[.int .u64 w] W fun e w' => e = .returned (.agg #[.int .u64 (w / 65536 : Nat), .int .i64 (w % 65536 : Nat)]) ∧ Grown W w' := by
  have T := htag_any w h
  have S := hslot_any w h
  generalize w / 65536 = t at T ⊢
  generalize w % 65536 = s at S ⊢
  have T := Lib.hid T
  have S := Lib.hid S
  go_enter Try.func11, Try.ntmps11
  go_wp2_with (first | (go_at_call 9; refine (T.out _).mono ?_; rintro e w' ⟨rfl, n, rfl⟩) | (go_at_call 7; refine (S.out _).mono ?_; rintro e w' ⟨rfl, n, rfl⟩))
  exact bodyPost_ret (v := .agg #[.int .u64 t, .int .i64 s]) (by simp [results, Try.results11, go_sem]) rfl ⟨rfl, ((grown_drewN ((Grown.refl _).alloc _ _) _).setCell (Nat.le_refl _) _).setCell (Nat.le_refl _) _⟩

/-! ### The document's -/
theorem rhmake_any (t : Nat) (s : Int) (ht : t < 18446744073709551616) (W : World) :
    Calls Try.prog 6 #[.int .u64 t, .int .i64 s] W fun e w' => e = .returned (.int .u64 (hwMake t s)) ∧ W = w' := by
  by_cases h : 0 ≤ s ∧ s ≤ 65535
  · obtain ⟨n, rfl⟩ : ∃ n : Nat, s = n := ⟨s.toNat, by omega⟩
    have hn : n ≤ 65535 := by omega
    clear h
    go_enter Try.func6, Try.ntmps6
    go_wp2
    go_ret
    exact ⟨ret_i (by unfold hwMake; rw [if_pos (by omega)]; omega), rfl⟩
  · have h0 : s < 0 ∨ 65535 < s := by omega
    have e := Lib.hid h
    clear h
    rcases h0 with h0 | h0
    all_goals
      go_enter Try.func6, Try.ntmps6
      go_wp2
      go_ret
      exact ⟨ret_i (by unfold hwMake; rw [if_neg e.out]; omega), rfl⟩
theorem rhslot_any (w : Nat) (h : w < 18446744073709551616) (W : World) :
    Calls Try.prog 8 #[.int .u64 w] W fun e w' => e = .returned (.int .i64 (w % 65536 : Nat)) ∧ W = w' := by
  go_enter Try.func8, Try.ntmps8
  go_wp2
  go_ret
  exact ⟨ret_i (by omega), rfl⟩
theorem rhtag_any (w : Nat) (h : w < 18446744073709551616) (W : World) :
    Calls Try.prog 10 #[.int .u64 w] W fun e w' => e = .returned (.int .u64 (w / 65536 : Nat)) ∧ W = w' := by
  go_enter Try.func10, Try.ntmps10
  go_wp2
  go_ret
  exact ⟨ret_i (by omega), rfl⟩
theorem rhturn_any (w : Nat) (s : Int) (h : w < 18446744073709551616) (W : World) :
    Calls Try.prog 13 #[.int .u64 w, .int .i64 s] W fun e w' => e = .returned (.int .u64 (hwTurn w s)) ∧ W = w' := by
  have T := rhtag_any w h
  have c := fun W => rhmake_any (w / 65536 + 1) s (by omega) W
  have hl : w / 65536 < 281474976710656 := by omega
  unfold hwTurn
  generalize w / 65536 = t at T c hl ⊢
  have T := Lib.hid T
  have c : ∀ W : World, Calls Try.prog 6 #[.int .u64 ((t : Int) + 1), .int .i64 s] W fun e w' => e = .returned (.int .u64 (hwMake (t + 1) s)) ∧ W = w' := c
  have C := Lib.hid c
  clear c
  go_enter Try.func13, Try.ntmps13
  go_wp2_with (first | (go_at_call 10; refine (T.out _).mono ?_; rintro e w' ⟨rfl, rfl⟩) | (go_at_call 6; refine (C.out _).mono ?_; rintro e w' ⟨rfl, rfl⟩))
  go_ret
  exact ⟨rfl, rfl⟩

/-! ### Chapter 6's example -/
theorem awake6_any (W : World) :
    Calls Try.prog 14 #[] W fun e w' => e = .returned (.bool true) ∧ Grown W w' := by
  have C1 := Lib.hid (show ∀ W : World, Calls Try.prog 5 #[.int .u64 3, .int .i64 5] W fun e w' => e = .returned (.int .u64 196613) ∧ W = w' from fun W => hmake_any 3 5 (by omega) W)
  have C2 := Lib.hid (show ∀ W : World, Calls Try.prog 12 #[.int .u64 196613, .int .i64 7] W fun e w' => e = .returned (.int .u64 262151) ∧ ∃ n, w' = W.drewN n from fun W => hturn_any 196613 7 (by omega) W)
  have C3 := Lib.hid (show ∀ W : World, Calls Try.prog 11 #[.int .u64 262151] W fun e w' => e = .returned (.agg #[.int .u64 4, .int .i64 7]) ∧ Grown W w' from fun W => hof_any 262151 (by omega) W)
  go_enter Try.func14, Try.ntmps14
  go_wp2_with (first | (go_at_call 5; refine (C1.out _).mono ?_; rintro e w' ⟨rfl, rfl⟩) | (go_at_call 12; refine (C2.out _).mono ?_; rintro e w' ⟨rfl, n, rfl⟩) | (go_at_call 11; refine (C3.out _).mono ?_; rintro e w1 ⟨rfl, g1⟩))
  go_ret
  exact ⟨rfl, grown_trans (grown_drewN (Grown.refl _) _) g1⟩
end Go.Proofs.Ytlaafljigmflkaa
