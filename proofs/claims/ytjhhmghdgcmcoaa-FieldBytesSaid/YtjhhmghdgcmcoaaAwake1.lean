/- Chapter 1's examples hold. -/
import Derived.Test.YtjhhmghdgcmcoaaRef01
namespace Go.Proofs.Ytjhhmghdgcmcoaa
set_option linter.unusedVariables false
open Go.RowKit
theorem awake1_any (W : World) :
    Calls Try.prog 15 #[] W fun e w' => e = .returned (.bool true) ∧ ∃ n, w' = W.drewN n := by
  have c1 : ∀ W : World, Calls Try.prog 9 #[.int .u64 171, .int .i64 4, .int .i64 4] W fun e w' => e = .returned (.int .u64 10) ∧ ∃ n, w' = W.drewN n := fun W => get_any 171 (by omega) 4 4 W
  have c2 : ∀ W : World, Calls Try.prog 16 #[.int .u64 255, .int .i64 1, .int .i64 2, .int .u64 0] W fun e w' => e = .returned (.int .u64 249) ∧ W = w' := fun W => put_any 255 0 (by omega) (by omega) 1 2 W
  have c3 : ∀ W : World, Calls Try.prog 19 #[.int .u64 255, .int .i64 8] W fun e w' => e = .returned (.int .i64 (-1)) ∧ W = w' := fun W => signed_any 255 (by omega) 8 W
  have c4 : ∀ W : World, Calls Try.prog 13 #[.int .u64 5] W fun e w' => e = .returned (.int .i64 3) ∧ W = w' := fun W => by
    have h := width_any 5 (by omega) W
    have e : M.width 5 = 3 := by rw [M.width_pos 5 (by omega), M.width_pos (5 / 2) (by omega), M.width_pos (5 / 2 / 2) (by omega), M.width_zero]
    rw [e] at h; exact h
  have C1 := Lib.hid c1
  have C2 := Lib.hid c2
  have C3 := Lib.hid c3
  have C4 := Lib.hid c4
  clear c1 c2 c3 c4
  go_enter Try.func15, Try.ntmps15
  go_wp2_with (first | (go_at_call 9; refine (C1.out _).mono ?_; rintro e w' ⟨rfl, n, rfl⟩) | (go_at_call 16; refine (C2.out _).mono ?_; rintro e w' ⟨rfl, rfl⟩) | (go_at_call 19; refine (C3.out _).mono ?_; rintro e w' ⟨rfl, rfl⟩) | (go_at_call 13; refine (C4.out _).mono ?_; rintro e w' ⟨rfl, rfl⟩))
  go_ret
  exact ⟨rfl, _, rfl⟩
end Go.Proofs.Ytjhhmghdgcmcoaa
