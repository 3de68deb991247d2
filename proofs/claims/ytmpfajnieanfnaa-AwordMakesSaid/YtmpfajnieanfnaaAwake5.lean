/- Chapter 5's example holds. -/
import Derived.Test.YtmpfajnieanfnaaAword
namespace Go.Proofs.Ytmpfajnieanfnaa
set_option linter.unusedVariables false
open Go.RowKit
theorem awake5_any (W : World) :
    Calls Try.prog 44 #[] W fun e w' => e = .returned (.bool true) ∧ ∃ n, w' = W.drewN n := by
  have C1 := Lib.hid (show ∀ W : World, Calls Try.prog 34 #[.int .i64 1, .int .u64 5, .int .u64 9] W fun e w' => e = .returned (.int .u64 38654705685) ∧ W = w' from fun W => amake_in 1 5 9 (by omega) (by omega) (by omega) W)
  have C2 := Lib.hid (show ∀ W : World, Calls Try.prog 45 #[.int .u64 38654705685, .int .u64 6] W fun e w' => e = .returned (.bool true) ∧ ∃ n, w' = W.drewN n from fun W => ablocks_any 38654705685 6 (by omega) (by omega) W)
  have C3 := Lib.hid (show ∀ W : World, Calls Try.prog 45 #[.int .u64 38654705685, .int .u64 5] W fun e w' => e = .returned (.bool false) ∧ ∃ n, w' = W.drewN n from fun W => ablocks_any 38654705685 5 (by omega) (by omega) W)
  have C4 := Lib.hid (show ∀ W : World, Calls Try.prog 47 #[.int .u64 38654705685, .int .u64 12, .int .i64 3] W fun e w' => e = .returned (.bool true) ∧ ∃ n, w' = W.drewN n from fun W => astalled_any 38654705685 12 3 (by omega) (by omega) (by omega) W)
  have C5 := Lib.hid (show ∀ W : World, Calls Try.prog 47 #[.int .u64 38654705685, .int .u64 12, .int .i64 4] W fun e w' => e = .returned (.bool false) ∧ ∃ n, w' = W.drewN n from fun W => astalled_any 38654705685 12 4 (by omega) (by omega) (by omega) W)
  go_enter Try.func44, Try.ntmps44
  go_wp2_with (first | (go_at_call 34; refine (C1.out _).mono ?_; rintro e w' ⟨rfl, rfl⟩) | (go_at_call 45; first | ((with_reducible refine (C2.out _).mono ?_); rintro e w' ⟨rfl, n, rfl⟩) | ((with_reducible refine (C3.out _).mono ?_); rintro e w' ⟨rfl, n, rfl⟩)) | (go_at_call 47; first | ((with_reducible refine (C4.out _).mono ?_); rintro e w' ⟨rfl, n, rfl⟩) | ((with_reducible refine (C5.out _).mono ?_); rintro e w' ⟨rfl, n, rfl⟩)) | (go_at_call 49; refine (aname_2 _).mono ?_; rintro e w' ⟨rfl, rfl⟩))
  go_ret
  exact ⟨rfl, _, rfl⟩
end Go.Proofs.Ytmpfajnieanfnaa
