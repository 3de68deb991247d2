/- Contracts of field.Bit. -/
import Derived.Test.YtcdmcnncigfclaaDoorField
namespace Go.Proofs.YtcdmcnncigfclaaDoor
set_option linter.unusedVariables false
open Go.RowKit
theorem bit_in (w : Nat) (hw : w < 18446744073709551616) (a : Int) (h0 : 0 ≤ a) (h1 : a < 64) (W : World) :
    Calls Tryd.prog 53 #[.int .u64 w, .int .i64 a] W fun e w' => e = .returned (.bool (decide (M.bitn w a.toNat = 1))) ∧ W = w' := by
  go_enter Tryd.func53, Tryd.ntmps53
  go_wp2_with (go_at_call 66; refine (there_yes _ (by omega) (by omega) _).mono ?_; rintro e w' ⟨rfl, rfl⟩)
  go_ret
  exact ⟨ret_b (M.and_bit w a hw), rfl⟩
theorem bit_out (w : Nat) (a : Int) (h : a < 0 ∨ 64 ≤ a) (W : World) :
    Calls Tryd.prog 53 #[.int .u64 w, .int .i64 a] W fun e w' => e = .returned (.bool false) ∧ W = w' := by
  go_enter Tryd.func53, Tryd.ntmps53
  go_wp2_with (go_at_call 66; refine (there_no _ (by omega) _).mono ?_; rintro e w' ⟨rfl, rfl⟩)
  go_ret
  exact ⟨rfl, rfl⟩
theorem bit_any (w : Nat) (hw : w < 18446744073709551616) (a : Int) (W : World) :
    Calls Tryd.prog 53 #[.int .u64 w, .int .i64 a] W fun e w' => e = .returned (.bool (decide (0 ≤ a ∧ a < 64 ∧ M.bitn w a.toNat = 1))) ∧ W = w' := by
  by_cases h : 0 ≤ a ∧ a < 64
  · refine (bit_in w hw a h.1 h.2 W).mono fun e w' k => ⟨?_, k.2⟩
    rw [k.1]; exact ret_b (by simp [h])
  · refine (bit_out w a (by omega) W).mono fun e w' k => ⟨?_, k.2⟩
    rw [k.1]; exact ret_b (by symm; simp; omega)
end Go.Proofs.YtcdmcnncigfclaaDoor
