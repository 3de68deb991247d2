/- Contracts of field.Put. -/
import Derived.Test.YthcmgagmbioofaaDoorField
namespace Go.Proofs.YthcmgagmbioofaaDoor
set_option linter.unusedVariables false
open Go.RowKit
theorem put_in (w v : Nat) (hw : w < 18446744073709551616) (hv : v < 18446744073709551616) (a size : Int) (h0 : 0 ≤ a) (h1 : a < 64) (W : World) :
    Calls Tryd.prog 54 #[.int .u64 w, .int .i64 a, .int .i64 size, .int .u64 v] W fun e w' => e = .returned (.int .u64 (M.put w a.toNat (M.sz size) v)) ∧ W = w' := by
  go_enter Tryd.func54, Tryd.ntmps54
  go_wp2_with (first | (go_at_call 67; refine (there_yes _ (by omega) (by omega) _).mono ?_; rintro e w' ⟨rfl, rfl⟩) | (go_at_call 68; refine (mask_any _ _).mono ?_; rintro e w' ⟨rfl, rfl⟩))
  go_ret
  exact ⟨ret_i (M.put_code w v a size hw hv h0 h1), rfl⟩
theorem put_out (w v : Nat) (a size : Int) (h : a < 0 ∨ 64 ≤ a) (W : World) :
    Calls Tryd.prog 54 #[.int .u64 w, .int .i64 a, .int .i64 size, .int .u64 v] W fun e w' => e = .returned (.int .u64 w) ∧ W = w' := by
  go_enter Tryd.func54, Tryd.ntmps54
  go_wp2_with (go_at_call 67; refine (there_no _ (by omega) _).mono ?_; rintro e w' ⟨rfl, rfl⟩)
  go_ret
  exact ⟨rfl, rfl⟩
theorem put_any (w v : Nat) (hw : w < 18446744073709551616) (hv : v < 18446744073709551616) (a size : Int) (W : World) :
    Calls Tryd.prog 54 #[.int .u64 w, .int .i64 a, .int .i64 size, .int .u64 v] W fun e w' => e = .returned (.int .u64 (M.fput w a size v)) ∧ W = w' := by
  by_cases h : 0 ≤ a ∧ a < 64
  · refine (put_in w v hw hv a size h.1 h.2 W).mono fun e w' k => ⟨?_, k.2⟩
    rw [k.1]; exact ret_i (by unfold M.fput; rw [if_pos h])
  · refine (put_out w v a size (by omega) W).mono fun e w' k => ⟨?_, k.2⟩
    rw [k.1]; exact ret_i (by unfold M.fput; rw [if_neg h])
end Go.Proofs.YthcmgagmbioofaaDoor
