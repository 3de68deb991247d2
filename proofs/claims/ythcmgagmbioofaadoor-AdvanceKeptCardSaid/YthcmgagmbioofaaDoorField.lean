/- Contracts of the functions of package field, and of the document's answers for it. -/
import Derived.Test.YthcmgagmbioofaaDoorRows
import Derived.Test.YthcmgagmbioofaaDoorMath
import Derived.WalkKit
import Derived.Lib.Hide
import Derived.Deep.QuietTactic
import Derived.BigQuiet
namespace Go.Proofs.YthcmgagmbioofaaDoor
set_option linter.unusedVariables false
open Go.RowKit
theorem ret_v {a b : Value} (h : a = b) : Ending.returned a = .returned b := by rw [h]
theorem int_v {k : IntKind} {a b : Int} (h : a = b) : Value.int k a = Value.int k b := by rw [h]
theorem bool_v {a b : Bool} (h : a = b) : Value.bool a = Value.bool b := by rw [h]
theorem ret_i {k : IntKind} {a b : Int} (h : a = b) : Ending.returned (Value.int k a) = .returned (Value.int k b) := by rw [h]
theorem ret_b {a b : Bool} (h : a = b) : Ending.returned (Value.bool a) = .returned (Value.bool b) := by rw [h]
theorem quiet_left {P : Program} {f : FuncId} {args : Array Value} {w : World} {n : Nat} {v : Value}
    (h : Calls P f args (w.drewN n) fun e w' => e = .returned v ∧ w.drewN n = w') : Calls P f args (w.drewN n) fun e w'' => e = .returned v ∧ ∃ m, w'' = w.drewN m :=
  h.mono fun _ _ ⟨he, hm⟩ => ⟨he, n, hm.symm⟩
theorem quiet_add {P : Program} {f : FuncId} {args : Array Value} {w : World} {a n : Nat} {v : Value}
    (h : Calls P f args (w.drewN (a + n)) fun e w' => e = .returned v ∧ ∃ m, w' = (w.drewN (a + n)).drewN m) :
    Calls P f args (w.drewN (a + n)) fun e w'' => e = .returned v ∧ ∃ m, w'' = w.drewN (a + m) :=
  h.mono fun _ _ ⟨he, m, hm⟩ => ⟨he, n + m, by rw [hm, World.drewN_drewN, Nat.add_assoc]⟩
theorem quiet_add_left {P : Program} {f : FuncId} {args : Array Value} {w : World} {a n : Nat} {v : Value}
    (h : Calls P f args (w.drewN (a + n)) fun e w' => e = .returned v ∧ w.drewN (a + n) = w') :
    Calls P f args (w.drewN (a + n)) fun e w'' => e = .returned v ∧ ∃ m, w'' = w.drewN (a + m) :=
  h.mono fun _ _ ⟨he, hm⟩ => ⟨he, n, hm.symm⟩

theorem grown_drewN {W w : World} (h : Grown W w) (n : Nat) : Grown W (w.drewN n) := h
theorem u64_lo {a : Int} (h : (Lit.int .u64 a).wf = true) : 0 ≤ a := by
  simp only [Lit.wf, Bool.and_eq_true, decide_eq_true_eq] at h
  exact h.1
theorem u64_hi {a : Int} (h : (Lit.int .u64 a).wf = true) : a ≤ 18446744073709551615 := by
  simp only [Lit.wf, Bool.and_eq_true, decide_eq_true_eq] at h
  exact h.2
theorem i64_lo {a : Int} (h : (Lit.int .i64 a).wf = true) : -9223372036854775808 ≤ a := by
  simp only [Lit.wf, Bool.and_eq_true, decide_eq_true_eq] at h
  exact h.1
theorem i64_hi {a : Int} (h : (Lit.int .i64 a).wf = true) : a ≤ 9223372036854775807 := by
  simp only [Lit.wf, Bool.and_eq_true, decide_eq_true_eq] at h
  exact h.2
/-! ### The program's -/
theorem there_any (a : Int) (w : World) :
    Calls Tryd.prog 67 #[.int .i64 a] w fun e w' => e = .returned (.bool (decide (0 ≤ a) && decide (a < 64))) ∧ w = w' := by
  go_enter Tryd.func67, Tryd.ntmps67
  go_wp2
  all_goals (go_ret; exact ⟨ret_b (by simp [*] <;> omega), rfl⟩)
theorem there_yes (a : Int) (h0 : 0 ≤ a) (h1 : a < 64) (w : World) :
    Calls Tryd.prog 67 #[.int .i64 a] w fun e w' => e = .returned (.bool true) ∧ w = w' :=
  (there_any a w).mono fun _ _ h => ⟨by rw [h.1]; simp [h0, h1], h.2⟩
theorem there_no (a : Int) (h : a < 0 ∨ 64 ≤ a) (w : World) :
    Calls Tryd.prog 67 #[.int .i64 a] w fun e w' => e = .returned (.bool false) ∧ w = w' :=
  (there_any a w).mono fun _ _ k => ⟨by rw [k.1]; exact ret_b (by simp; omega), k.2⟩
theorem mask_any (n : Int) (w : World) :
    Calls Tryd.prog 68 #[.int .i64 n] w fun e w' => e = .returned (.int .u64 (M.mask (M.sz n))) ∧ w = w' := by
  by_cases h1 : n < 1
  · go_enter Tryd.func68, Tryd.ntmps68
    go_wp2
    go_ret
    exact ⟨ret_i (by have : M.sz n = 0 := by unfold M.sz; omega
                     rw [this]; rfl), rfl⟩
  · by_cases h2 : 64 ≤ n
    · go_enter Tryd.func68, Tryd.ntmps68
      go_wp2
      go_ret
      exact ⟨ret_i (by have : M.sz n = 64 := by unfold M.sz; omega
                       rw [this]; rfl), rfl⟩
    · go_enter Tryd.func68, Tryd.ntmps68
      go_wp2
      go_ret
      refine ⟨ret_i ?_, rfl⟩
      have e : M.sz n = n.toNat := by unfold M.sz; omega
      have hp := M.pw_pos n.toNat
      have hl := M.pw_le n.toNat (by omega)
      have e2 : (2 : Int) ^ n.toNat = (M.pw n.toNat : Nat) := by unfold M.pw; norm_cast
      rw [e, e2, IntWalk.u64_in (M.pw n.toNat : Nat) (by omega), IntWalk.u64_in _ (by omega)]
      unfold M.mask M.pw at *
      omega
theorem get_in (w : Nat) (hw : w < 18446744073709551616) (a size : Int) (h0 : 0 ≤ a) (h1 : a < 64) (W : World) :
    Calls Tryd.prog 75 #[.int .u64 w, .int .i64 a, .int .i64 size] W fun e w' => e = .returned (.int .u64 (M.get w a.toNat (M.sz size))) ∧ ∃ n, w' = W.drewN n := by
  go_enter Tryd.func75, Tryd.ntmps75
  go_wp2_with (go_at_call 67; refine (there_yes _ (by omega) (by omega) _).mono ?_; rintro e w' ⟨rfl, rfl⟩)
  go_quiet ((go_at_call 68; exact quiet_left (mask_any _ _)))
  go_wp2
  go_ret
  exact ⟨ret_i (M.and_get w a size hw h0 h1), _, rfl⟩
theorem get_out (w : Nat) (a size : Int) (h : a < 0 ∨ 64 ≤ a) (W : World) :
    Calls Tryd.prog 75 #[.int .u64 w, .int .i64 a, .int .i64 size] W fun e w' => e = .returned (.int .u64 0) ∧ W = w' := by
  go_enter Tryd.func75, Tryd.ntmps75
  go_wp2_with (go_at_call 67; refine (there_no _ (by omega) _).mono ?_; rintro e w' ⟨rfl, rfl⟩)
  go_ret
  exact ⟨rfl, rfl⟩
theorem get_any (w : Nat) (hw : w < 18446744073709551616) (a size : Int) (W : World) :
    Calls Tryd.prog 75 #[.int .u64 w, .int .i64 a, .int .i64 size] W fun e w' => e = .returned (.int .u64 (M.fget w a size)) ∧ ∃ n, w' = W.drewN n := by
  by_cases h : 0 ≤ a ∧ a < 64
  · refine (get_in w hw a size h.1 h.2 W).mono fun e w' k => ⟨?_, k.2⟩
    rw [k.1]; exact ret_i (by unfold M.fget; rw [if_pos h])
  · refine (get_out w a size (by omega) W).mono fun e w' k => ⟨?_, 0, by rw [← k.2]; rfl⟩
    rw [k.1]; exact ret_i (by unfold M.fget; rw [if_neg h]; rfl)
end Go.Proofs.YthcmgagmbioofaaDoor
