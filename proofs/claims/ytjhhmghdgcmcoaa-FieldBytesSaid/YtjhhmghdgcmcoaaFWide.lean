/- Contracts of field.Width and field.Signed. -/
import Derived.Test.YtjhhmghdgcmcoaaFBit
namespace Go.Proofs.Ytjhhmghdgcmcoaa
set_option linter.unusedVariables false
open Go.RowKit
theorem width_any (w : Nat) (hw : w < 18446744073709551616) (W : World) :
    Calls Try.prog 13 #[.int .u64 w] W fun e w' => e = .returned (.int .i64 (M.width w)) ∧ W = w' := by
  go_enter Try.func13, Try.ntmps13
  go_wp2
  go_loop [3, 5] (fun p i => ∃ k : Nat, k ≤ 64 ∧ i = .int .i64 k ∧ p = .int .i64 (M.wid w k)) (fun _ i => 64 - (intOf i).toNat)
  case atStart => exact ⟨0, by omega, rfl, int_v (by rw [M.wid_zero]; rfl)⟩
  case round =>
    obtain ⟨k, hk, rfl, rfl⟩ := hrel
    by_cases hlt : k < 64
    · have G := Lib.hid (M.wid_succ w k)
      by_cases hb : M.bitn w k = 1
      · have hB := Lib.hid hb
        have hc : decide (0 ≤ (k : Int) ∧ (k : Int) < 64 ∧ M.bitn w (k : Int).toNat = 1) = true := by simp [hb]; omega
        have hC := Lib.hid hc
        clear hb hc
        go_wp2_with (go_at_call 11; refine (bit_any _ hw _ _).mono ?_; rintro e w' ⟨rfl, rfl⟩; rw [hC.out])
        go_round
        case rel => exact ⟨k + 1, by omega, by go_num, int_v (by rw [G.out, if_pos hB.out]; go_num)⟩
        case measure => simp [intOf]; omega
      · have hB := Lib.hid hb
        have hc : decide (0 ≤ (k : Int) ∧ (k : Int) < 64 ∧ M.bitn w (k : Int).toNat = 1) = false := decide_eq_false (fun h => hb (by simpa using h.2.2))
        have hC := Lib.hid hc
        clear hb hc
        go_wp2_with (go_at_call 11; refine (bit_any _ hw _ _).mono ?_; rintro e w' ⟨rfl, rfl⟩; rw [hC.out])
        go_round
        case rel => exact ⟨k + 1, by omega, by go_num, int_v (by rw [G.out, if_neg hB.out])⟩
        case measure => simp [intOf]; omega
    · obtain rfl : k = 64 := by omega
      go_wp2
      go_ret
      exact ⟨ret_i (by rw [M.wid_all w hw]), rfl⟩
theorem signed_any (w : Nat) (hw : w < 18446744073709551616) (size : Int) (W : World) :
    Calls Try.prog 19 #[.int .u64 w, .int .i64 size] W fun e w' => e = .returned (.int .i64 (M.fsigned w size)) ∧ W = w' := by
  by_cases h1 : size < 1
  · go_enter Try.func19, Try.ntmps19
    go_wp2
    go_ret
    exact ⟨ret_i (by unfold M.fsigned; rw [if_pos h1]), rfl⟩
  · by_cases h2 : 64 ≤ size
    · go_enter Try.func19, Try.ntmps19
      go_wp2
      go_ret
      exact ⟨ret_i (by have : M.sz size = 64 := by unfold M.sz; omega
                       unfold M.fsigned; rw [if_neg (by omega), this, M.signed_full w hw]), rfl⟩
    · obtain ⟨n, rfl⟩ : ∃ n : Nat, size = n := ⟨size.toNat, by omega⟩
      go_enter Try.func19, Try.ntmps19
      go_wp2
      go_ret
      exact ⟨ret_i (by have : M.sz n = n := by unfold M.sz; omega
                       unfold M.fsigned; rw [if_neg (by omega), this, ← M.signed_code w n (by omega) (by omega)]), rfl⟩
end Go.Proofs.Ytjhhmghdgcmcoaa
