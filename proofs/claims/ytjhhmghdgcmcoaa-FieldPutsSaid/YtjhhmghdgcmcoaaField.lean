/- Contracts of the functions of package field, and of the document's answers for it. -/
import Derived.Test.YtjhhmghdgcmcoaaRows
import Derived.Test.YtjhhmghdgcmcoaaMath
import Derived.WalkKit
import Derived.Lib.Hide
import Derived.Deep.QuietTactic
import Derived.BigQuiet
namespace Go.Proofs.Ytjhhmghdgcmcoaa
set_option linter.unusedVariables false
open Go.RowKit
theorem ret_v {a b : Value} (h : a = b) : Ending.returned a = .returned b := by rw [h]
theorem int_v {k : IntKind} {a b : Int} (h : a = b) : Value.int k a = Value.int k b := by rw [h]
theorem bool_v {a b : Bool} (h : a = b) : Value.bool a = Value.bool b := by rw [h]
theorem ret_i {k : IntKind} {a b : Int} (h : a = b) : Ending.returned (Value.int k a) = .returned (Value.int k b) := by rw [h]
theorem ret_b {a b : Bool} (h : a = b) : Ending.returned (Value.bool a) = .returned (Value.bool b) := by rw [h]
theorem quiet_left {P : Program} {f : FuncId} {args : Array Value} {w : World} {n : Nat} {v : Value}
    (h : Calls P f args (w.drewN n) fun e w' => e = .returned v ∧ w.drewN n = w') : Calls P f args (w.drewN n) fun e w'' => e = .returned v ∧ ∃ m, w'' = w.drewN m :=
  h.mono fun _ _ ⟨he, hm⟩ => ⟨he, n, hm.symm⟩
theorem quiet_add {P : Program} {f : FuncId} {args : Array Value} {w : World} {a n : Nat} {v : Value}
    (h : Calls P f args (w.drewN (a + n)) fun e w' => e = .returned v ∧ ∃ m, w' = (w.drewN (a + n)).drewN m) :
    Calls P f args (w.drewN (a + n)) fun e w'' => e = .returned v ∧ ∃ m, w'' = w.drewN (a + m) :=
  h.mono fun _ _ ⟨he, m, hm⟩ => ⟨he, n + m, by rw [hm, World.drewN_drewN, Nat.add_assoc]⟩
theorem quiet_add_left {P : Program} {f : FuncId} {args : Array Value} {w : World} {a n : Nat} {v : Value}
    (h : Calls P f args (w.drewN (a + n)) fun e w' => e = .returned v ∧ w.drewN (a + n) = w') :
    Calls P f args (w.drewN (a + n)) fun e w'' => e = .returned v ∧ ∃ m, w'' = w.drewN (a + m) :=
  h.mono fun _ _ ⟨he, hm⟩ => ⟨he, n, hm.symm⟩

theorem u64_lo {a : Int} (h : (Lit.int .u64 a).wf = true) : 0 ≤ a := by
  simp only [Lit.wf, Bool.and_eq_true, decide_eq_true_eq] at h
  exact h.1
theorem u64_hi {a : Int} (h : (Lit.int .u64 a).wf = true) : a ≤ 18446744073709551615 := by
  simp only [Lit.wf, Bool.and_eq_true, decide_eq_true_eq] at h
  exact h.2
theorem i64_lo {a : Int} (h : (Lit.int .i64 a).wf = true) : -9223372036854775808 ≤ a := by
  simp only [Lit.wf, Bool.and_eq_true, decide_eq_true_eq] at h
  exact h.1
theorem i64_hi {a : Int} (h : (Lit.int .i64 a).wf = true) : a ≤ 9223372036854775807 := by
  simp only [Lit.wf, Bool.and_eq_true, decide_eq_true_eq] at h
  exact h.2
/-! ### The program's -/
theorem there_any (a : Int) (w : World) :
    Calls Try.prog 24 #[.int .i64 a] w fun e w' => e = .returned (.bool (decide (0 ≤ a) && decide (a < 64))) ∧ w = w' := by
  go_enter Try.func24, Try.ntmps24
  go_wp2
  all_goals (go_ret; exact ⟨ret_b (by simp [*] <;> omega), rfl⟩)
theorem there_yes (a : Int) (h0 : 0 ≤ a) (h1 : a < 64) (w : World) :
    Calls Try.prog 24 #[.int .i64 a] w fun e w' => e = .returned (.bool true) ∧ w = w' :=
  (there_any a w).mono fun _ _ h => ⟨by rw [h.1]; simp [h0, h1], h.2⟩
theorem there_no (a : Int) (h : a < 0 ∨ 64 ≤ a) (w : World) :
    Calls Try.prog 24 #[.int .i64 a] w fun e w' => e = .returned (.bool false) ∧ w = w' :=
  (there_any a w).mono fun _ _ k => ⟨by rw [k.1]; exact ret_b (by simp; omega), k.2⟩
theorem mask_any (n : Int) (w : World) :
    Calls Try.prog 18 #[.int .i64 n] w fun e w' => e = .returned (.int .u64 (M.mask (M.sz n))) ∧ w = w' := by
  by_cases h1 : n < 1
  · go_enter Try.func18, Try.ntmps18
    go_wp2
    go_ret
    exact ⟨ret_i (by have : M.sz n = 0 := by unfold M.sz; omega
                     rw [this]; rfl), rfl⟩
  · by_cases h2 : 64 ≤ n
    · go_enter Try.func18, Try.ntmps18
      go_wp2
      go_ret
      exact ⟨ret_i (by have : M.sz n = 64 := by unfold M.sz; omega
                       rw [this]; rfl), rfl⟩
    · go_enter Try.func18, Try.ntmps18
      go_wp2
      go_ret
      refine ⟨ret_i ?_, rfl⟩
      have e : M.sz n = n.toNat := by unfold M.sz; omega
      have hp := M.pw_pos n.toNat
      have hl := M.pw_le n.toNat (by omega)
      have e2 : (2 : Int) ^ n.toNat = (M.pw n.toNat : Nat) := by unfold M.pw; norm_cast
      rw [e, e2, IntWalk.u64_in (M.pw n.toNat : Nat) (by omega), IntWalk.u64_in _ (by omega)]
      unfold M.mask M.pw at *
      omega
theorem get_in (w : Nat) (hw : w < 18446744073709551616) (a size : Int) (h0 : 0 ≤ a) (h1 : a < 64) (W : World) :
    Calls Try.prog 9 #[.int .u64 w, .int .i64 a, .int .i64 size] W fun e w' => e = .returned (.int .u64 (M.get w a.toNat (M.sz size))) ∧ ∃ n, w' = W.drewN n := by
  go_enter Try.func9, Try.ntmps9
  go_wp2_with (go_at_call 24; refine (there_yes _ (by omega) (by omega) _).mono ?_; rintro e w' ⟨rfl, rfl⟩)
  go_quiet ((go_at_call 18; exact quiet_left (mask_any _ _)))
  go_wp2
  go_ret
  exact ⟨ret_i (M.and_get w a size hw h0 h1), _, rfl⟩
theorem get_out (w : Nat) (a size : Int) (h : a < 0 ∨ 64 ≤ a) (W : World) :
    Calls Try.prog 9 #[.int .u64 w, .int .i64 a, .int .i64 size] W fun e w' => e = .returned (.int .u64 0) ∧ W = w' := by
  go_enter Try.func9, Try.ntmps9
  go_wp2_with (go_at_call 24; refine (there_no _ (by omega) _).mono ?_; rintro e w' ⟨rfl, rfl⟩)
  go_ret
  exact ⟨rfl, rfl⟩
theorem get_any (w : Nat) (hw : w < 18446744073709551616) (a size : Int) (W : World) :
    Calls Try.prog 9 #[.int .u64 w, .int .i64 a, .int .i64 size] W fun e w' => e = .returned (.int .u64 (M.fget w a size)) ∧ ∃ n, w' = W.drewN n := by
  by_cases h : 0 ≤ a ∧ a < 64
  · refine (get_in w hw a size h.1 h.2 W).mono fun e w' k => ⟨?_, k.2⟩
    rw [k.1]; exact ret_i (by unfold M.fget; rw [if_pos h])
  · refine (get_out w a size (by omega) W).mono fun e w' k => ⟨?_, 0, by rw [← k.2]; rfl⟩
    rw [k.1]; exact ret_i (by unfold M.fget; rw [if_neg h]; rfl)
theorem bit_in (w : Nat) (hw : w < 18446744073709551616) (a : Int) (h0 : 0 ≤ a) (h1 : a < 64) (W : World) :
    Calls Try.prog 11 #[.int .u64 w, .int .i64 a] W fun e w' => e = .returned (.bool (decide (M.bitn w a.toNat = 1))) ∧ W = w' := by
  go_enter Try.func11, Try.ntmps11
  go_wp2_with (go_at_call 24; refine (there_yes _ (by omega) (by omega) _).mono ?_; rintro e w' ⟨rfl, rfl⟩)
  go_ret
  exact ⟨ret_b (M.and_bit w a hw), rfl⟩
theorem bit_out (w : Nat) (a : Int) (h : a < 0 ∨ 64 ≤ a) (W : World) :
    Calls Try.prog 11 #[.int .u64 w, .int .i64 a] W fun e w' => e = .returned (.bool false) ∧ W = w' := by
  go_enter Try.func11, Try.ntmps11
  go_wp2_with (go_at_call 24; refine (there_no _ (by omega) _).mono ?_; rintro e w' ⟨rfl, rfl⟩)
  go_ret
  exact ⟨rfl, rfl⟩
theorem put_in (w v : Nat) (hw : w < 18446744073709551616) (hv : v < 18446744073709551616) (a size : Int) (h0 : 0 ≤ a) (h1 : a < 64) (W : World) :
    Calls Try.prog 16 #[.int .u64 w, .int .i64 a, .int .i64 size, .int .u64 v] W fun e w' => e = .returned (.int .u64 (M.put w a.toNat (M.sz size) v)) ∧ W = w' := by
  go_enter Try.func16, Try.ntmps16
  go_wp2_with (first | (go_at_call 24; refine (there_yes _ (by omega) (by omega) _).mono ?_; rintro e w' ⟨rfl, rfl⟩) | (go_at_call 18; refine (mask_any _ _).mono ?_; rintro e w' ⟨rfl, rfl⟩))
  go_ret
  exact ⟨ret_i (M.put_code w v a size hw hv h0 h1), rfl⟩
theorem put_out (w v : Nat) (a size : Int) (h : a < 0 ∨ 64 ≤ a) (W : World) :
    Calls Try.prog 16 #[.int .u64 w, .int .i64 a, .int .i64 size, .int .u64 v] W fun e w' => e = .returned (.int .u64 w) ∧ W = w' := by
  go_enter Try.func16, Try.ntmps16
  go_wp2_with (go_at_call 24; refine (there_no _ (by omega) _).mono ?_; rintro e w' ⟨rfl, rfl⟩)
  go_ret
  exact ⟨rfl, rfl⟩

/-! ### The document's -/
theorem power_any (n : Nat) (h : n ≤ 63) (w : World) :
    Calls Try.prog 22 #[.int .i64 n] w fun e w' => e = .returned (.int .u64 (M.pw n)) ∧ w = w' := by
  go_enter Try.func22, Try.ntmps22
  go_wp2
  go_loop [3, 4] (fun p i => ∃ k : Nat, k ≤ n ∧ i = .int .i64 k ∧ p = .int .u64 (M.pw k)) (fun _ i => n - (intOf i).toNat)
  case atStart => exact ⟨0, by omega, rfl, rfl⟩
  case round =>
    obtain ⟨k, hk, rfl, rfl⟩ := hrel
    by_cases hlt : k < n
    · have hp := M.pw_succ k
      have hl := M.pw_le (k + 1) (by omega)
      have H : Hid (M.pw (k + 1) = M.pw k * 2) := Lib.hid hp
      have hb : M.pw k * 2 ≤ 9223372036854775808 := by omega
      clear hp hl
      go_wp2
      go_round
      case rel => exact ⟨k + 1, by omega, by go_num, int_v (by rw [H.out]; go_num)⟩
      case measure => simp [intOf]; omega
    · obtain rfl : k = n := by omega
      go_wp2
      go_ret
      exact ⟨rfl, rfl⟩
theorem rbit_in (w a : Nat) (hw : w < 18446744073709551616) (ha : a ≤ 63) (W : World) :
    Calls Try.prog 12 #[.int .u64 w, .int .i64 a] W fun e w' => e = .returned (.int .i64 (M.bitn w a)) ∧ W = w' := by
  have hp := M.pw_pos a
  go_enter Try.func12, Try.ntmps12
  go_wp2_with (go_at_call 22; refine (power_any _ (by omega) _).mono ?_; rintro e w' ⟨rfl, rfl⟩)
  go_ret
  refine ⟨ret_i ?_, rfl⟩
  exact M.bit_code w a hw
theorem rbit_out (w : Nat) (a : Int) (ha : a < 0 ∨ 63 < a) (W : World) :
    Calls Try.prog 12 #[.int .u64 w, .int .i64 a] W fun e w' => e = .returned (.int .i64 (-1)) ∧ W = w' := by
  rcases ha with ha | ha
  · go_enter Try.func12, Try.ntmps12
    go_wp2
    go_ret
    exact ⟨rfl, rfl⟩
  · go_enter Try.func12, Try.ntmps12
    go_wp2
    go_ret
    exact ⟨rfl, rfl⟩
theorem rget_in (w a : Nat) (hw : w < 18446744073709551616) (ha : a ≤ 63) (size : Int) (W : World) :
    Calls Try.prog 10 #[.int .u64 w, .int .i64 a, .int .i64 size] W fun e w' => e = .returned (.int .u64 (M.get w a (M.sz size))) ∧ W = w' := by
  obtain ⟨n, hn⟩ : ∃ n : Nat, n = M.rsz a size := ⟨_, rfl⟩
  have H := Lib.hid hn
  have hn1 : n ≤ 64 - a := by rw [hn]; unfold M.rsz; omega
  have hn2 : (n : Int) ≤ size ∨ n = 0 := by rw [hn]; unfold M.rsz; omega
  clear hn
  go_enter Try.func10, Try.ntmps10
  go_wp2
  go_loop [7, 8] (fun p i => ∃ k : Nat, k ≤ n ∧ i = .int .i64 k ∧ p = .int .u64 (M.get w a k)) (fun _ i => n - (intOf i).toNat)
  case atStart => exact ⟨0, by omega, rfl, int_v (by rw [M.get_zero]; rfl)⟩
  case round =>
    obtain ⟨k, hk, rfl, rfl⟩ := hrel
    by_cases hlt : k < n
    · have hs : (k : Int) < size := by omega
      have G := Lib.hid (M.get_succ w a k)
      have hp := M.pw_le k (by omega)
      have hb := M.bitn_lt w (a + k)
      have hg : M.get w a k + M.pw k ≤ 18446744073709551615 := by
        have := M.get_lt w a k
        have := M.pw_le k (by omega)
        unfold M.pw at *
        omega
      by_cases hbit : M.bitn w (a + k) = 1
      · have hB : ((M.bitn w (a + k) : Int) == 1) = true := by rw [hbit]; rfl
        have hbit := Lib.hid hbit
        go_wp2_with (first | (go_at_call 12; refine (rbit_in _ _ hw (by omega) _).mono ?_; rintro e w' ⟨rfl, rfl⟩) | (go_at_call 22; refine (power_any _ (by omega) _).mono ?_; rintro e w' ⟨rfl, rfl⟩))
        go_round
        case rel => exact ⟨k + 1, by omega, by go_num, int_v (by rw [G.out, hbit.out]; unfold M.pw; omega)⟩
        case measure => simp [intOf]; omega
      · have hB : ((M.bitn w (a + k) : Int) == 1) = false := by simp; omega
        have hbit := Lib.hid hbit
        go_wp2_with (first | (go_at_call 12; refine (rbit_in _ _ hw (by omega) _).mono ?_; rintro e w' ⟨rfl, rfl⟩))
        go_round
        case rel => exact ⟨k + 1, by omega, by go_num, int_v (by rw [G.out]; have := hbit.out; have : M.bitn w (a + k) = 0 := by omega
                                                                 rw [this]; simp)⟩
        case measure => simp [intOf]; omega
    · obtain rfl : k = n := by omega
      have hz : 64 - a ≤ k ∨ size ≤ k := by have := H.out; unfold M.rsz at this; omega
      go_wp2
      all_goals
        go_ret
        exact ⟨ret_i (by rw [← M.get_rsz w a size hw ha, H.out]), rfl⟩

theorem bit_any (w : Nat) (hw : w < 18446744073709551616) (a : Int) (W : World) :
    Calls Try.prog 11 #[.int .u64 w, .int .i64 a] W fun e w' => e = .returned (.bool (decide (0 ≤ a ∧ a < 64 ∧ M.bitn w a.toNat = 1))) ∧ W = w' := by
  by_cases h : 0 ≤ a ∧ a < 64
  · refine (bit_in w hw a h.1 h.2 W).mono fun e w' k => ⟨?_, k.2⟩
    rw [k.1]; exact ret_b (by simp [h])
  · refine (bit_out w a (by omega) W).mono fun e w' k => ⟨?_, k.2⟩
    rw [k.1]; exact ret_b (by symm; simp; omega)
theorem put_any (w v : Nat) (hw : w < 18446744073709551616) (hv : v < 18446744073709551616) (a size : Int) (W : World) :
    Calls Try.prog 16 #[.int .u64 w, .int .i64 a, .int .i64 size, .int .u64 v] W fun e w' => e = .returned (.int .u64 (M.fput w a size v)) ∧ W = w' := by
  by_cases h : 0 ≤ a ∧ a < 64
  · refine (put_in w v hw hv a size h.1 h.2 W).mono fun e w' k => ⟨?_, k.2⟩
    rw [k.1]; exact ret_i (by unfold M.fput; rw [if_pos h])
  · refine (put_out w v a size (by omega) W).mono fun e w' k => ⟨?_, k.2⟩
    rw [k.1]; exact ret_i (by unfold M.fput; rw [if_neg h])
theorem rget_any (w : Nat) (hw : w < 18446744073709551616) (a size : Int) (W : World) :
    Calls Try.prog 10 #[.int .u64 w, .int .i64 a, .int .i64 size] W fun e w' => e = .returned (.int .u64 (M.fget w a size)) ∧ W = w' := by
  by_cases h : 0 ≤ a ∧ a < 64
  · obtain ⟨n, rfl⟩ : ∃ n : Nat, a = n := ⟨a.toNat, by omega⟩
    refine (rget_in w n hw (by omega) size W).mono fun e w' k => ⟨?_, k.2⟩
    rw [k.1]; exact ret_i (by unfold M.fget; rw [if_pos h]; rfl)
  · have e : M.fget w a size = 0 := by unfold M.fget; rw [if_neg h]
    rw [e]
    by_cases h2 : a < 0
    · go_enter Try.func10, Try.ntmps10
      go_wp2
      go_ret
      exact ⟨rfl, rfl⟩
    · have h3 : 63 < a := by omega
      go_enter Try.func10, Try.ntmps10
      go_wp2
      go_ret
      exact ⟨rfl, rfl⟩
theorem width_any (w : Nat) (hw : w < 18446744073709551616) (W : World) :
    Calls Try.prog 13 #[.int .u64 w] W fun e w' => e = .returned (.int .i64 (M.width w)) ∧ W = w' := by
  go_enter Try.func13, Try.ntmps13
  go_wp2
  go_loop [3, 5] (fun p i => ∃ k : Nat, k ≤ 64 ∧ i = .int .i64 k ∧ p = .int .i64 (M.wid w k)) (fun _ i => 64 - (intOf i).toNat)
  case atStart => exact ⟨0, by omega, rfl, int_v (by rw [M.wid_zero]; rfl)⟩
  case round =>
    obtain ⟨k, hk, rfl, rfl⟩ := hrel
    by_cases hlt : k < 64
    · have G := Lib.hid (M.wid_succ w k)
      by_cases hb : M.bitn w k = 1
      · have hB := Lib.hid hb
        have hc : decide (0 ≤ (k : Int) ∧ (k : Int) < 64 ∧ M.bitn w (k : Int).toNat = 1) = true := by simp [hb]; omega
        have hC := Lib.hid hc
        clear hb hc
        go_wp2_with (go_at_call 11; refine (bit_any _ hw _ _).mono ?_; rintro e w' ⟨rfl, rfl⟩; rw [hC.out])
        go_round
        case rel => exact ⟨k + 1, by omega, by go_num, int_v (by rw [G.out, if_pos hB.out]; go_num)⟩
        case measure => simp [intOf]; omega
      · have hB := Lib.hid hb
        have hc : decide (0 ≤ (k : Int) ∧ (k : Int) < 64 ∧ M.bitn w (k : Int).toNat = 1) = false := decide_eq_false (fun h => hb (by simpa using h.2.2))
        have hC := Lib.hid hc
        clear hb hc
        go_wp2_with (go_at_call 11; refine (bit_any _ hw _ _).mono ?_; rintro e w' ⟨rfl, rfl⟩; rw [hC.out])
        go_round
        case rel => exact ⟨k + 1, by omega, by go_num, int_v (by rw [G.out, if_neg hB.out])⟩
        case measure => simp [intOf]; omega
    · obtain rfl : k = 64 := by omega
      go_wp2
      go_ret
      exact ⟨ret_i (by rw [M.wid_all w hw]), rfl⟩
theorem rwidth_any (w : Nat) (hw : w < 18446744073709551616) (W : World) :
    Calls Try.prog 14 #[.int .u64 w] W fun e w' => e = .returned (.int .i64 (M.width w)) ∧ W = w' := by
  have hle : M.width w ≤ 64 := M.width_le 64 w hw
  obtain ⟨d, hd⟩ : ∃ d : Nat, d = M.width w := ⟨_, rfl⟩
  rw [← hd] at hle ⊢
  have H := Lib.hid hd
  clear hd
  go_enter Try.func14, Try.ntmps14
  go_wp2
  go_loop [0, 3] (fun x i => ∃ y k : Nat, y ≤ w ∧ k + M.width y = d ∧ x = .int .u64 y ∧ i = .int .i64 k) (fun x _ => (intOf x).toNat)
  case atStart => exact ⟨w, 0, by omega, by rw [H.out]; omega, rfl, rfl⟩
  case round =>
    obtain ⟨y, k, hy, hk, rfl, rfl⟩ := hrel
    by_cases hlt : 0 < y
    · have hw1 := M.width_pos y hlt
      have hk2 : k + 1 + M.width (y / 2) = d := by omega
      have H2 := Lib.hid hk2
      have hkd : k + 1 ≤ 64 := by omega
      clear hk hw1 hk2
      go_wp2
      go_round
      case rel => exact ⟨y / 2, k + 1, by omega, H2.out, int_v (by norm_cast), by go_num⟩
      case measure => simp [intOf]; omega
    · obtain rfl : y = 0 := by omega
      obtain rfl : k = d := by rw [← hk, M.width_zero]; rfl
      clear hk
      go_wp2
      go_ret
      exact ⟨rfl, rfl⟩
theorem signed_any (w : Nat) (hw : w < 18446744073709551616) (size : Int) (W : World) :
    Calls Try.prog 19 #[.int .u64 w, .int .i64 size] W fun e w' => e = .returned (.int .i64 (M.fsigned w size)) ∧ W = w' := by
  by_cases h1 : size < 1
  · go_enter Try.func19, Try.ntmps19
    go_wp2
    go_ret
    exact ⟨ret_i (by unfold M.fsigned; rw [if_pos h1]), rfl⟩
  · by_cases h2 : 64 ≤ size
    · go_enter Try.func19, Try.ntmps19
      go_wp2
      go_ret
      exact ⟨ret_i (by have : M.sz size = 64 := by unfold M.sz; omega
                       unfold M.fsigned; rw [if_neg (by omega), this, M.signed_full w hw]), rfl⟩
    · obtain ⟨n, rfl⟩ : ∃ n : Nat, size = n := ⟨size.toNat, by omega⟩
      go_enter Try.func19, Try.ntmps19
      go_wp2
      go_ret
      exact ⟨ret_i (by have : M.sz n = n := by unfold M.sz; omega
                       unfold M.fsigned; rw [if_neg (by omega), this, ← M.signed_code w n (by omega) (by omega)]), rfl⟩
theorem rbit_i (w : Nat) (a : Int) (hw : w < 18446744073709551616) (h0 : 0 ≤ a) (h1 : a ≤ 63) (W : World) :
    Calls Try.prog 12 #[.int .u64 w, .int .i64 a] W fun e w' => e = .returned (.int .i64 (M.bitn w a.toNat)) ∧ W = w' := by
  obtain ⟨n, rfl⟩ : ∃ n : Nat, a = n := ⟨a.toNat, by omega⟩
  exact rbit_in w n hw (by omega) W
set_option maxHeartbeats 1000000 in
/-- The sum ahead of the highest bit; what stands behind it is told by what follows. -/
theorem rsigned_at (w n : Nat) (hw : w < 18446744073709551616) (hn : n ≤ 63) (size r : Int) (hs : 1 ≤ size) (hc : (64 < size ∧ n = 63) ∨ size = (n : Int) + 1)
    (hr : Hid (r = if M.bitn w n = 1 then (M.low w n : Int) - (M.pw n : Nat) else (M.low w n : Int))) (W : World) :
    Calls Try.prog 20 #[.int .u64 w, .int .i64 size] W fun e w' => e = .returned (.int .i64 r) ∧ W = w' := by
  have hround : ∀ k : Nat, k < n → M.low w k + M.pw k ≤ 9223372036854775807 := by
    intro k hk
    have := M.low_lt w k
    have := M.pw_le2 k (by omega)
    omega
  have hround := Lib.hid hround
  have hb1 : M.low w n < M.pw n := M.low_lt w n
  have hb2 : M.pw n ≤ 9223372036854775808 := M.pw_le n hn
  have hb3 : 1 ≤ M.pw n := M.pw_pos n
  rcases hc with ⟨hc, rfl⟩ | hc
  · go_enter Try.func20, Try.ntmps20
    go_wp2
    go_loop [5, 6] (fun p i => ∃ k : Nat, k ≤ 63 ∧ i = .int .i64 k ∧ p = .int .i64 (M.low w k)) (fun _ i => 63 - (intOf i).toNat)
    case atStart => exact ⟨0, by omega, rfl, int_v (by rw [M.low_zero]; rfl)⟩
    case round =>
      obtain ⟨k, hk, rfl, rfl⟩ := hrel
      by_cases hlt : k < 63
      · have G := Lib.hid (M.low_succ w k)
        have hg := hround.out k hlt
        by_cases hbit : M.bitn w k = 1
        · have hB : ((M.bitn w k : Int) == 1) = true := by rw [hbit]; rfl
          have hbit := Lib.hid hbit
          go_wp2_with (first | (go_at_call 12; refine (rbit_i _ _ (by omega) (by omega) (by omega) _).mono ?_; rintro e w' ⟨rfl, rfl⟩) | (go_at_call 22; refine (power_any _ (by omega) _).mono ?_; rintro e w' ⟨rfl, rfl⟩))
          go_round
          case rel => exact ⟨k + 1, by omega, by go_num, int_v (by rw [G.out, hbit.out]; omega)⟩
          case measure => simp [intOf]; omega
        · have hB : ((M.bitn w k : Int) == 1) = false := by simp; omega
          have hbit := Lib.hid hbit
          go_wp2_with (go_at_call 12; refine (rbit_i _ _ (by omega) (by omega) (by omega) _).mono ?_; rintro e w' ⟨rfl, rfl⟩)
          go_round
          case rel => exact ⟨k + 1, by omega, by go_num, int_v (by rw [G.out]; have := hbit.out; have := M.bitn_lt w k; have : M.bitn w k = 0 := by omega
                                                                   rw [this]; simp)⟩
          case measure => simp [intOf]; omega
      · obtain rfl : k = 63 := by omega
        have p63 : Hid (M.pw 63 = 9223372036854775808) := rfl
        by_cases hbit : M.bitn w 63 = 1
        · have hB : ((M.bitn w 63 : Int) == 1) = true := by rw [hbit]; rfl
          have hbit := Lib.hid hbit
          go_wp2_with (go_at_call 12; refine (rbit_i _ _ (by omega) (by omega) (by omega) _).mono ?_; rintro e w' ⟨rfl, rfl⟩)
          go_ret
          exact ⟨ret_i (by rw [hr.out, if_pos hbit.out]; have := p63.out; omega), rfl⟩
        · have hB : ((M.bitn w 63 : Int) == 1) = false := by simp; omega
          have hbit := Lib.hid hbit
          go_wp2_with (go_at_call 12; refine (rbit_i _ _ (by omega) (by omega) (by omega) _).mono ?_; rintro e w' ⟨rfl, rfl⟩)
          go_ret
          exact ⟨ret_i (by rw [hr.out, if_neg hbit.out]), rfl⟩
  · have hle : size ≤ 64 := by omega
    subst hc
    go_enter Try.func20, Try.ntmps20
    go_wp2
    go_loop [5, 6] (fun p i => ∃ k : Nat, k ≤ n ∧ i = .int .i64 k ∧ p = .int .i64 (M.low w k)) (fun _ i => n - (intOf i).toNat)
    case atStart => exact ⟨0, by omega, rfl, int_v (by rw [M.low_zero]; rfl)⟩
    case round =>
      obtain ⟨k, hk, rfl, rfl⟩ := hrel
      by_cases hlt : k < n
      · have G := Lib.hid (M.low_succ w k)
        have hg := hround.out k hlt
        by_cases hbit : M.bitn w k = 1
        · have hB : ((M.bitn w k : Int) == 1) = true := by rw [hbit]; rfl
          have hbit := Lib.hid hbit
          go_wp2_with (first | (go_at_call 12; refine (rbit_i _ _ (by omega) (by omega) (by omega) _).mono ?_; rintro e w' ⟨rfl, rfl⟩) | (go_at_call 22; refine (power_any _ (by omega) _).mono ?_; rintro e w' ⟨rfl, rfl⟩))
          go_round
          case rel => exact ⟨k + 1, by omega, by go_num, int_v (by rw [G.out, hbit.out]; omega)⟩
          case measure => simp [intOf]; omega
        · have hB : ((M.bitn w k : Int) == 1) = false := by simp; omega
          have hbit := Lib.hid hbit
          go_wp2_with (go_at_call 12; refine (rbit_i _ _ (by omega) (by omega) (by omega) _).mono ?_; rintro e w' ⟨rfl, rfl⟩)
          go_round
          case rel => exact ⟨k + 1, by omega, by go_num, int_v (by rw [G.out]; have := hbit.out; have := M.bitn_lt w k; have : M.bitn w k = 0 := by omega
                                                                   rw [this]; simp)⟩
          case measure => simp [intOf]; omega
      · obtain rfl : k = n := by omega
        by_cases hbit : M.bitn w k = 1
        · have hB : ((M.bitn w k : Int) == 1) = true := by rw [hbit]; rfl
          have hbit := Lib.hid hbit
          by_cases h63 : k = 63
          · subst h63
            have p63 : Hid (M.pw 63 = 9223372036854775808) := rfl
            go_wp2_with (go_at_call 12; refine (rbit_i _ _ (by omega) (by omega) (by omega) _).mono ?_; rintro e w' ⟨rfl, rfl⟩)
            go_ret
            exact ⟨ret_i (by rw [hr.out, if_pos hbit.out]; have := p63.out; omega), rfl⟩
          · have hq : M.pw k ≤ 4611686018427387904 := M.pw_le2 k (by omega)
            go_wp2_with (first | (go_at_call 12; refine (rbit_i _ _ (by omega) (by omega) (by omega) _).mono ?_; rintro e w' ⟨rfl, rfl⟩) | (go_at_call 22; refine (power_any _ (by omega) _).mono ?_; rintro e w' ⟨rfl, rfl⟩))
            go_ret
            exact ⟨ret_i (by rw [hr.out, if_pos hbit.out]), rfl⟩
        · have hB : ((M.bitn w k : Int) == 1) = false := by simp; omega
          have hbit := Lib.hid hbit
          go_wp2_with (go_at_call 12; refine (rbit_i _ _ (by omega) (by omega) (by omega) _).mono ?_; rintro e w' ⟨rfl, rfl⟩)
          go_ret
          exact ⟨ret_i (by rw [hr.out, if_neg hbit.out]), rfl⟩
theorem rsigned_any (w : Nat) (hw : w < 18446744073709551616) (size : Int) (W : World) :
    Calls Try.prog 20 #[.int .u64 w, .int .i64 size] W fun e w' => e = .returned (.int .i64 (M.fsigned w size)) ∧ W = w' := by
  by_cases h1 : size < 1
  · go_enter Try.func20, Try.ntmps20
    go_wp2
    go_ret
    exact ⟨ret_i (by unfold M.fsigned; rw [if_pos h1]), rfl⟩
  · obtain ⟨n, hn⟩ : ∃ n : Nat, n + 1 = M.sz size := ⟨M.sz size - 1, by unfold M.sz; omega⟩
    refine rsigned_at w n hw (by unfold M.sz at hn; omega) size _ (by omega) (by unfold M.sz at hn; omega) (Lib.hid ?_) W
    unfold M.fsigned
    rw [if_neg h1, ← hn, M.signed_split]
set_option maxHeartbeats 1000000 in
theorem rput_any (w v : Nat) (hw : w < 18446744073709551616) (hv : v < 18446744073709551616) (a size : Int) (W : World) :
    Calls Try.prog 17 #[.int .u64 w, .int .i64 a, .int .i64 size, .int .u64 v] W fun e w' => e = .returned (.int .u64 (M.fput w a size v)) ∧ W = w' := by
  obtain ⟨x, hx⟩ : ∃ x : Nat, x = M.fput w a size v := ⟨_, rfl⟩
  have hx64 : x < 18446744073709551616 := by rw [hx]; exact M.fput_lt w a size v hw
  rw [← hx]
  have HX := Lib.hid hx
  clear hx
  go_enter Try.func17, Try.ntmps17
  go_wp2
  go_loop [9, 10] (fun p i => ∃ k : Nat, k ≤ 64 ∧ i = .int .i64 k ∧ p = .int .u64 (M.low x k)) (fun _ i => 64 - (intOf i).toNat)
  case atStart => exact ⟨0, by omega, rfl, int_v (by rw [M.low_zero]; rfl)⟩
  case round =>
    obtain ⟨k, hk, rfl, rfl⟩ := hrel
    by_cases hlt : k < 64
    · have G := Lib.hid (M.low_succ x k)
      have hp := M.pw_le k (by omega)
      have hl := M.low_lt x k
      have hg : M.low x k + M.pw k ≤ 18446744073709551615 := by omega
      clear hl hp
      by_cases hin : 0 ≤ a ∧ a ≤ k ∧ (k : Int) - a < size
      · have hbit : M.bitn x k = M.bitn v (k - a.toNat) := by rw [HX.out]; exact M.fput_bit w a size v k hlt hin
        obtain ⟨h0, h1, h2⟩ := hin
        obtain ⟨c, rfl⟩ : ∃ c : Nat, a = c := ⟨a.toNat, by omega⟩
        rw [Int.toNat_natCast] at hbit
        rw [hbit] at G
        clear hbit
        by_cases hbv : M.bitn v (k - c) = 1
        · have hB : ((M.bitn v (k - c) : Int) == 1) = true := by rw [hbv]; rfl
          have hbv := Lib.hid hbv
          go_wp2_with (first | (go_at_call 12; refine (rbit_i _ _ (by omega) (by omega) (by omega) _).mono ?_; rintro e w' ⟨rfl, rfl⟩) | (go_at_call 22; refine (power_any _ (by omega) _).mono ?_; rintro e w' ⟨rfl, rfl⟩))
          go_round
          case rel => exact ⟨k + 1, by omega, by go_num, int_v (by rw [G.out, hbv.out]; omega)⟩
          case measure => simp [intOf]; omega
        · have hB : ((M.bitn v (k - c) : Int) == 1) = false := by simp; omega
          have hbv := Lib.hid hbv
          go_wp2_with (go_at_call 12; refine (rbit_i _ _ (by omega) (by omega) (by omega) _).mono ?_; rintro e w' ⟨rfl, rfl⟩)
          go_round
          case rel => exact ⟨k + 1, by omega, by go_num, int_v (by rw [G.out]; have := hbv.out; have := M.bitn_lt v (k - c); have : M.bitn v (k - c) = 0 := by omega
                                                                   rw [this]; simp)⟩
          case measure => simp [intOf]; omega
      · have hbit : M.bitn x k = M.bitn w k := by rw [HX.out]; exact M.fput_bit_not w a size v k hlt hin
        rw [hbit] at G
        clear hbit
        by_cases hbv : M.bitn w k = 1
        · have hB : ((M.bitn w k : Int) == 1) = true := by rw [hbv]; rfl
          have hbv := Lib.hid hbv
          by_cases c1 : a < 0
          rotate_left
          by_cases c2 : (k : Int) < a
          rotate_left
          have c3 : size ≤ (k : Int) - a := by omega
          all_goals
            clear hin
            go_wp2_with (first | (go_at_call 12; refine (rbit_i _ _ (by omega) (by omega) (by omega) _).mono ?_; rintro e w' ⟨rfl, rfl⟩) | (go_at_call 22; refine (power_any _ (by omega) _).mono ?_; rintro e w' ⟨rfl, rfl⟩))
            go_round
            case rel => exact ⟨k + 1, by omega, by go_num, int_v (by rw [G.out, hbv.out]; omega)⟩
            case measure => simp [intOf]; omega
        · have hB : ((M.bitn w k : Int) == 1) = false := by simp; omega
          have hbv := Lib.hid hbv
          by_cases c1 : a < 0
          rotate_left
          by_cases c2 : (k : Int) < a
          rotate_left
          have c3 : size ≤ (k : Int) - a := by omega
          all_goals
            clear hin
            go_wp2_with (go_at_call 12; refine (rbit_i _ _ (by omega) (by omega) (by omega) _).mono ?_; rintro e w' ⟨rfl, rfl⟩)
            go_round
            case rel => exact ⟨k + 1, by omega, by go_num, int_v (by rw [G.out]; have := hbv.out; have := M.bitn_lt w k; have : M.bitn w k = 0 := by omega
                                                                     rw [this]; simp)⟩
            case measure => simp [intOf]; omega
    · obtain rfl : k = 64 := by omega
      go_wp2
      go_ret
      exact ⟨ret_i (by rw [M.low_all x hx64]), rfl⟩
end Go.Proofs.Ytjhhmghdgcmcoaa
