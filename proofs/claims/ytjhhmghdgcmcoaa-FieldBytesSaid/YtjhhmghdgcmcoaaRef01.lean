/- Contracts of the document's answers for fields (gleaningref01). -/
import Derived.Test.YtjhhmghdgcmcoaaFPut
import Derived.Test.YtjhhmghdgcmcoaaFWide
namespace Go.Proofs.Ytjhhmghdgcmcoaa
set_option linter.unusedVariables false
open Go.RowKit
/-! ### The document's -/
theorem power_any (n : Nat) (h : n ≤ 63) (w : World) :
    Calls Try.prog 22 #[.int .i64 n] w fun e w' => e = .returned (.int .u64 (M.pw n)) ∧ w = w' := by
  go_enter Try.func22, Try.ntmps22
  go_wp2
  go_loop [3, 4] (fun p i => ∃ k : Nat, k ≤ n ∧ i = .int .i64 k ∧ p = .int .u64 (M.pw k)) (fun _ i => n - (intOf i).toNat)
  case atStart => exact ⟨0, by omega, rfl, rfl⟩
  case round =>
    obtain ⟨k, hk, rfl, rfl⟩ := hrel
    by_cases hlt : k < n
    · have hp := M.pw_succ k
      have hl := M.pw_le (k + 1) (by omega)
      have H : Hid (M.pw (k + 1) = M.pw k * 2) := Lib.hid hp
      have hb : M.pw k * 2 ≤ 9223372036854775808 := by omega
      clear hp hl
      go_wp2
      go_round
      case rel => exact ⟨k + 1, by omega, by go_num, int_v (by rw [H.out]; go_num)⟩
      case measure => simp [intOf]; omega
    · obtain rfl : k = n := by omega
      go_wp2
      go_ret
      exact ⟨rfl, rfl⟩
theorem rbit_in (w a : Nat) (hw : w < 18446744073709551616) (ha : a ≤ 63) (W : World) :
    Calls Try.prog 12 #[.int .u64 w, .int .i64 a] W fun e w' => e = .returned (.int .i64 (M.bitn w a)) ∧ W = w' := by
  have hp := M.pw_pos a
  go_enter Try.func12, Try.ntmps12
  go_wp2_with (go_at_call 22; refine (power_any _ (by omega) _).mono ?_; rintro e w' ⟨rfl, rfl⟩)
  go_ret
  refine ⟨ret_i ?_, rfl⟩
  exact M.bit_code w a hw
theorem rbit_out (w : Nat) (a : Int) (ha : a < 0 ∨ 63 < a) (W : World) :
    Calls Try.prog 12 #[.int .u64 w, .int .i64 a] W fun e w' => e = .returned (.int .i64 (-1)) ∧ W = w' := by
  rcases ha with ha | ha
  · go_enter Try.func12, Try.ntmps12
    go_wp2
    go_ret
    exact ⟨rfl, rfl⟩
  · go_enter Try.func12, Try.ntmps12
    go_wp2
    go_ret
    exact ⟨rfl, rfl⟩
theorem rget_in (w a : Nat) (hw : w < 18446744073709551616) (ha : a ≤ 63) (size : Int) (W : World) :
    Calls Try.prog 10 #[.int .u64 w, .int .i64 a, .int .i64 size] W fun e w' => e = .returned (.int .u64 (M.get w a (M.sz size))) ∧ W = w' := by
  obtain ⟨n, hn⟩ : ∃ n : Nat, n = M.rsz a size := ⟨_, rfl⟩
  have H := Lib.hid hn
  have hn1 : n ≤ 64 - a := by rw [hn]; unfold M.rsz; omega
  have hn2 : (n : Int) ≤ size ∨ n = 0 := by rw [hn]; unfold M.rsz; omega
  clear hn
  go_enter Try.func10, Try.ntmps10
  go_wp2
  go_loop [7, 8] (fun p i => ∃ k : Nat, k ≤ n ∧ i = .int .i64 k ∧ p = .int .u64 (M.get w a k)) (fun _ i => n - (intOf i).toNat)
  case atStart => exact ⟨0, by omega, rfl, int_v (by rw [M.get_zero]; rfl)⟩
  case round =>
    obtain ⟨k, hk, rfl, rfl⟩ := hrel
    by_cases hlt : k < n
    · have hs : (k : Int) < size := by omega
      have G := Lib.hid (M.get_succ w a k)
      have hp := M.pw_le k (by omega)
      have hb := M.bitn_lt w (a + k)
      have hg : M.get w a k + M.pw k ≤ 18446744073709551615 := by
        have := M.get_lt w a k
        have := M.pw_le k (by omega)
        unfold M.pw at *
        omega
      by_cases hbit : M.bitn w (a + k) = 1
      · have hB : ((M.bitn w (a + k) : Int) == 1) = true := by rw [hbit]; rfl
        have hbit := Lib.hid hbit
        go_wp2_with (first | (go_at_call 12; refine (rbit_in _ _ hw (by omega) _).mono ?_; rintro e w' ⟨rfl, rfl⟩) | (go_at_call 22; refine (power_any _ (by omega) _).mono ?_; rintro e w' ⟨rfl, rfl⟩))
        go_round
        case rel => exact ⟨k + 1, by omega, by go_num, int_v (by rw [G.out, hbit.out]; unfold M.pw; omega)⟩
        case measure => simp [intOf]; omega
      · have hB : ((M.bitn w (a + k) : Int) == 1) = false := by simp; omega
        have hbit := Lib.hid hbit
        go_wp2_with (first | (go_at_call 12; refine (rbit_in _ _ hw (by omega) _).mono ?_; rintro e w' ⟨rfl, rfl⟩))
        go_round
        case rel => exact ⟨k + 1, by omega, by go_num, int_v (by rw [G.out]; have := hbit.out; have : M.bitn w (a + k) = 0 := by omega
                                                                 rw [this]; simp)⟩
        case measure => simp [intOf]; omega
    · obtain rfl : k = n := by omega
      have hz : 64 - a ≤ k ∨ size ≤ k := by have := H.out; unfold M.rsz at this; omega
      go_wp2
      all_goals
        go_ret
        exact ⟨ret_i (by rw [← M.get_rsz w a size hw ha, H.out]), rfl⟩

theorem rget_any (w : Nat) (hw : w < 18446744073709551616) (a size : Int) (W : World) :
    Calls Try.prog 10 #[.int .u64 w, .int .i64 a, .int .i64 size] W fun e w' => e = .returned (.int .u64 (M.fget w a size)) ∧ W = w' := by
  by_cases h : 0 ≤ a ∧ a < 64
  · obtain ⟨n, rfl⟩ : ∃ n : Nat, a = n := ⟨a.toNat, by omega⟩
    refine (rget_in w n hw (by omega) size W).mono fun e w' k => ⟨?_, k.2⟩
    rw [k.1]; exact ret_i (by unfold M.fget; rw [if_pos h]; rfl)
  · have e : M.fget w a size = 0 := by unfold M.fget; rw [if_neg h]
    rw [e]
    by_cases h2 : a < 0
    · go_enter Try.func10, Try.ntmps10
      go_wp2
      go_ret
      exact ⟨rfl, rfl⟩
    · have h3 : 63 < a := by omega
      go_enter Try.func10, Try.ntmps10
      go_wp2
      go_ret
      exact ⟨rfl, rfl⟩
theorem rwidth_any (w : Nat) (hw : w < 18446744073709551616) (W : World) :
    Calls Try.prog 14 #[.int .u64 w] W fun e w' => e = .returned (.int .i64 (M.width w)) ∧ W = w' := by
  have hle : M.width w ≤ 64 := M.width_le 64 w hw
  obtain ⟨d, hd⟩ : ∃ d : Nat, d = M.width w := ⟨_, rfl⟩
  rw [← hd] at hle ⊢
  have H := Lib.hid hd
  clear hd
  go_enter Try.func14, Try.ntmps14
  go_wp2
  go_loop [0, 3] (fun x i => ∃ y k : Nat, y ≤ w ∧ k + M.width y = d ∧ x = .int .u64 y ∧ i = .int .i64 k) (fun x _ => (intOf x).toNat)
  case atStart => exact ⟨w, 0, by omega, by rw [H.out]; omega, rfl, rfl⟩
  case round =>
    obtain ⟨y, k, hy, hk, rfl, rfl⟩ := hrel
    by_cases hlt : 0 < y
    · have hw1 := M.width_pos y hlt
      have hk2 : k + 1 + M.width (y / 2) = d := by omega
      have H2 := Lib.hid hk2
      have hkd : k + 1 ≤ 64 := by omega
      clear hk hw1 hk2
      go_wp2
      go_round
      case rel => exact ⟨y / 2, k + 1, by omega, H2.out, int_v (by norm_cast), by go_num⟩
      case measure => simp [intOf]; omega
    · obtain rfl : y = 0 := by omega
      obtain rfl : k = d := by rw [← hk, M.width_zero]; rfl
      clear hk
      go_wp2
      go_ret
      exact ⟨rfl, rfl⟩
theorem rbit_i (w : Nat) (a : Int) (hw : w < 18446744073709551616) (h0 : 0 ≤ a) (h1 : a ≤ 63) (W : World) :
    Calls Try.prog 12 #[.int .u64 w, .int .i64 a] W fun e w' => e = .returned (.int .i64 (M.bitn w a.toNat)) ∧ W = w' := by
  obtain ⟨n, rfl⟩ : ∃ n : Nat, a = n := ⟨a.toNat, by omega⟩
  exact rbit_in w n hw (by omega) W
set_option maxHeartbeats 1000000 in
/-- The sum ahead of the highest bit; what stands behind it is told by what follows. -/
theorem rsigned_at (w n : Nat) (hw : w < 18446744073709551616) (hn : n ≤ 63) (size r : Int) (hs : 1 ≤ size) (hc : (64 < size ∧ n = 63) ∨ size = (n : Int) + 1)
    (hr : Hid (r = if M.bitn w n = 1 then (M.low w n : Int) - (M.pw n : Nat) else (M.low w n : Int))) (W : World) :
    Calls Try.prog 20 #[.int .u64 w, .int .i64 size] W fun e w' => e = .returned (.int .i64 r) ∧ W = w' := by
  have hround : ∀ k : Nat, k < n → M.low w k + M.pw k ≤ 9223372036854775807 := by
    intro k hk
    have := M.low_lt w k
    have := M.pw_le2 k (by omega)
    omega
  have hround := Lib.hid hround
  have hb1 : M.low w n < M.pw n := M.low_lt w n
  have hb2 : M.pw n ≤ 9223372036854775808 := M.pw_le n hn
  have hb3 : 1 ≤ M.pw n := M.pw_pos n
  rcases hc with ⟨hc, rfl⟩ | hc
  · go_enter Try.func20, Try.ntmps20
    go_wp2
    go_loop [5, 6] (fun p i => ∃ k : Nat, k ≤ 63 ∧ i = .int .i64 k ∧ p = .int .i64 (M.low w k)) (fun _ i => 63 - (intOf i).toNat)
    case atStart => exact ⟨0, by omega, rfl, int_v (by rw [M.low_zero]; rfl)⟩
    case round =>
      obtain ⟨k, hk, rfl, rfl⟩ := hrel
      by_cases hlt : k < 63
      · have G := Lib.hid (M.low_succ w k)
        have hg := hround.out k hlt
        by_cases hbit : M.bitn w k = 1
        · have hB : ((M.bitn w k : Int) == 1) = true := by rw [hbit]; rfl
          have hbit := Lib.hid hbit
          go_wp2_with (first | (go_at_call 12; refine (rbit_i _ _ (by omega) (by omega) (by omega) _).mono ?_; rintro e w' ⟨rfl, rfl⟩) | (go_at_call 22; refine (power_any _ (by omega) _).mono ?_; rintro e w' ⟨rfl, rfl⟩))
          go_round
          case rel => exact ⟨k + 1, by omega, by go_num, int_v (by rw [G.out, hbit.out]; omega)⟩
          case measure => simp [intOf]; omega
        · have hB : ((M.bitn w k : Int) == 1) = false := by simp; omega
          have hbit := Lib.hid hbit
          go_wp2_with (go_at_call 12; refine (rbit_i _ _ (by omega) (by omega) (by omega) _).mono ?_; rintro e w' ⟨rfl, rfl⟩)
          go_round
          case rel => exact ⟨k + 1, by omega, by go_num, int_v (by rw [G.out]; have := hbit.out; have := M.bitn_lt w k; have : M.bitn w k = 0 := by omega
                                                                   rw [this]; simp)⟩
          case measure => simp [intOf]; omega
      · obtain rfl : k = 63 := by omega
        have p63 : Hid (M.pw 63 = 9223372036854775808) := rfl
        by_cases hbit : M.bitn w 63 = 1
        · have hB : ((M.bitn w 63 : Int) == 1) = true := by rw [hbit]; rfl
          have hbit := Lib.hid hbit
          go_wp2_with (go_at_call 12; refine (rbit_i _ _ (by omega) (by omega) (by omega) _).mono ?_; rintro e w' ⟨rfl, rfl⟩)
          go_ret
          exact ⟨ret_i (by rw [hr.out, if_pos hbit.out]; have := p63.out; omega), rfl⟩
        · have hB : ((M.bitn w 63 : Int) == 1) = false := by simp; omega
          have hbit := Lib.hid hbit
          go_wp2_with (go_at_call 12; refine (rbit_i _ _ (by omega) (by omega) (by omega) _).mono ?_; rintro e w' ⟨rfl, rfl⟩)
          go_ret
          exact ⟨ret_i (by rw [hr.out, if_neg hbit.out]), rfl⟩
  · have hle : size ≤ 64 := by omega
    subst hc
    go_enter Try.func20, Try.ntmps20
    go_wp2
    go_loop [5, 6] (fun p i => ∃ k : Nat, k ≤ n ∧ i = .int .i64 k ∧ p = .int .i64 (M.low w k)) (fun _ i => n - (intOf i).toNat)
    case atStart => exact ⟨0, by omega, rfl, int_v (by rw [M.low_zero]; rfl)⟩
    case round =>
      obtain ⟨k, hk, rfl, rfl⟩ := hrel
      by_cases hlt : k < n
      · have G := Lib.hid (M.low_succ w k)
        have hg := hround.out k hlt
        by_cases hbit : M.bitn w k = 1
        · have hB : ((M.bitn w k : Int) == 1) = true := by rw [hbit]; rfl
          have hbit := Lib.hid hbit
          go_wp2_with (first | (go_at_call 12; refine (rbit_i _ _ (by omega) (by omega) (by omega) _).mono ?_; rintro e w' ⟨rfl, rfl⟩) | (go_at_call 22; refine (power_any _ (by omega) _).mono ?_; rintro e w' ⟨rfl, rfl⟩))
          go_round
          case rel => exact ⟨k + 1, by omega, by go_num, int_v (by rw [G.out, hbit.out]; omega)⟩
          case measure => simp [intOf]; omega
        · have hB : ((M.bitn w k : Int) == 1) = false := by simp; omega
          have hbit := Lib.hid hbit
          go_wp2_with (go_at_call 12; refine (rbit_i _ _ (by omega) (by omega) (by omega) _).mono ?_; rintro e w' ⟨rfl, rfl⟩)
          go_round
          case rel => exact ⟨k + 1, by omega, by go_num, int_v (by rw [G.out]; have := hbit.out; have := M.bitn_lt w k; have : M.bitn w k = 0 := by omega
                                                                   rw [this]; simp)⟩
          case measure => simp [intOf]; omega
      · obtain rfl : k = n := by omega
        by_cases hbit : M.bitn w k = 1
        · have hB : ((M.bitn w k : Int) == 1) = true := by rw [hbit]; rfl
          have hbit := Lib.hid hbit
          by_cases h63 : k = 63
          · subst h63
            have p63 : Hid (M.pw 63 = 9223372036854775808) := rfl
            go_wp2_with (go_at_call 12; refine (rbit_i _ _ (by omega) (by omega) (by omega) _).mono ?_; rintro e w' ⟨rfl, rfl⟩)
            go_ret
            exact ⟨ret_i (by rw [hr.out, if_pos hbit.out]; have := p63.out; omega), rfl⟩
          · have hq : M.pw k ≤ 4611686018427387904 := M.pw_le2 k (by omega)
            go_wp2_with (first | (go_at_call 12; refine (rbit_i _ _ (by omega) (by omega) (by omega) _).mono ?_; rintro e w' ⟨rfl, rfl⟩) | (go_at_call 22; refine (power_any _ (by omega) _).mono ?_; rintro e w' ⟨rfl, rfl⟩))
            go_ret
            exact ⟨ret_i (by rw [hr.out, if_pos hbit.out]), rfl⟩
        · have hB : ((M.bitn w k : Int) == 1) = false := by simp; omega
          have hbit := Lib.hid hbit
          go_wp2_with (go_at_call 12; refine (rbit_i _ _ (by omega) (by omega) (by omega) _).mono ?_; rintro e w' ⟨rfl, rfl⟩)
          go_ret
          exact ⟨ret_i (by rw [hr.out, if_neg hbit.out]), rfl⟩
theorem rsigned_any (w : Nat) (hw : w < 18446744073709551616) (size : Int) (W : World) :
    Calls Try.prog 20 #[.int .u64 w, .int .i64 size] W fun e w' => e = .returned (.int .i64 (M.fsigned w size)) ∧ W = w' := by
  by_cases h1 : size < 1
  · go_enter Try.func20, Try.ntmps20
    go_wp2
    go_ret
    exact ⟨ret_i (by unfold M.fsigned; rw [if_pos h1]), rfl⟩
  · obtain ⟨n, hn⟩ : ∃ n : Nat, n + 1 = M.sz size := ⟨M.sz size - 1, by unfold M.sz; omega⟩
    refine rsigned_at w n hw (by unfold M.sz at hn; omega) size _ (by omega) (by unfold M.sz at hn; omega) (Lib.hid ?_) W
    unfold M.fsigned
    rw [if_neg h1, ← hn, M.signed_split]
set_option maxHeartbeats 1000000 in
theorem rput_any (w v : Nat) (hw : w < 18446744073709551616) (hv : v < 18446744073709551616) (a size : Int) (W : World) :
    Calls Try.prog 17 #[.int .u64 w, .int .i64 a, .int .i64 size, .int .u64 v] W fun e w' => e = .returned (.int .u64 (M.fput w a size v)) ∧ W = w' := by
  obtain ⟨x, hx⟩ : ∃ x : Nat, x = M.fput w a size v := ⟨_, rfl⟩
  have hx64 : x < 18446744073709551616 := by rw [hx]; exact M.fput_lt w a size v hw
  rw [← hx]
  have HX := Lib.hid hx
  clear hx
  go_enter Try.func17, Try.ntmps17
  go_wp2
  go_loop [9, 10] (fun p i => ∃ k : Nat, k ≤ 64 ∧ i = .int .i64 k ∧ p = .int .u64 (M.low x k)) (fun _ i => 64 - (intOf i).toNat)
  case atStart => exact ⟨0, by omega, rfl, int_v (by rw [M.low_zero]; rfl)⟩
  case round =>
    obtain ⟨k, hk, rfl, rfl⟩ := hrel
    by_cases hlt : k < 64
    · have G := Lib.hid (M.low_succ x k)
      have hp := M.pw_le k (by omega)
      have hl := M.low_lt x k
      have hg : M.low x k + M.pw k ≤ 18446744073709551615 := by omega
      clear hl hp
      by_cases hin : 0 ≤ a ∧ a ≤ k ∧ (k : Int) - a < size
      · have hbit : M.bitn x k = M.bitn v (k - a.toNat) := by rw [HX.out]; exact M.fput_bit w a size v k hlt hin
        obtain ⟨h0, h1, h2⟩ := hin
        obtain ⟨c, rfl⟩ : ∃ c : Nat, a = c := ⟨a.toNat, by omega⟩
        rw [Int.toNat_natCast] at hbit
        rw [hbit] at G
        clear hbit
        by_cases hbv : M.bitn v (k - c) = 1
        · have hB : ((M.bitn v (k - c) : Int) == 1) = true := by rw [hbv]; rfl
          have hbv := Lib.hid hbv
          go_wp2_with (first | (go_at_call 12; refine (rbit_i _ _ (by omega) (by omega) (by omega) _).mono ?_; rintro e w' ⟨rfl, rfl⟩) | (go_at_call 22; refine (power_any _ (by omega) _).mono ?_; rintro e w' ⟨rfl, rfl⟩))
          go_round
          case rel => exact ⟨k + 1, by omega, by go_num, int_v (by rw [G.out, hbv.out]; omega)⟩
          case measure => simp [intOf]; omega
        · have hB : ((M.bitn v (k - c) : Int) == 1) = false := by simp; omega
          have hbv := Lib.hid hbv
          go_wp2_with (go_at_call 12; refine (rbit_i _ _ (by omega) (by omega) (by omega) _).mono ?_; rintro e w' ⟨rfl, rfl⟩)
          go_round
          case rel => exact ⟨k + 1, by omega, by go_num, int_v (by rw [G.out]; have := hbv.out; have := M.bitn_lt v (k - c); have : M.bitn v (k - c) = 0 := by omega
                                                                   rw [this]; simp)⟩
          case measure => simp [intOf]; omega
      · have hbit : M.bitn x k = M.bitn w k := by rw [HX.out]; exact M.fput_bit_not w a size v k hlt hin
        rw [hbit] at G
        clear hbit
        by_cases hbv : M.bitn w k = 1
        · have hB : ((M.bitn w k : Int) == 1) = true := by rw [hbv]; rfl
          have hbv := Lib.hid hbv
          by_cases c1 : a < 0
          rotate_left
          by_cases c2 : (k : Int) < a
          rotate_left
          have c3 : size ≤ (k : Int) - a := by omega
          all_goals
            clear hin
            go_wp2_with (first | (go_at_call 12; refine (rbit_i _ _ (by omega) (by omega) (by omega) _).mono ?_; rintro e w' ⟨rfl, rfl⟩) | (go_at_call 22; refine (power_any _ (by omega) _).mono ?_; rintro e w' ⟨rfl, rfl⟩))
            go_round
            case rel => exact ⟨k + 1, by omega, by go_num, int_v (by rw [G.out, hbv.out]; omega)⟩
            case measure => simp [intOf]; omega
        · have hB : ((M.bitn w k : Int) == 1) = false := by simp; omega
          have hbv := Lib.hid hbv
          by_cases c1 : a < 0
          rotate_left
          by_cases c2 : (k : Int) < a
          rotate_left
          have c3 : size ≤ (k : Int) - a := by omega
          all_goals
            clear hin
            go_wp2_with (go_at_call 12; refine (rbit_i _ _ (by omega) (by omega) (by omega) _).mono ?_; rintro e w' ⟨rfl, rfl⟩)
            go_round
            case rel => exact ⟨k + 1, by omega, by go_num, int_v (by rw [G.out]; have := hbv.out; have := M.bitn_lt w k; have : M.bitn w k = 0 := by omega
                                                                     rw [this]; simp)⟩
            case measure => simp [intOf]; omega
    · obtain rfl : k = 64 := by omega
      go_wp2
      go_ret
      exact ⟨ret_i (by rw [M.low_all x hx64]), rfl⟩
end Go.Proofs.Ytjhhmghdgcmcoaa
