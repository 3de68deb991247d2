/- layout.Pack, Inner, Entries, and the document's. -/
import Derived.Test.YtcdmcnncigfclaaDoorFPut
import Derived.Test.YtcdmcnncigfclaaDoorFBit
namespace Go.Proofs.YtcdmcnncigfclaaDoor
set_option linter.unusedVariables false
open Go.RowKit
def packN (b : Bool) (n : Int) : Nat := (if 0 ≤ n ∧ n ≤ 255 then n.toNat else 0) * 2 + (if b then 1 else 0)
theorem put_ent (n : Nat) (h : n ≤ 255) : M.fput 0 1 8 n = n * 2 := by
  have := M.fput_eq 0 1 8 n (by omega) (by omega) (by omega)
  rw [show (1 : Int) = ((1 : Nat) : Int) from rfl, show (8 : Int) = ((8 : Nat) : Int) from rfl]
  rw [this]
  have e : n % 2 ^ 8 = n := Nat.mod_eq_of_lt (by omega)
  rw [e]
  omega
theorem put_inn (n : Nat) (h : n ≤ 255) : M.fput (n * 2) 0 1 1 = n * 2 + 1 := by
  have := M.fput_eq (n * 2) 0 1 1 (by omega) (by omega) (by omega)
  rw [show (1 : Int) = ((1 : Nat) : Int) from rfl, show (0 : Int) = ((0 : Nat) : Int) from rfl]
  rw [this]
  omega
set_option maxHeartbeats 1000000 in
theorem pack_any (b : Bool) (n : Int) (hw : (Lit.int .i64 n).wf = true) (W : World) :
    Calls Tryd.prog 32 #[.bool b, .int .i64 n] W fun e w' => e = .returned (.int .u64 (packN b n : Nat)) ∧ W = w' := by
  have main : ∀ m : Nat, m ≤ 255 → packN b n = m * 2 + (if b then 1 else 0) → ((0 ≤ n ∧ n = m) ∨ ((n < 0 ∨ 255 < n) ∧ m = 0)) →
      Calls Tryd.prog 32 #[.bool b, .int .i64 n] W fun e w' => e = .returned (.int .u64 (packN b n : Nat)) ∧ W = w' := by
    intro m hm hp hn
    rw [hp]
    have C1 := put_any 0 m (by omega) (by omega) 1 8
    rw [put_ent m hm] at C1
    have C2 := put_any (m * 2) 1 (by omega) (by omega) 0 1
    rw [put_inn m hm] at C2
    have C1 := Lib.hid C1
    have C2 := Lib.hid (show ∀ W : World, Calls Tryd.prog 52 #[.int .u64 (m * 2 : Nat), .int .i64 0, .int .i64 1, .int .u64 1] W fun e w' => e = .returned (.int .u64 (m * 2 + 1 : Nat)) ∧ W = w' from C2)
    clear hp hw
    rcases hn with ⟨h0, rfl⟩ | ⟨h0, rfl⟩
    · cases b
      · go_enter Tryd.func32, Tryd.ntmps32
        go_wp2_with (go_at_call 52; refine (C1.out _).mono ?_; rintro e w' ⟨rfl, rfl⟩)
        go_ret
        exact ⟨rfl, rfl⟩
      · go_enter Tryd.func32, Tryd.ntmps32
        have t1 : True := trivial
        go_wp2_with (first | (go_at_call 52; have _t := t1; refine (C1.out _).mono ?_; rintro e w' ⟨rfl, rfl⟩; clear t1) | (go_at_call 52; refine (C2.out _).mono ?_; rintro e w' ⟨rfl, rfl⟩))
        go_ret
        exact ⟨rfl, rfl⟩
    · rcases h0 with h0 | h0
      all_goals
        cases b
        · go_enter Tryd.func32, Tryd.ntmps32
          go_wp2_with (go_at_call 52; refine (C1.out _).mono ?_; rintro e w' ⟨rfl, rfl⟩)
          go_ret
          exact ⟨rfl, rfl⟩
        · go_enter Tryd.func32, Tryd.ntmps32
          have t1 : True := trivial
          go_wp2_with (first | (go_at_call 52; have _t := t1; refine (C1.out _).mono ?_; rintro e w' ⟨rfl, rfl⟩; clear t1) | (go_at_call 52; refine (C2.out _).mono ?_; rintro e w' ⟨rfl, rfl⟩))
          go_ret
          exact ⟨rfl, rfl⟩
  by_cases h : 0 ≤ n ∧ n ≤ 255
  · exact main n.toNat (by omega) (by unfold packN; rw [if_pos h]) (.inl ⟨h.1, by omega⟩)
  · exact main 0 (by omega) (by unfold packN; rw [if_neg h]) (.inr ⟨by omega, rfl⟩)
theorem rpack_any (b : Bool) (n : Int) (hw : (Lit.int .i64 n).wf = true) (W : World) :
    Calls Tryd.prog 33 #[.bool b, .int .i64 n] W fun e w' => e = .returned (.int .u64 (packN b n : Nat)) ∧ W = w' := by
  by_cases h : 0 ≤ n ∧ n ≤ 255
  · have hp : packN b n = n.toNat * 2 + (if b then 1 else 0) := by unfold packN; rw [if_pos h]
    rw [hp]
    obtain ⟨m, rfl⟩ : ∃ m : Nat, n = m := ⟨n.toNat, by omega⟩
    have hm : m ≤ 255 := by omega
    clear hp h hw
    cases b
    all_goals
      go_enter Tryd.func33, Tryd.ntmps33
      go_wp2
      go_ret
      exact ⟨ret_i (by simp), rfl⟩
  · have hp : packN b n = (if b then 1 else 0) := by unfold packN; rw [if_neg h]; simp
    rw [hp]
    have h0 : n < 0 ∨ 255 < n := by omega
    clear hp h hw
    rcases h0 with h0 | h0
    all_goals
      cases b
      all_goals
        go_enter Tryd.func33, Tryd.ntmps33
        go_wp2
        go_ret
        exact ⟨rfl, rfl⟩
theorem below_drewN {B : Nat} {a w : World} (h : Below B a w) (n : Nat) : Below B a (w.drewN n) := ⟨h.os, h.tape, h.output, h.size, h.block⟩
def innerB (w : Nat) : Bool := decide (w % 2 = 1)
def entN (w : Nat) (f : Int) : Int := if f < 0 then 0 else if f < (w / 2 % 256 : Nat) then f else (w / 2 % 256 : Nat)
theorem inner8_any (w : Nat) (hw : w < 18446744073709551616) (W : World) :
    Calls Tryd.prog 34 #[.int .u64 w] W fun e w' => e = .returned (.bool (innerB w)) ∧ W = w' := by
  have C := bit_in w hw 0 (by omega) (by omega)
  have e : decide (M.bitn w (0 : Int).toNat = 1) = innerB w := by unfold innerB M.bitn; simp
  rw [e] at C
  have C := Lib.hid C
  clear e
  go_enter Tryd.func34, Tryd.ntmps34
  go_wp2_with (go_at_call 53; refine (C.out _).mono ?_; rintro e w' ⟨rfl, rfl⟩)
  go_ret
  exact ⟨rfl, rfl⟩
theorem rinner8_any (w : Nat) (hw : w < 18446744073709551616) (W : World) :
    Calls Tryd.prog 35 #[.int .u64 w] W fun e w' => e = .returned (.bool (innerB w)) ∧ W = w' := by
  go_enter Tryd.func35, Tryd.ntmps35
  go_wp2
  go_ret
  refine ⟨ret_b ?_, rfl⟩
  unfold innerB
  by_cases h : w % 2 = 1
  · have h2 : (w : Int) % 2 = 1 := by omega
    simp [h, h2]
  · have h2 : (w : Int) % 2 = 0 := by omega
    simp [h, h2]
theorem ent8_any (w : Nat) (f : Int) (hw : w < 18446744073709551616) (W : World) :
    Calls Tryd.prog 36 #[.int .u64 w, .int .i64 f] W fun e w' => e = .returned (.int .i64 (entN w f)) ∧ Below W.heap.size W w' := by
  have C := get_any w hw 1 8
  have e : M.fget w 1 8 = w / 2 % 256 := by simp [M.fget, M.get, M.sz]
  rw [e] at C
  have hl : w / 2 % 256 < 256 := Nat.mod_lt _ (by omega)
  unfold entN
  generalize w / 2 % 256 = x at C hl ⊢
  have C := Lib.hid C
  clear e
  go_enter Tryd.func36, Tryd.ntmps36
  go_wp2_with (go_at_call 54; refine (C.out _).mono ?_; rintro e w' ⟨rfl, n, rfl⟩)
  all_goals
    go_ret
    exact ⟨ret_i (by (repeat' split) <;> omega), below_drewN (Below.refl _ _) _⟩
theorem rent8_any (w : Nat) (f : Int) (hw : w < 18446744073709551616) (W : World) :
    Calls Tryd.prog 37 #[.int .u64 w, .int .i64 f] W fun e w' => e = .returned (.int .i64 (entN w f)) ∧ W = w' := by
  have hl : w / 2 % 256 < 256 := Nat.mod_lt _ (by omega)
  by_cases h : f < 0
  · have e : entN w f = 0 := by unfold entN; rw [if_pos h]
    rw [e]
    clear e
    go_enter Tryd.func37, Tryd.ntmps37
    go_wp2
    go_ret
    exact ⟨rfl, rfl⟩
  · have e : entN w f = if f < (w / 2 % 256 : Nat) then f else (w / 2 % 256 : Nat) := by unfold entN; rw [if_neg h]
    have E := Lib.hid e
    clear e
    go_enter Tryd.func37, Tryd.ntmps37
    go_wp2
    all_goals
      go_ret
      exact ⟨ret_i (by rw [E.out]; split <;> omega), rfl⟩
end Go.Proofs.YtcdmcnncigfclaaDoor
