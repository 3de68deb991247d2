/- Contracts of vword.Make, handle.Make; chapter 4's example. -/
import Derived.Test.YtmpfajnieanfnaaRef04
namespace Go.Proofs.Ytmpfajnieanfnaa
set_option linter.unusedVariables false
open Go.RowKit

theorem or_add (i a b : Nat) (h : b < 2 ^ i) : b ||| (2 ^ i * a) = 2 ^ i * a + b := by
  rw [Nat.or_comm, ← Nat.two_pow_add_eq_or_of_lt h]
def flagN (l d : Bool) : Nat := (if d then 2 else 0) + (if l then 1 else 0)
def makeN (g c : Nat) (d l : Bool) : Nat := 1099511627776 * (g % 16777216) + (4 * (c % 274877906944) + flagN l d)
theorem flagN_lt (l d : Bool) : flagN l d < 4 := by cases l <;> cases d <;> decide
theorem makeN_lt (g c : Nat) (d l : Bool) : makeN g c d l < 18446744073709551616 := by have := flagN_lt l d; unfold makeN; omega
theorem make_or (g c : Nat) (f : Nat) (hf : f < 4) : bits .or .u64 (bits .or .u64 (bits .or .u64 0 (f : Int)) ((4 * (c % 274877906944) : Nat) : Int)) ((1099511627776 * (g % 16777216) : Nat) : Int) = ((1099511627776 * (g % 16777216) + (4 * (c % 274877906944) + f) : Nat) : Int) := by
  have h0 : bits .or .u64 0 (f : Int) = (f : Int) := by
    have h := u64_or_nat 0 f (by omega) (by omega)
    rw [show ((0 : Nat) : Int) = 0 from rfl] at h
    rw [h, Nat.zero_or]
  rw [h0, u64_or_nat f _ (by omega) (by omega), or_add 2 (c % 274877906944) f hf, u64_or_nat _ _ (by omega) (by omega), or_add 40 (g % 16777216) _ (by omega)]
theorem make_word (g c : Nat) (d l : Bool) : (makeN g c d l : Int) = wordI l d c g := by
  unfold makeN wordI flagN
  cases l <;> cases d <;> simp <;> omega
theorem s00 (W : World) (p q : Addr) (hp : W.cell? p = some (.int .i64 1)) (hq : W.cell? q = some (.int .u64 0)) :
    Calls Try.prog 73 #[.int .u64 0, .pointer (some p), .pointer (some q)] W fun e w' => e = .returned (.int .u64 0) ∧ W = w' := set_live 0 p q (by omega) W hp hq
theorem s01 (W : World) (p q : Addr) (hp : W.cell? p = some (.int .i64 1)) (hq : W.cell? q = some (.int .u64 1)) :
    Calls Try.prog 73 #[.int .u64 0, .pointer (some p), .pointer (some q)] W fun e w' => e = .returned (.int .u64 2) ∧ W = w' := set_dead 0 p q (by omega) W hp hq
theorem s10 (W : World) (p q : Addr) (hp : W.cell? p = some (.int .i64 0)) (hq : W.cell? q = some (.int .u64 0)) :
    Calls Try.prog 73 #[.int .u64 0, .pointer (some p), .pointer (some q)] W fun e w' => e = .returned (.int .u64 0) ∧ W = w' := set_undo 0 p q (by omega) W hp hq
theorem s11 (W : World) (p q : Addr) (hp : W.cell? p = some (.int .i64 0)) (hq : W.cell? q = some (.int .u64 1)) :
    Calls Try.prog 73 #[.int .u64 0, .pointer (some p), .pointer (some q)] W fun e w' => e = .returned (.int .u64 1) ∧ W = w' := set_lock 0 p q (by omega) W hp hq
theorem s20 (W : World) (p q : Addr) (hp : W.cell? p = some (.int .i64 0)) (hq : W.cell? q = some (.int .u64 0)) :
    Calls Try.prog 73 #[.int .u64 2, .pointer (some p), .pointer (some q)] W fun e w' => e = .returned (.int .u64 2) ∧ W = w' := set_undo 2 p q (by omega) W hp hq
theorem s21 (W : World) (p q : Addr) (hp : W.cell? p = some (.int .i64 0)) (hq : W.cell? q = some (.int .u64 1)) :
    Calls Try.prog 73 #[.int .u64 2, .pointer (some p), .pointer (some q)] W fun e w' => e = .returned (.int .u64 3) ∧ W = w' := set_lock 2 p q (by omega) W hp hq
set_option maxHeartbeats 4000000 in
theorem vmake_any (g c : Nat) (d l : Bool) (hg : g < 18446744073709551616) (hc : c < 18446744073709551616) (W : World) :
    Calls Try.prog 12 #[.int .u64 g, .int .u64 c, .bool d, .bool l] W fun e w' => e = .returned (.int .u64 (makeN g c d l : Nat)) ∧ Below W.heap.size W w' := by
  have P1 : ∀ W : World, Calls Try.prog 64 #[.int .u64 0, .int .i64 2, .int .i64 38, .int .u64 c] W fun e w' => e = .returned (.int .u64 (4 * (c % 274877906944) : Nat)) ∧ W = w' := fun W => by
    have h := put_any 0 c (by omega) hc 2 38 W
    rw [put_count 0 c (by omega)] at h
    simpa using h
  have P2 : ∀ W : World, Calls Try.prog 64 #[.int .u64 0, .int .i64 40, .int .i64 24, .int .u64 g] W fun e w' => e = .returned (.int .u64 (1099511627776 * (g % 16777216) : Nat)) ∧ W = w' := fun W => by
    have h := put_any 0 g (by omega) hg 40 24 W
    rw [put_gen 0 g (by omega)] at h
    simpa using h
  have E : ∀ f : Nat, f < 4 → _ := make_or g c
  have R : makeN g c d l = 1099511627776 * (g % 16777216) + (4 * (c % 274877906944) + flagN l d) := rfl
  generalize makeN g c d l = r at R ⊢
  generalize 4 * (c % 274877906944) = x at P1 E R
  generalize 1099511627776 * (g % 16777216) = y at P2 E R
  have HP1 := Lib.hid P1
  have HP2 := Lib.hid P2
  have HE := Lib.hid E
  have HR := Lib.hid R
  clear P1 P2 E R
  cases d <;> cases l
  · go_enter Try.func12, Try.ntmps12
    go_wp2
    refine wp_loop_rounds 3 ?_
    rw [rounds_succ]
    go_wp2_with (go_at_call 73; refine (s00 _ _ _ (by go_simp) (by go_simp)).mono ?_; rintro e w' ⟨rfl, rfl⟩)
    rw [rounds_succ]
    go_wp2_with (go_at_call 73; refine (s10 _ _ _ (by go_simp) (by go_simp)).mono ?_; rintro e w' ⟨rfl, rfl⟩)
    rw [rounds_succ]
    go_wp2_with (go_at_call 64; first | ((with_reducible refine (HP1.out _).mono ?_); rintro e w' ⟨rfl, rfl⟩) | ((with_reducible refine (HP2.out _).mono ?_); rintro e w' ⟨rfl, rfl⟩))
    go_wp2
    refine wp_loop_rounds 4 ?_
    rw [rounds_succ]
    go_wp2
    rw [rounds_succ]
    go_wp2
    rw [rounds_succ]
    go_wp2
    rw [rounds_succ]
    go_wp2
    go_ret
    exact ⟨ret_i (by rw [HR.out]; exact HE.out 0 (by omega)), by repeat (first | exact Below.refl _ _ | assumption | refine below_drewN ?_ _ | refine Below.alloc ?_ (by first | omega | (simp; done) | (simp; omega)) _ | refine Below.setCell ?_ (by first | omega | (simp; done) | (simp; omega)) _)⟩
  · go_enter Try.func12, Try.ntmps12
    go_wp2
    refine wp_loop_rounds 3 ?_
    rw [rounds_succ]
    go_wp2_with (go_at_call 73; refine (s00 _ _ _ (by go_simp) (by go_simp)).mono ?_; rintro e w' ⟨rfl, rfl⟩)
    rw [rounds_succ]
    go_wp2_with (go_at_call 73; refine (s11 _ _ _ (by go_simp) (by go_simp)).mono ?_; rintro e w' ⟨rfl, rfl⟩)
    rw [rounds_succ]
    go_wp2_with (go_at_call 64; first | ((with_reducible refine (HP1.out _).mono ?_); rintro e w' ⟨rfl, rfl⟩) | ((with_reducible refine (HP2.out _).mono ?_); rintro e w' ⟨rfl, rfl⟩))
    go_wp2
    refine wp_loop_rounds 4 ?_
    rw [rounds_succ]
    go_wp2
    rw [rounds_succ]
    go_wp2
    rw [rounds_succ]
    go_wp2
    rw [rounds_succ]
    go_wp2
    go_ret
    exact ⟨ret_i (by rw [HR.out]; exact HE.out 1 (by omega)), by repeat (first | exact Below.refl _ _ | assumption | refine below_drewN ?_ _ | refine Below.alloc ?_ (by first | omega | (simp; done) | (simp; omega)) _ | refine Below.setCell ?_ (by first | omega | (simp; done) | (simp; omega)) _)⟩
  · go_enter Try.func12, Try.ntmps12
    go_wp2
    refine wp_loop_rounds 3 ?_
    rw [rounds_succ]
    go_wp2_with (go_at_call 73; refine (s01 _ _ _ (by go_simp) (by go_simp)).mono ?_; rintro e w' ⟨rfl, rfl⟩)
    rw [rounds_succ]
    go_wp2_with (go_at_call 73; refine (s20 _ _ _ (by go_simp) (by go_simp)).mono ?_; rintro e w' ⟨rfl, rfl⟩)
    rw [rounds_succ]
    go_wp2_with (go_at_call 64; first | ((with_reducible refine (HP1.out _).mono ?_); rintro e w' ⟨rfl, rfl⟩) | ((with_reducible refine (HP2.out _).mono ?_); rintro e w' ⟨rfl, rfl⟩))
    go_wp2
    refine wp_loop_rounds 4 ?_
    rw [rounds_succ]
    go_wp2
    rw [rounds_succ]
    go_wp2
    rw [rounds_succ]
    go_wp2
    rw [rounds_succ]
    go_wp2
    go_ret
    exact ⟨ret_i (by rw [HR.out]; exact HE.out 2 (by omega)), by repeat (first | exact Below.refl _ _ | assumption | refine below_drewN ?_ _ | refine Below.alloc ?_ (by first | omega | (simp; done) | (simp; omega)) _ | refine Below.setCell ?_ (by first | omega | (simp; done) | (simp; omega)) _)⟩
  · go_enter Try.func12, Try.ntmps12
    go_wp2
    refine wp_loop_rounds 3 ?_
    rw [rounds_succ]
    go_wp2_with (go_at_call 73; refine (s01 _ _ _ (by go_simp) (by go_simp)).mono ?_; rintro e w' ⟨rfl, rfl⟩)
    rw [rounds_succ]
    go_wp2_with (go_at_call 73; refine (s21 _ _ _ (by go_simp) (by go_simp)).mono ?_; rintro e w' ⟨rfl, rfl⟩)
    rw [rounds_succ]
    go_wp2_with (go_at_call 64; first | ((with_reducible refine (HP1.out _).mono ?_); rintro e w' ⟨rfl, rfl⟩) | ((with_reducible refine (HP2.out _).mono ?_); rintro e w' ⟨rfl, rfl⟩))
    go_wp2
    refine wp_loop_rounds 4 ?_
    rw [rounds_succ]
    go_wp2
    rw [rounds_succ]
    go_wp2
    rw [rounds_succ]
    go_wp2
    rw [rounds_succ]
    go_wp2
    go_ret
    exact ⟨ret_i (by rw [HR.out]; exact HE.out 3 (by omega)), by repeat (first | exact Below.refl _ _ | assumption | refine below_drewN ?_ _ | refine Below.alloc ?_ (by first | omega | (simp; done) | (simp; omega)) _ | refine Below.setCell ?_ (by first | omega | (simp; done) | (simp; omega)) _)⟩
end Go.Proofs.Ytmpfajnieanfnaa
