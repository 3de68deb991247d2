/- Contracts of package vword: turns of version words. -/
import Derived.Test.YtmpfajnieanfnaaFPut
import Derived.Test.YtmpfajnieanfnaaFBit
import Derived.Below
namespace Go.Proofs.Ytmpfajnieanfnaa
set_option linter.unusedVariables false
open Go.RowKit

/-! ### Plain numbers -/
def lockN (w : Nat) : Nat := 2 * (w / 2) + 1
def undoN (w : Nat) : Nat := 2 * (w / 2)
def deadN (w v : Nat) : Nat := 4 * (w / 4) + 2 * v + w % 2
def countN (w : Nat) : Nat := 1099511627776 * (w / 1099511627776) + 4 * ((w / 4 % 274877906944 + 1) % 274877906944) + w % 4
def genN (w : Nat) : Nat := 1099511627776 * ((w / 1099511627776 + 1) % 16777216) + w % 1099511627776
def bumpN (w : Nat) : Nat := countN (undoN w)
def killN (w : Nat) : Nat := deadN (bumpN w) 1
def renewN (w : Nat) : Nat := genN (countN (deadN (lockN w) 0))
theorem lockN_lt {w : Nat} (h : w < 18446744073709551616) : lockN w < 18446744073709551616 := by unfold lockN; omega
theorem undoN_lt {w : Nat} (h : w < 18446744073709551616) : undoN w < 18446744073709551616 := by unfold undoN; omega
theorem deadN_lt {w v : Nat} (h : w < 18446744073709551616) (hv : v ≤ 1) : deadN w v < 18446744073709551616 := by unfold deadN; omega
theorem countN_lt {w : Nat} (h : w < 18446744073709551616) : countN w < 18446744073709551616 := by unfold countN; omega
theorem genN_lt {w : Nat} (h : w < 18446744073709551616) : genN w < 18446744073709551616 := by unfold genN; omega
theorem bumpN_lt {w : Nat} (h : w < 18446744073709551616) : bumpN w < 18446744073709551616 := countN_lt (undoN_lt h)
theorem killN_lt {w : Nat} (h : w < 18446744073709551616) : killN w < 18446744073709551616 := deadN_lt (bumpN_lt h) (by omega)
theorem renewN_lt {w : Nat} (h : w < 18446744073709551616) : renewN w < 18446744073709551616 := genN_lt (countN_lt (deadN_lt (lockN_lt h) (by omega)))
theorem put_lock (w : Nat) (h : w < 18446744073709551616) : M.fput w 0 1 1 = lockN w := by
  have h1 : M.fput w 0 1 1 = 2 * (w / 2) + (1 * (1 % 2) + w % 1) := M.fput_eq w 0 1 1 (by omega) (by omega) h
  unfold lockN; omega
theorem put_undo (w : Nat) (h : w < 18446744073709551616) : M.fput w 0 1 0 = undoN w := by
  have h1 : M.fput w 0 1 0 = 2 * (w / 2) + (1 * (0 % 2) + w % 1) := M.fput_eq w 0 1 0 (by omega) (by omega) h
  unfold undoN; omega
theorem put_dead (w v : Nat) (h : w < 18446744073709551616) (hv : v ≤ 1) : M.fput w 1 1 v = deadN w v := by
  have h1 : M.fput w 1 1 v = 4 * (w / 4) + (2 * (v % 2) + w % 2) := M.fput_eq w 1 1 v (by omega) (by omega) h
  unfold deadN; omega
theorem get_count (w : Nat) : M.fget w 2 38 = w / 4 % 274877906944 := by simp [M.fget, M.get, M.sz]
theorem get_gen (w : Nat) (h : w < 18446744073709551616) : M.fget w 40 24 = w / 1099511627776 := by simp [M.fget, M.get, M.sz]; omega
theorem put_count (w c : Nat) (h : w < 18446744073709551616) : M.fput w 2 38 c = 1099511627776 * (w / 1099511627776) + (4 * (c % 274877906944) + w % 4) := M.fput_eq w 2 38 c (by omega) (by omega) h
theorem put_gen (w c : Nat) (h : w < 18446744073709551616) : M.fput w 40 24 c = 18446744073709551616 * (w / 18446744073709551616) + (1099511627776 * (c % 16777216) + w % 1099511627776) := M.fput_eq w 40 24 c (by omega) (by omega) h
theorem more_count (w : Nat) (h : w < 18446744073709551616) : M.fput w 2 38 (M.fget w 2 38 + 1) = countN w := by
  rw [put_count w _ h, get_count]; unfold countN; omega
theorem more_gen (w : Nat) (h : w < 18446744073709551616) : M.fput w 40 24 (M.fget w 40 24 + 1) = genN w := by
  rw [put_gen w _ h, get_gen w h]; unfold genN; omega

/-! ### The turns that are values -/
theorem set1_any (w : Nat) (a b : Int) (p q : Addr) (hw : w < 18446744073709551616) (hb0 : 0 ≤ b) (hb : b ≤ 1) (W : World) (hp : W.cell? p = some (.int .i64 a)) (hq : W.cell? q = some (.int .u64 b)) :
    Calls Try.prog 73 #[.int .u64 w, .pointer (some p), .pointer (some q)] W fun e w' => e = .returned (.int .u64 (M.fput w a 1 b.toNat)) ∧ W = w' := by
  obtain ⟨b, rfl⟩ : ∃ n : Nat, b = n := ⟨b.toNat, by omega⟩
  go_enter Try.func73, Try.ntmps73
  go_wp2_with (go_at_call 64; refine (put_any _ _ hw (by omega) _ _ _).mono ?_; rintro e w' ⟨rfl, rfl⟩)
  go_ret
  exact ⟨rfl, rfl⟩
theorem set_lock (w : Nat) (p q : Addr) (hw : w < 18446744073709551616) (W : World) (hp : W.cell? p = some (.int .i64 0)) (hq : W.cell? q = some (.int .u64 1)) :
    Calls Try.prog 73 #[.int .u64 w, .pointer (some p), .pointer (some q)] W fun e w' => e = .returned (.int .u64 (lockN w)) ∧ W = w' := by
  have := set1_any w 0 1 p q hw (by omega) (by omega) W hp hq
  rw [show (1 : Int).toNat = 1 from rfl, put_lock w hw] at this; exact this
theorem set_undo (w : Nat) (p q : Addr) (hw : w < 18446744073709551616) (W : World) (hp : W.cell? p = some (.int .i64 0)) (hq : W.cell? q = some (.int .u64 0)) :
    Calls Try.prog 73 #[.int .u64 w, .pointer (some p), .pointer (some q)] W fun e w' => e = .returned (.int .u64 (undoN w)) ∧ W = w' := by
  have := set1_any w 0 0 p q hw (by omega) (by omega) W hp hq
  rw [show (0 : Int).toNat = 0 from rfl, put_undo w hw] at this; exact this
theorem set_dead (w : Nat) (p q : Addr) (hw : w < 18446744073709551616) (W : World) (hp : W.cell? p = some (.int .i64 1)) (hq : W.cell? q = some (.int .u64 1)) :
    Calls Try.prog 73 #[.int .u64 w, .pointer (some p), .pointer (some q)] W fun e w' => e = .returned (.int .u64 (deadN w 1)) ∧ W = w' := by
  have := set1_any w 1 1 p q hw (by omega) (by omega) W hp hq
  rw [show (1 : Int).toNat = 1 from rfl, put_dead w 1 hw (by omega)] at this; exact this
theorem set_live (w : Nat) (p q : Addr) (hw : w < 18446744073709551616) (W : World) (hp : W.cell? p = some (.int .i64 1)) (hq : W.cell? q = some (.int .u64 0)) :
    Calls Try.prog 73 #[.int .u64 w, .pointer (some p), .pointer (some q)] W fun e w' => e = .returned (.int .u64 (deadN w 0)) ∧ W = w' := by
  have := set1_any w 1 0 p q hw (by omega) (by omega) W hp hq
  rw [show (0 : Int).toNat = 0 from rfl, put_dead w 0 hw (by omega)] at this; exact this
theorem more_any (w a s x : Nat) (p q : Addr) (hw : w < 18446744073709551616) (W : World) (hx : M.fget w a s = x) (hx2 : x + 1 < 18446744073709551616) (hp : W.cell? p = some (.int .i64 a)) (hq : W.cell? q = some (.int .i64 s)) :
    Calls Try.prog 75 #[.int .u64 w, .pointer (some p), .pointer (some q)] W fun e w' => e = .returned (.int .u64 (M.fput w a s (x + 1))) ∧ ∃ n, w' = W.drewN n := by
  have G := fun W => get_any w hw a s W
  rw [hx] at G
  have G := Lib.hid G
  have C : ∀ W : World, Calls Try.prog 64 #[.int .u64 w, .int .i64 a, .int .i64 s, .int .u64 ((x : Int) + 1)] W fun e w' => e = .returned (.int .u64 (M.fput w a s (x + 1))) ∧ W = w' := fun W => put_any w (x + 1) hw hx2 a s W
  have C := Lib.hid C
  have hk : IntKind.u64.wrap ((x : Int) + 1) = (x : Int) + 1 := IntWalk.u64_in _ (by omega)
  clear hx
  go_enter Try.func75, Try.ntmps75
  go_wp2
  go_quiet ((first | (go_at_call 66; exact Calls.quiet_of (G.out _)) | (go_at_call 64; exact quiet_left (C.out _))))
  go_wp2
  go_ret
  exact ⟨rfl, _, rfl⟩
theorem more_count_any (w : Nat) (p q : Addr) (hw : w < 18446744073709551616) (W : World) (hp : W.cell? p = some (.int .i64 2)) (hq : W.cell? q = some (.int .i64 38)) :
    Calls Try.prog 75 #[.int .u64 w, .pointer (some p), .pointer (some q)] W fun e w' => e = .returned (.int .u64 (countN w)) ∧ ∃ n, w' = W.drewN n := by
  have hl : M.fget w 2 38 + 1 < 18446744073709551616 := by rw [get_count]; omega
  have := more_any w 2 38 _ p q hw W rfl hl hp hq
  rw [show M.fput w ((2 : Nat) : Int) ((38 : Nat) : Int) (M.fget w ((2 : Nat) : Int) ((38 : Nat) : Int) + 1) = countN w from more_count w hw] at this
  exact this
theorem more_gen_any (w : Nat) (p q : Addr) (hw : w < 18446744073709551616) (W : World) (hp : W.cell? p = some (.int .i64 40)) (hq : W.cell? q = some (.int .i64 24)) :
    Calls Try.prog 75 #[.int .u64 w, .pointer (some p), .pointer (some q)] W fun e w' => e = .returned (.int .u64 (genN w)) ∧ ∃ n, w' = W.drewN n := by
  have hl : M.fget w 40 24 + 1 < 18446744073709551616 := by rw [get_gen w hw]; omega
  have := more_any w 40 24 _ p q hw W rfl hl hp hq
  rw [show M.fput w ((40 : Nat) : Int) ((24 : Nat) : Int) (M.fget w ((40 : Nat) : Int) ((24 : Nat) : Int) + 1) = genN w from more_gen w hw] at this
  exact this

/-! ### The turns -/
theorem below_drewN {B : Nat} {a w : World} (h : Below B a w) (n : Nat) : Below B a (w.drewN n) := ⟨h.os, h.tape, h.output, h.size, h.block⟩
set_option maxHeartbeats 1000000 in
theorem lock_any (w : Nat) (hw : w < 18446744073709551616) (W : World) :
    Calls Try.prog 20 #[.int .u64 w] W fun e w' => e = .returned (.int .u64 (lockN w : Nat)) ∧ Below W.heap.size W w' := by
  go_enter Try.func20, Try.ntmps20
  go_wp2
  refine wp_loop_rounds 2 ?_
  rw [rounds_succ]
  go_wp2_with (go_at_call 73; refine (set_lock _ _ _ hw _ (by go_simp) (by go_simp)).mono ?_; rintro e w' ⟨rfl, rfl⟩)
  rw [rounds_succ]
  go_wp2
  go_ret
  exact ⟨rfl, by repeat (first | exact Below.refl _ _ | assumption | refine below_drewN ?_ _ | refine Below.alloc ?_ (by first | omega | (simp; done) | (simp; omega)) _ | refine Below.setCell ?_ (by first | omega | (simp; done) | (simp; omega)) _)⟩
set_option maxHeartbeats 1000000 in
theorem undo_any (w : Nat) (hw : w < 18446744073709551616) (W : World) :
    Calls Try.prog 22 #[.int .u64 w] W fun e w' => e = .returned (.int .u64 (undoN w : Nat)) ∧ Below W.heap.size W w' := by
  go_enter Try.func22, Try.ntmps22
  go_wp2
  refine wp_loop_rounds 2 ?_
  rw [rounds_succ]
  go_wp2_with (go_at_call 73; refine (set_undo _ _ _ hw _ (by go_simp) (by go_simp)).mono ?_; rintro e w' ⟨rfl, rfl⟩)
  rw [rounds_succ]
  go_wp2
  go_ret
  exact ⟨rfl, by repeat (first | exact Below.refl _ _ | assumption | refine below_drewN ?_ _ | refine Below.alloc ?_ (by first | omega | (simp; done) | (simp; omega)) _ | refine Below.setCell ?_ (by first | omega | (simp; done) | (simp; omega)) _)⟩
set_option maxHeartbeats 1000000 in
theorem bump_any (w : Nat) (hw : w < 18446744073709551616) (W : World) :
    Calls Try.prog 24 #[.int .u64 w] W fun e w' => e = .returned (.int .u64 (bumpN w : Nat)) ∧ Below W.heap.size W w' := by
  go_enter Try.func24, Try.ntmps24
  go_wp2_with (go_at_call 22; refine (undo_any _ hw _).mono ?_; rintro e w1 ⟨rfl, hb1⟩; have hz1 := hb1.size)
  go_wp2
  refine wp_loop_rounds 2 ?_
  rw [rounds_succ]
  go_wp2_with (go_at_call 75; refine (more_count_any _ _ _ (undoN_lt hw) _ (by go_simp) (by go_simp)).mono ?_; rintro e w' ⟨rfl, n, rfl⟩)
  rw [rounds_succ]
  go_wp2
  go_ret
  exact ⟨rfl, by repeat (first | exact Below.refl _ _ | assumption | refine below_drewN ?_ _ | refine Below.alloc ?_ (by first | omega | (simp; done) | (simp; omega)) _ | refine Below.setCell ?_ (by first | omega | (simp; done) | (simp; omega)) _)⟩
set_option maxHeartbeats 1000000 in
theorem kill_any (w : Nat) (hw : w < 18446744073709551616) (W : World) :
    Calls Try.prog 26 #[.int .u64 w] W fun e w' => e = .returned (.int .u64 (killN w : Nat)) ∧ Below W.heap.size W w' := by
  go_enter Try.func26, Try.ntmps26
  go_wp2_with (go_at_call 24; refine (bump_any _ hw _).mono ?_; rintro e w1 ⟨rfl, hb1⟩; have hz1 := hb1.size)
  go_wp2
  refine wp_loop_rounds 2 ?_
  rw [rounds_succ]
  go_wp2_with (go_at_call 73; refine (set_dead _ _ _ (bumpN_lt hw) _ (by go_simp) (by go_simp)).mono ?_; rintro e w' ⟨rfl, rfl⟩)
  rw [rounds_succ]
  go_wp2
  go_ret
  exact ⟨rfl, by repeat (first | exact Below.refl _ _ | assumption | refine below_drewN ?_ _ | refine Below.alloc ?_ (by first | omega | (simp; done) | (simp; omega)) _ | refine Below.setCell ?_ (by first | omega | (simp; done) | (simp; omega)) _)⟩
set_option maxHeartbeats 1000000 in
theorem renew_any (w : Nat) (hw : w < 18446744073709551616) (W : World) :
    Calls Try.prog 28 #[.int .u64 w] W fun e w' => e = .returned (.int .u64 (renewN w : Nat)) ∧ Below W.heap.size W w' := by
  go_enter Try.func28, Try.ntmps28
  go_wp2_with (go_at_call 20; refine (lock_any _ hw _).mono ?_; rintro e w1 ⟨rfl, hb1⟩; have hz1 := hb1.size)
  go_wp2
  refine wp_loop_rounds 4 ?_
  rw [rounds_succ]
  go_wp2_with (go_at_call 73; refine (set_live _ _ _ (lockN_lt hw) _ (by go_simp) (by go_simp)).mono ?_; rintro e w' ⟨rfl, rfl⟩)
  rw [rounds_succ]
  go_wp2_with (go_at_call 75; refine (more_count_any _ _ _ (deadN_lt (lockN_lt hw) (by omega)) _ (by go_simp) (by go_simp)).mono ?_; rintro e w' ⟨rfl, n, rfl⟩)
  rw [rounds_succ]
  go_wp2_with (go_at_call 75; refine (more_gen_any _ _ _ (countN_lt (deadN_lt (lockN_lt hw) (by omega))) _ (by go_simp) (by go_simp)).mono ?_; rintro e w' ⟨rfl, n, rfl⟩)
  rw [rounds_succ]
  go_wp2
  go_ret
  exact ⟨rfl, by repeat (first | exact Below.refl _ _ | assumption | refine below_drewN ?_ _ | refine Below.alloc ?_ (by first | omega | (simp; done) | (simp; omega)) _ | refine Below.setCell ?_ (by first | omega | (simp; done) | (simp; omega)) _)⟩

end Go.Proofs.Ytmpfajnieanfnaa
