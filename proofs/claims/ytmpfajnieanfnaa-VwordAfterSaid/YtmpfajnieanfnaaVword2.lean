/- Contracts of package vword: what a word tells. -/
import Derived.Test.YtmpfajnieanfnaaVword
namespace Go.Proofs.Ytmpfajnieanfnaa
set_option linter.unusedVariables false
open Go.RowKit
/-! ### What a word tells -/
def lkB (w : Nat) : Bool := decide (w % 2 = 1)
def ddB (w : Nat) : Bool := decide (w / 2 % 2 = 1)
def cN (w : Nat) : Nat := w / 4 % 274877906944
def gN (w : Nat) : Nat := w / 1099511627776
theorem cN_lt (w : Nat) : cN w < 274877906944 := by unfold cN; omega
theorem gN_lt (w : Nat) (h : w < 18446744073709551616) : gN w < 16777216 := by unfold gN; omega
theorem locked_any (w : Nat) (hw : w < 18446744073709551616) (W : World) :
    Calls Try.prog 15 #[.int .u64 w] W fun e w' => e = .returned (.bool (lkB w)) ∧ W = w' := by
  have C : ∀ W : World, Calls Try.prog 65 #[.int .u64 w, .int .i64 0] W fun e w' => e = .returned (.bool (lkB w)) ∧ W = w' := fun W => by
    have h := bit_any w hw 0 W
    rw [show decide (0 ≤ (0 : Int) ∧ (0 : Int) < 64 ∧ M.bitn w (0 : Int).toNat = 1) = lkB w by simp [lkB, M.bitn]] at h
    exact h
  have C := Lib.hid C
  go_enter Try.func15, Try.ntmps15
  go_wp2_with (go_at_call 65; refine (C.out _).mono ?_; rintro e w' ⟨rfl, rfl⟩)
  go_ret
  exact ⟨rfl, rfl⟩
theorem dead_any (w : Nat) (hw : w < 18446744073709551616) (W : World) :
    Calls Try.prog 16 #[.int .u64 w] W fun e w' => e = .returned (.bool (ddB w)) ∧ W = w' := by
  have C : ∀ W : World, Calls Try.prog 65 #[.int .u64 w, .int .i64 1] W fun e w' => e = .returned (.bool (ddB w)) ∧ W = w' := fun W => by
    have h := bit_any w hw 1 W
    rw [show decide (0 ≤ (1 : Int) ∧ (1 : Int) < 64 ∧ M.bitn w (1 : Int).toNat = 1) = ddB w by simp [ddB, M.bitn]] at h
    exact h
  have C := Lib.hid C
  go_enter Try.func16, Try.ntmps16
  go_wp2_with (go_at_call 65; refine (C.out _).mono ?_; rintro e w' ⟨rfl, rfl⟩)
  go_ret
  exact ⟨rfl, rfl⟩
theorem vgen_any (w : Nat) (hw : w < 18446744073709551616) (W : World) :
    Calls Try.prog 18 #[.int .u64 w] W fun e w' => e = .returned (.int .u64 (gN w)) ∧ ∃ n, w' = W.drewN n := by
  have C : ∀ W : World, Calls Try.prog 66 #[.int .u64 w, .int .i64 40, .int .i64 24] W fun e w' => e = .returned (.int .u64 (gN w)) ∧ ∃ n, w' = W.drewN n := fun W => by
    have := get_any w hw 40 24 W; rw [get_gen w hw] at this; exact this
  have C := Lib.hid C
  go_enter Try.func18, Try.ntmps18
  go_wp2_with (go_at_call 66; refine (C.out _).mono ?_; rintro e w' ⟨rfl, n, rfl⟩)
  go_ret
  exact ⟨rfl, _, rfl⟩
theorem vcount_any (w : Nat) (hw : w < 18446744073709551616) (W : World) :
    Calls Try.prog 17 #[.int .u64 w] W fun e w' => e = .returned (.int .u64 (cN w)) ∧ ∃ n, w' = W.drewN n := by
  have C : ∀ W : World, Calls Try.prog 66 #[.int .u64 w, .int .i64 2, .int .i64 38] W fun e w' => e = .returned (.int .u64 (cN w)) ∧ ∃ n, w' = W.drewN n := fun W => by
    have := get_any w hw 2 38 W; rw [get_count w] at this; exact this
  have C := Lib.hid C
  go_enter Try.func17, Try.ntmps17
  go_wp2_with (go_at_call 66; refine (C.out _).mono ?_; rintro e w' ⟨rfl, n, rfl⟩)
  go_ret
  exact ⟨rfl, _, rfl⟩
def hgN (h : Nat) : Nat := h / 65536 % 16777216
theorem hgen_any (h : Nat) (hh : h < 18446744073709551616) (W : World) :
    Calls Try.prog 69 #[.int .u64 h] W fun e w' => e = .returned (.int .u64 (hgN h)) ∧ ∃ n, w' = W.drewN n := by
  have C : ∀ W : World, Calls Try.prog 66 #[.int .u64 h, .int .i64 16, .int .i64 24] W fun e w' => e = .returned (.int .u64 (hgN h)) ∧ ∃ n, w' = W.drewN n := fun W => by
    have := get_any h hh 16 24 W
    rw [show M.fget h 16 24 = hgN h by simp [M.fget, M.get, M.sz, hgN]] at this; exact this
  have C := Lib.hid C
  go_enter Try.func69, Try.ntmps69
  go_wp2_with (go_at_call 66; refine (C.out _).mono ?_; rintro e w' ⟨rfl, n, rfl⟩)
  go_ret
  exact ⟨rfl, _, rfl⟩
/-- How a node is begun. -/
def beginN (h w : Nat) : Int := if gN w = hgN h ∧ ddB w = false then (if lkB w then 2 else 3) else 1
theorem begin_any (h w : Nat) (hh : h < 18446744073709551616) (hw : w < 18446744073709551616) (W : World) :
    Calls Try.prog 30 #[.int .u64 h, .int .u64 w] W fun e w' => e = .returned (.int .i64 (beginN h w)) ∧ ∃ n, w' = W.drewN n := by
  have G := Lib.hid (vgen_any w hw)
  have H := Lib.hid (hgen_any h hh)
  have D := dead_any w hw
  have L := locked_any w hw
  have R : beginN h w = if gN w = hgN h ∧ ddB w = false then (if lkB w then 2 else 3) else 1 := rfl
  generalize beginN h w = r at R ⊢
  generalize gN w = x at G R
  generalize hgN h = y at H R
  generalize ddB w = d at D R
  generalize lkB w = l at L R
  have D := Lib.hid D
  have L := Lib.hid L
  by_cases k : x = y
  · subst k
    cases d <;> cases l
    all_goals
      simp at R
      subst R
      go_enter Try.func30, Try.ntmps30
      go_wp2_with (first | (go_at_call 18; refine (G.out _).mono ?_; rintro e w' ⟨rfl, n, rfl⟩) | (go_at_call 69; refine (H.out _).mono ?_; rintro e w' ⟨rfl, n, rfl⟩) | (go_at_call 16; refine (D.out _).mono ?_; rintro e w' ⟨rfl, rfl⟩) | (go_at_call 15; refine (L.out _).mono ?_; rintro e w' ⟨rfl, rfl⟩))
      go_ret
      exact ⟨rfl, _, rfl⟩
  · have hk : ((x : Int) != (y : Int)) = true := by simp; omega
    obtain rfl : r = 1 := by rw [R, if_neg (fun c => k c.1)]
    clear k R
    go_enter Try.func30, Try.ntmps30
    go_wp2_with (first | (go_at_call 18; refine (G.out _).mono ?_; rintro e w' ⟨rfl, n, rfl⟩) | (go_at_call 69; refine (H.out _).mono ?_; rintro e w' ⟨rfl, n, rfl⟩) | (go_at_call 16; refine (D.out _).mono ?_; rintro e w' ⟨rfl, rfl⟩) | (go_at_call 15; refine (L.out _).mono ?_; rintro e w' ⟨rfl, rfl⟩))
    go_ret
    exact ⟨rfl, _, rfl⟩
end Go.Proofs.Ytmpfajnieanfnaa
