/- Contracts of package seek: one search. -/
import Derived.Test.YtahpdifneajblaaField
import Derived.Test.YtahpdifneajblaaFrame
import Derived.Deep.RegionHeld3
import Derived.Deep.LoopGhost
namespace Go.Proofs.Ytahpdifneajblaa
set_option linter.unusedVariables false
open Go.RowKit
theorem below_drewN {B : Nat} {a w : World} (h : Below B a w) (n : Nat) : Below B a (w.drewN n) := ⟨h.os, h.tape, h.output, h.size, h.block⟩

/-! ### Plain numbers -/
def wantOf (lo hi : Int) : Int := if lo < hi then lo + (hi - lo) / 2 else -1
def passOf (k q x : Int) : Bool := if k = 1 then decide (x < q) else decide (x ≤ q)

/-! ### The automaton -/
theorem swant_any (k q lo hi : Int) (h0 : 0 ≤ lo) (h1 : hi ≤ 9223372036854775807) (W : World) :
    Calls Try.prog 38 #[.agg #[.int .i64 k, .int .u64 q, .int .i64 lo, .int .i64 hi]] W fun e w' => e = .returned (.int .i64 (wantOf lo hi)) ∧ Below W.heap.size W w' := by
  by_cases h : lo < hi
  · go_enter Try.func38, Try.ntmps38
    go_wp2
    go_ret
    exact ⟨ret_i (by unfold wantOf; rw [if_pos h]), (Below.refl _ _).alloc (Nat.le_refl _) _⟩
  · go_enter Try.func38, Try.ntmps38
    go_wp2
    go_ret
    exact ⟨ret_i (by unfold wantOf; rw [if_neg (by omega)]), (Below.refl _ _).alloc (Nat.le_refl _) _⟩
theorem sat_any (k q lo hi : Int) (W : World) :
    Calls Try.prog 35 #[.agg #[.int .i64 k, .int .u64 q, .int .i64 lo, .int .i64 hi]] W fun e w' => e = .returned (.int .i64 lo) ∧ Below W.heap.size W w' := by
  go_enter Try.func35, Try.ntmps35
  go_wp2
  go_ret
  exact ⟨rfl, (Below.refl _ _).alloc (Nat.le_refl _) _⟩
theorem snew_in (k n q : Int) (hk : k = 1 ∨ k = 2) (W : World) :
    Calls Try.prog 33 #[.int .i64 k, .int .i64 n, .int .u64 q] W fun e w' => e = .returned (.agg #[.int .i64 k, .int .u64 q, .int .i64 0, .int .i64 (max n 0)]) ∧ Below W.heap.size W w' := by
  by_cases hn : 0 ≤ n
  · have hm : max n 0 = n := by omega
    rw [hm]
    clear hm
    rcases hk with rfl | rfl
    all_goals
      go_enter Try.func33, Try.ntmps33
      go_wp2
    · exact bodyPost_ret (v := .agg #[.int .i64 1, .int .u64 q, .int .i64 0, .int .i64 n]) (by simp [results, Try.results33, go_sem]) rfl ⟨rfl, by repeat (first | exact Below.refl _ _ | assumption | refine below_drewN ?_ _ | refine Below.alloc ?_ (by first | omega | (simp; done) | (simp; omega)) _ | refine Below.setCell ?_ (by first | omega | (simp; done) | (simp; omega)) _)⟩
    · exact bodyPost_ret (v := .agg #[.int .i64 2, .int .u64 q, .int .i64 0, .int .i64 n]) (by simp [results, Try.results33, go_sem]) rfl ⟨rfl, by repeat (first | exact Below.refl _ _ | assumption | refine below_drewN ?_ _ | refine Below.alloc ?_ (by first | omega | (simp; done) | (simp; omega)) _ | refine Below.setCell ?_ (by first | omega | (simp; done) | (simp; omega)) _)⟩
  · have hm : max n 0 = 0 := by omega
    rw [hm]
    clear hm
    rcases hk with rfl | rfl
    all_goals
      go_enter Try.func33, Try.ntmps33
      go_wp2
    · exact bodyPost_ret (v := .agg #[.int .i64 1, .int .u64 q, .int .i64 0, .int .i64 0]) (by simp [results, Try.results33, go_sem]) rfl ⟨rfl, by repeat (first | exact Below.refl _ _ | assumption | refine below_drewN ?_ _ | refine Below.alloc ?_ (by first | omega | (simp; done) | (simp; omega)) _ | refine Below.setCell ?_ (by first | omega | (simp; done) | (simp; omega)) _)⟩
    · exact bodyPost_ret (v := .agg #[.int .i64 2, .int .u64 q, .int .i64 0, .int .i64 0]) (by simp [results, Try.results33, go_sem]) rfl ⟨rfl, by repeat (first | exact Below.refl _ _ | assumption | refine below_drewN ?_ _ | refine Below.alloc ?_ (by first | omega | (simp; done) | (simp; omega)) _ | refine Below.setCell ?_ (by first | omega | (simp; done) | (simp; omega)) _)⟩
theorem snew_out (k n q : Int) (hk : ¬ (k = 1 ∨ k = 2)) (W : World) :
    Calls Try.prog 33 #[.int .i64 k, .int .i64 n, .int .u64 q] W fun e w' => e = .returned (.agg #[.int .i64 0, .int .u64 0, .int .i64 0, .int .i64 0]) ∧ Below W.heap.size W w' := by
  have h1 : (k != 1) = true := by simp; omega
  have h2 : (k != 2) = true := by simp; omega
  clear hk
  go_enter Try.func33, Try.ntmps33
  go_wp2
  exact bodyPost_ret (v := .agg #[.int .i64 0, .int .u64 0, .int .i64 0, .int .i64 0]) (by simp [results, Try.results33, go_sem]) rfl ⟨rfl, by repeat (first | exact Below.refl _ _ | assumption | refine below_drewN ?_ _ | refine Below.alloc ?_ (by first | omega | (simp; done) | (simp; omega)) _ | refine Below.setCell ?_ (by first | omega | (simp; done) | (simp; omega)) _)⟩
theorem stook_come (k q lo hi x : Int) (h : hi ≤ lo) (W : World) :
    Calls Try.prog 39 #[.agg #[.int .i64 k, .int .u64 q, .int .i64 lo, .int .i64 hi], .int .u64 x] W fun e w' => e = .returned (.agg #[.int .i64 k, .int .u64 q, .int .i64 lo, .int .i64 hi]) ∧ Below W.heap.size W w' := by
  go_enter Try.func39, Try.ntmps39
  go_wp2
  exact bodyPost_ret (v := .agg #[.int .i64 k, .int .u64 q, .int .i64 lo, .int .i64 hi]) (by simp [results, Try.results39, go_sem]) rfl ⟨rfl, by repeat (first | exact Below.refl _ _ | assumption | refine below_drewN ?_ _ | refine Below.alloc ?_ (by first | omega | (simp; done) | (simp; omega)) _ | refine Below.setCell ?_ (by first | omega | (simp; done) | (simp; omega)) _)⟩
theorem stook_pass (k q lo hi x : Int) (h0 : 0 ≤ lo) (h : lo < hi) (h1 : hi ≤ 9223372036854775807) (hp : passOf k q x = true) (W : World) :
    Calls Try.prog 39 #[.agg #[.int .i64 k, .int .u64 q, .int .i64 lo, .int .i64 hi], .int .u64 x] W fun e w' => e = .returned (.agg #[.int .i64 k, .int .u64 q, .int .i64 (lo + (hi - lo) / 2 + 1), .int .i64 hi]) ∧ Below W.heap.size W w' := by
  unfold passOf at hp
  have hc : (lo + (hi - lo) / 2 == -1) = false := by simp; omega
  by_cases hk : k = 1
  · subst hk
    rw [if_pos rfl] at hp
    go_enter Try.func39, Try.ntmps39
    go_wp2
    exact bodyPost_ret (v := .agg #[.int .i64 1, .int .u64 q, .int .i64 (lo + (hi - lo) / 2 + 1), .int .i64 hi]) (by simp [results, Try.results39, go_sem]) rfl ⟨rfl, by repeat (first | exact Below.refl _ _ | assumption | refine below_drewN ?_ _ | refine Below.alloc ?_ (by first | omega | (simp; done) | (simp; omega)) _ | refine Below.setCell ?_ (by first | omega | (simp; done) | (simp; omega)) _)⟩
  · rw [if_neg hk] at hp
    have hk1 : (k == 1) = false := by simp; omega
    clear hk
    go_enter Try.func39, Try.ntmps39
    go_wp2
    exact bodyPost_ret (v := .agg #[.int .i64 k, .int .u64 q, .int .i64 (lo + (hi - lo) / 2 + 1), .int .i64 hi]) (by simp [results, Try.results39, go_sem]) rfl ⟨rfl, by repeat (first | exact Below.refl _ _ | assumption | refine below_drewN ?_ _ | refine Below.alloc ?_ (by first | omega | (simp; done) | (simp; omega)) _ | refine Below.setCell ?_ (by first | omega | (simp; done) | (simp; omega)) _)⟩
theorem stook_stay (k q lo hi x : Int) (h0 : 0 ≤ lo) (h : lo < hi) (h1 : hi ≤ 9223372036854775807) (hp : passOf k q x = false) (W : World) :
    Calls Try.prog 39 #[.agg #[.int .i64 k, .int .u64 q, .int .i64 lo, .int .i64 hi], .int .u64 x] W fun e w' => e = .returned (.agg #[.int .i64 k, .int .u64 q, .int .i64 lo, .int .i64 (lo + (hi - lo) / 2)]) ∧ Below W.heap.size W w' := by
  unfold passOf at hp
  have hc : (lo + (hi - lo) / 2 == -1) = false := by simp; omega
  by_cases hk : k = 1
  · subst hk
    rw [if_pos rfl] at hp
    go_enter Try.func39, Try.ntmps39
    go_wp2
    exact bodyPost_ret (v := .agg #[.int .i64 1, .int .u64 q, .int .i64 lo, .int .i64 (lo + (hi - lo) / 2)]) (by simp [results, Try.results39, go_sem]) rfl ⟨rfl, by repeat (first | exact Below.refl _ _ | assumption | refine below_drewN ?_ _ | refine Below.alloc ?_ (by first | omega | (simp; done) | (simp; omega)) _ | refine Below.setCell ?_ (by first | omega | (simp; done) | (simp; omega)) _)⟩
  · rw [if_neg hk] at hp
    have hk1 : (k == 1) = false := by simp; omega
    clear hk
    go_enter Try.func39, Try.ntmps39
    go_wp2
    exact bodyPost_ret (v := .agg #[.int .i64 k, .int .u64 q, .int .i64 lo, .int .i64 (lo + (hi - lo) / 2)]) (by simp [results, Try.results39, go_sem]) rfl ⟨rfl, by repeat (first | exact Below.refl _ _ | assumption | refine below_drewN ?_ _ | refine Below.alloc ?_ (by first | omega | (simp; done) | (simp; omega)) _ | refine Below.setCell ?_ (by first | omega | (simp; done) | (simp; omega)) _)⟩
/-- One search, told a key. -/
structure Sk where
  k : Int
  q : Int
  lo : Int
  hi : Int
def Sk.val (s : Sk) : Value := .agg #[.int .i64 s.k, .int .u64 s.q, .int .i64 s.lo, .int .i64 s.hi]
def Sk.took (s : Sk) (x : Int) : Sk := if s.lo < s.hi then (if passOf s.k s.q x then ⟨s.k, s.q, s.lo + (s.hi - s.lo) / 2 + 1, s.hi⟩ else ⟨s.k, s.q, s.lo, s.lo + (s.hi - s.lo) / 2⟩) else s
def Sk.want (s : Sk) : Int := wantOf s.lo s.hi
/-- It may be. -/
def Sk.ok (s : Sk) : Prop := 0 ≤ s.lo ∧ s.hi ≤ 9223372036854775807
theorem Sk.ok_took (s : Sk) (h : s.ok) (x : Int) : (s.took x).ok := by
  unfold Sk.ok Sk.took at *
  split
  · split <;> simp only <;> omega
  · exact h
theorem stook_any (s : Sk) (x : Int) (h : s.ok) (W : World) :
    Calls Try.prog 39 #[s.val, .int .u64 x] W fun e w' => e = .returned (s.took x).val ∧ Below W.heap.size W w' := by
  obtain ⟨k, q, lo, hi⟩ := s
  obtain ⟨h0, h1⟩ := h
  simp only at h0 h1
  unfold Sk.took Sk.val
  simp only
  by_cases hl : lo < hi
  · rw [if_pos hl]
    by_cases hp : passOf k q x = true
    · rw [if_pos hp]; exact stook_pass k q lo hi x h0 hl h1 hp W
    · rw [if_neg hp]; exact stook_stay k q lo hi x h0 hl h1 (by simpa using hp) W
  · rw [if_neg hl]; exact stook_come k q lo hi x (by omega) W
end Go.Proofs.Ytahpdifneajblaa
