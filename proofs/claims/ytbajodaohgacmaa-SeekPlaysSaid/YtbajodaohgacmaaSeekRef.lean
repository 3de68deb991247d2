/- Contracts of the document's searches; both searches go on alike. -/
import Derived.Test.YtbajodaohgacmaaSeekTwo
namespace Go.Proofs.Ytbajodaohgacmaa
set_option linter.unusedVariables false
open Go.RowKit
def Sk.rval (s : Sk) : Value := .agg #[.int .i64 s.k, .int .i64 s.lo, .int .i64 s.hi, .int .u64 s.q]
def Sk.rcells (s : Sk) : Array Value := #[.int .i64 s.k, .int .i64 s.lo, .int .i64 s.hi, .int .u64 s.q]
def Sk.rnew (k n q : Int) : Sk := ⟨k, q, 0, if n < 0 ∨ k < 1 ∨ 2 < k then 0 else n⟩
theorem rwant_any (s : Sk) (h : s.ok) (W : World) :
    Calls Try.prog 28 #[s.rval] W fun e w' => e = .returned (.int .i64 s.want) ∧ Below W.heap.size W w' := by
  obtain ⟨k, q, lo, hi⟩ := s
  obtain ⟨h0, h1⟩ := h
  simp only at h0 h1
  unfold Sk.rval Sk.want
  simp only
  by_cases h : lo < hi
  · go_enter Try.func28, Try.ntmps28
    go_wp2
    go_ret
    exact ⟨ret_i (by unfold wantOf; rw [if_pos h]), (Below.refl _ _).alloc (Nat.le_refl _) _⟩
  · go_enter Try.func28, Try.ntmps28
    go_wp2
    go_ret
    exact ⟨ret_i (by unfold wantOf; rw [if_neg (by omega)]), (Below.refl _ _).alloc (Nat.le_refl _) _⟩
theorem rnew_any (k n q : Int) (W : World) :
    Calls Try.prog 26 #[.int .i64 k, .int .i64 n, .int .u64 q] W fun e w' => e = .returned (Sk.rnew k n q).rval ∧ Below W.heap.size W w' := by
  unfold Sk.rnew Sk.rval
  simp only
  by_cases h : n < 0 ∨ k < 1 ∨ 2 < k
  · rw [if_pos h]
    rcases h with h | h | h
    · go_enter Try.func26, Try.ntmps26
      go_wp2
      exact bodyPost_ret (v := .agg #[.int .i64 k, .int .i64 0, .int .i64 0, .int .u64 q]) (by simp [results, Try.results26, go_sem]) rfl ⟨rfl, by repeat (first | exact Below.refl _ _ | assumption | refine below_drewN ?_ _ | refine Below.alloc ?_ (by first | omega | (simp; done) | (simp; omega)) _ | refine Below.setCell ?_ (by first | omega | (simp; done) | (simp; omega)) _)⟩
    · by_cases hn : n < 0
      · go_enter Try.func26, Try.ntmps26
        go_wp2
        exact bodyPost_ret (v := .agg #[.int .i64 k, .int .i64 0, .int .i64 0, .int .u64 q]) (by simp [results, Try.results26, go_sem]) rfl ⟨rfl, by repeat (first | exact Below.refl _ _ | assumption | refine below_drewN ?_ _ | refine Below.alloc ?_ (by first | omega | (simp; done) | (simp; omega)) _ | refine Below.setCell ?_ (by first | omega | (simp; done) | (simp; omega)) _)⟩
      · go_enter Try.func26, Try.ntmps26
        go_wp2
        exact bodyPost_ret (v := .agg #[.int .i64 k, .int .i64 0, .int .i64 0, .int .u64 q]) (by simp [results, Try.results26, go_sem]) rfl ⟨rfl, by repeat (first | exact Below.refl _ _ | assumption | refine below_drewN ?_ _ | refine Below.alloc ?_ (by first | omega | (simp; done) | (simp; omega)) _ | refine Below.setCell ?_ (by first | omega | (simp; done) | (simp; omega)) _)⟩
    · by_cases hn : n < 0
      · go_enter Try.func26, Try.ntmps26
        go_wp2
        exact bodyPost_ret (v := .agg #[.int .i64 k, .int .i64 0, .int .i64 0, .int .u64 q]) (by simp [results, Try.results26, go_sem]) rfl ⟨rfl, by repeat (first | exact Below.refl _ _ | assumption | refine below_drewN ?_ _ | refine Below.alloc ?_ (by first | omega | (simp; done) | (simp; omega)) _ | refine Below.setCell ?_ (by first | omega | (simp; done) | (simp; omega)) _)⟩
      · go_enter Try.func26, Try.ntmps26
        go_wp2
        exact bodyPost_ret (v := .agg #[.int .i64 k, .int .i64 0, .int .i64 0, .int .u64 q]) (by simp [results, Try.results26, go_sem]) rfl ⟨rfl, by repeat (first | exact Below.refl _ _ | assumption | refine below_drewN ?_ _ | refine Below.alloc ?_ (by first | omega | (simp; done) | (simp; omega)) _ | refine Below.setCell ?_ (by first | omega | (simp; done) | (simp; omega)) _)⟩
  · rw [if_neg h]
    have h1 : 0 ≤ n := by omega
    have h2 : 1 ≤ k := by omega
    have h3 : k ≤ 2 := by omega
    clear h
    go_enter Try.func26, Try.ntmps26
    go_wp2
    exact bodyPost_ret (v := .agg #[.int .i64 k, .int .i64 0, .int .i64 n, .int .u64 q]) (by simp [results, Try.results26, go_sem]) rfl ⟨rfl, by repeat (first | exact Below.refl _ _ | assumption | refine below_drewN ?_ _ | refine Below.alloc ?_ (by first | omega | (simp; done) | (simp; omega)) _ | refine Below.setCell ?_ (by first | omega | (simp; done) | (simp; omega)) _)⟩
set_option maxHeartbeats 2000000 in
theorem rtook_any (s : Sk) (x : Int) (h : s.ok) (hk : s.k = 1 ∨ s.k = 2 ∨ s.hi ≤ s.lo) (W : World) :
    Calls Try.prog 32 #[s.rval, .int .u64 x] W fun e w' => e = .returned (s.took x).rval ∧ Below W.heap.size W w' := by
  obtain ⟨k, q, lo, hi⟩ := s
  obtain ⟨h0, h1⟩ := h
  simp only at h0 h1 hk
  unfold Sk.took Sk.rval
  simp only
  by_cases hl : lo < hi
  · rw [if_pos hl]
    have hk : k = 1 ∨ k = 2 := by omega
    by_cases h2 : x < q
    · have hp : passOf k q x = true := by unfold passOf; rcases hk with rfl | rfl <;> simp <;> omega
      rw [if_pos hp]
      clear hp hk
      go_enter Try.func32, Try.ntmps32
      go_wp2
      exact bodyPost_ret (v := .agg #[.int .i64 k, .int .i64 (lo + (hi - lo) / 2 + 1), .int .i64 hi, .int .u64 q]) (by simp [results, Try.results32, go_sem]) rfl ⟨rfl, by repeat (first | exact Below.refl _ _ | assumption | refine below_drewN ?_ _ | refine Below.alloc ?_ (by first | omega | (simp; done) | (simp; omega)) _ | refine Below.setCell ?_ (by first | omega | (simp; done) | (simp; omega)) _)⟩
    · rcases hk with rfl | rfl
      · have hp : ¬ passOf 1 q x = true := by unfold passOf; simp; omega
        rw [if_neg hp]
        clear hp
        go_enter Try.func32, Try.ntmps32
        go_wp2
        exact bodyPost_ret (v := .agg #[.int .i64 1, .int .i64 lo, .int .i64 (lo + (hi - lo) / 2), .int .u64 q]) (by simp [results, Try.results32, go_sem]) rfl ⟨rfl, by repeat (first | exact Below.refl _ _ | assumption | refine below_drewN ?_ _ | refine Below.alloc ?_ (by first | omega | (simp; done) | (simp; omega)) _ | refine Below.setCell ?_ (by first | omega | (simp; done) | (simp; omega)) _)⟩
      · by_cases h3 : x = q
        · subst h3
          have hp : passOf 2 x x = true := by unfold passOf; simp
          rw [if_pos hp]
          clear hp
          go_enter Try.func32, Try.ntmps32
          go_wp2
          exact bodyPost_ret (v := .agg #[.int .i64 2, .int .i64 (lo + (hi - lo) / 2 + 1), .int .i64 hi, .int .u64 x]) (by simp [results, Try.results32, go_sem]) rfl ⟨rfl, by repeat (first | exact Below.refl _ _ | assumption | refine below_drewN ?_ _ | refine Below.alloc ?_ (by first | omega | (simp; done) | (simp; omega)) _ | refine Below.setCell ?_ (by first | omega | (simp; done) | (simp; omega)) _)⟩
        · have hp : ¬ passOf 2 q x = true := by unfold passOf; simp; omega
          have hne : (x == q) = false := by simp; omega
          rw [if_neg hp]
          clear hp h3
          go_enter Try.func32, Try.ntmps32
          go_wp2
          exact bodyPost_ret (v := .agg #[.int .i64 2, .int .i64 lo, .int .i64 (lo + (hi - lo) / 2), .int .u64 q]) (by simp [results, Try.results32, go_sem]) rfl ⟨rfl, by repeat (first | exact Below.refl _ _ | assumption | refine below_drewN ?_ _ | refine Below.alloc ?_ (by first | omega | (simp; done) | (simp; omega)) _ | refine Below.setCell ?_ (by first | omega | (simp; done) | (simp; omega)) _)⟩
  · rw [if_neg hl]
    go_enter Try.func32, Try.ntmps32
    go_wp2
    exact bodyPost_ret (v := .agg #[.int .i64 k, .int .i64 lo, .int .i64 hi, .int .u64 q]) (by simp [results, Try.results32, go_sem]) rfl ⟨rfl, by repeat (first | exact Below.refl _ _ | assumption | refine below_drewN ?_ _ | refine Below.alloc ?_ (by first | omega | (simp; done) | (simp; omega)) _ | refine Below.setCell ?_ (by first | omega | (simp; done) | (simp; omega)) _)⟩
end Go.Proofs.Ytbajodaohgacmaa
