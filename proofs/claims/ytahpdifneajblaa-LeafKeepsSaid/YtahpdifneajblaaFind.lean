/- What a search among rising keys finds; gleaningref12.Find. -/
import Derived.Test.YtahpdifneajblaaSeekOf2
import Derived.Test.YtahpdifneajblaaLeaf12
namespace Go.Proofs.Ytahpdifneajblaa
set_option linter.unusedVariables false
open Go.RowKit
/-- How many keys are below one. -/
def cnt (ks : List Nat) (q : Nat) : Nat := (ks.filter (fun x => decide (x < q))).length
theorem ris_lt {ks : List Nat} (h : ris ks) : ∀ i j, i < j → j < ks.length → ks.getD i 0 < ks.getD j 0 := by
  intro i j hij
  induction j with
  | zero => omega
  | succ j ih =>
    intro hj
    have h1 := h j hj
    by_cases e : i = j
    · subst e; exact h1
    · exact Nat.lt_trans (ih (by omega) (by omega)) h1
theorem cnt_low (ks : List Nat) (q j : Nat) (hj : j ≤ ks.length) (h1 : ∀ i, i < j → ks.getD i 0 < q) (h2 : ∀ i, j ≤ i → i < ks.length → q ≤ ks.getD i 0) : cnt ks q = j := by
  unfold cnt
  have e : ks = ks.take j ++ ks.drop j := (List.take_append_drop j ks).symm
  have a : (ks.take j).filter (fun x => decide (x < q)) = ks.take j := by
    rw [List.filter_eq_self]
    intro x hx
    obtain ⟨i, hi, rfl⟩ := List.mem_iff_getElem.1 hx
    have hi' : i < j := by have := hi; simp at this; omega
    have := h1 i hi'
    simp only [List.getElem_take, decide_eq_true_eq]
    simpa [List.getD, (by omega : i < ks.length)] using this
  have b : (ks.drop j).filter (fun x => decide (x < q)) = [] := by
    rw [List.filter_eq_nil_iff]
    intro x hx
    obtain ⟨i, hi, rfl⟩ := List.mem_iff_getElem.1 hx
    have hi' : j + i < ks.length := by have := hi; simp at this; omega
    have := h2 (j + i) (by omega) hi'
    simp only [List.getElem_drop, decide_eq_true_eq]
    have e2 : ks.getD (j + i) 0 = ks[j + i] := by simp [List.getD, hi']
    omega
  rw [e, List.filter_append, a, b]
  simp [hj]
theorem castD (ks : List Nat) (m : Nat) : (ks.map (fun x : Nat => (x : Int))).getD m 0 = ((ks.getD m 0 : Nat) : Int) := by
  by_cases h : m < ks.length
  · simp [List.getD, h]
  · simp [List.getD, h]
theorem fin_low (ks : List Nat) (q : Nat) (hm : ∀ i j, i < j → j < ks.length → ks.getD i 0 < ks.getD j 0) : ∀ (f lo hi : Nat), lo ≤ hi → hi ≤ ks.length → hi - lo ≤ f → (∀ i, i < lo → ks.getD i 0 < q) → (∀ i, hi ≤ i → i < ks.length → q ≤ ks.getD i 0) →
    ∃ j : Nat, (Sk.fin (ks.map (fun x : Nat => (x : Int))) f ⟨1, q, lo, hi⟩).lo = j ∧ j ≤ ks.length ∧ (∀ i, i < j → ks.getD i 0 < q) ∧ (∀ i, j ≤ i → i < ks.length → q ≤ ks.getD i 0) := by
  intro f
  induction f with
  | zero =>
    intro lo hi h1 h2 h3 h4 h5
    obtain rfl : lo = hi := by omega
    exact ⟨lo, rfl, h2, h4, h5⟩
  | succ f ih =>
    intro lo hi h1 h2 h3 h4 h5
    by_cases h : lo < hi
    · have hI : (lo : Int) < (hi : Int) := by omega
      have hw : (Sk.want ⟨1, q, lo, hi⟩) = ((lo + (hi - lo) / 2 : Nat) : Int) := by
        unfold Sk.want wantOf; simp only; rw [if_pos hI]; omega
      unfold Sk.fin
      simp only
      rw [if_pos hI, hw, Int.toNat_natCast, castD]
      unfold Sk.took
      simp only
      rw [if_pos hI]
      have hq : passOf 1 q ((ks.getD (lo + (hi - lo) / 2) 0 : Nat) : Int) = decide (ks.getD (lo + (hi - lo) / 2) 0 < q) := by
        unfold passOf
        rw [if_pos rfl]
        by_cases hh : ks.getD (lo + (hi - lo) / 2) 0 < q
        · simp only [hh, decide_true, decide_eq_true_eq]; omega
        · simp only [hh, decide_false, decide_eq_false_iff_not]; omega
      rw [hq]
      have em : (lo : Int) + ((hi : Int) - lo) / 2 = ((lo + (hi - lo) / 2 : Nat) : Int) := by omega
      by_cases hh : ks.getD (lo + (hi - lo) / 2) 0 < q
      · rw [if_pos (by simpa using hh), show (lo : Int) + ((hi : Int) - lo) / 2 + 1 = ((lo + (hi - lo) / 2 + 1 : Nat) : Int) by omega]
        refine ih _ _ (by omega) h2 (by omega) (fun i hi' => ?_) h5
        by_cases e : i = lo + (hi - lo) / 2
        · subst e; exact hh
        · exact Nat.lt_trans (hm i _ (by omega) (by omega)) hh
      · rw [if_neg (by simpa using hh), em]
        refine ih _ _ (by omega) (by omega) (by omega) h4 (fun i hi' hl => ?_)
        by_cases e : i = lo + (hi - lo) / 2
        · subst e; omega
        · exact Nat.le_of_lt (Nat.lt_of_le_of_lt (by omega) (hm (lo + (hi - lo) / 2) i (by omega) hl))
    · obtain rfl : lo = hi := by omega
      rw [Sk.fin_come _ _ _ (by simp)]
      exact ⟨lo, rfl, h2, h4, h5⟩
theorem of_cnt (ks : List Nat) (q : Nat) (h : ris ks) : ofN 1 (ks.map (fun x : Nat => (x : Int))) q = (cnt ks q : Nat) := by
  unfold ofN Sk.new
  simp only [true_or, if_true, List.length_map]
  obtain ⟨j, e, h1, h2, h3⟩ := fin_low ks q (ris_lt h) ((max (ks.length : Int) 0 - 0).toNat) 0 ks.length (by omega) (by omega) (by omega) (fun i hi => by omega) (fun i h1 h2 => by omega)
  rw [cnt_low ks q j h1 h2 h3, ← e]
  have e2 : max (ks.length : Int) 0 = (ks.length : Int) := by omega
  rw [e2]
  rfl
end Go.Proofs.Ytahpdifneajblaa
