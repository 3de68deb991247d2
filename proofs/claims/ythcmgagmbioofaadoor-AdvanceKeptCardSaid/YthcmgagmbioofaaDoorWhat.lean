/- Words and places: each is the other's inverse. -/
import Derived.Test.YthcmgagmbioofaaDoorPlace
namespace Go.Proofs.YthcmgagmbioofaaDoor
set_option linter.unusedVariables false
theorem at_what {s t f k o i : Int} (hs : 1 ≤ s) (ht : 1 ≤ t) (hf : 4 ≤ f) (h : 0 ≤ atL s t f k o i) : atL s t f k o i < sizeL s t f ∧ whatL s t f (atL s t f k o i) = (k, o, i) := by
  have hz : sizeL s t f = 3 + t + 2 * t + (s + 1) * (3 + 2 * f) := by unfold sizeL; rw [if_neg (by omega)]
  have hpos : 0 < (s + 1) * (3 + 2 * f) := Int.mul_pos (by omega) (by omega)
  generalize hx : atL s t f k o i = x at h ⊢
  unfold atL at hx
  by_cases k1 : 1 ≤ k ∧ k ≤ 3
  · rw [if_pos k1] at hx
    by_cases c : s = 0 ∨ o ≠ 0 ∨ i ≠ 0
    · rw [if_pos c] at hx; omega
    · rw [if_neg c] at hx
      have ho : o = 0 := by omega
      have hi : i = 0 := by omega
      subst ho hi
      refine ⟨by rw [hz]; omega, ?_⟩
      unfold whatL
      rw [if_neg (by rw [hz]; omega), if_pos (by omega)]
      congr 1
      omega
  rw [if_neg k1] at hx
  by_cases k4 : k = 4
  · rw [if_pos k4] at hx
    by_cases c : o < 0 ∨ t ≤ o ∨ i ≠ 0
    · rw [if_pos c] at hx; omega
    · rw [if_neg c] at hx
      have hi : i = 0 := by omega
      subst hi k4
      refine ⟨by rw [hz]; omega, ?_⟩
      unfold whatL
      rw [if_neg (by rw [hz]; omega), if_neg (by omega), if_pos (by omega)]
      congr 2
      omega
  rw [if_neg k4] at hx
  by_cases k5 : k = 5
  · rw [if_pos k5] at hx
    by_cases c : o < 0 ∨ t ≤ o ∨ i < 0 ∨ 2 ≤ i
    · rw [if_pos c] at hx; omega
    · rw [if_neg c] at hx
      subst k5
      refine ⟨by rw [hz]; omega, ?_⟩
      unfold whatL
      rw [if_neg (by rw [hz]; omega), if_neg (by omega), if_neg (by omega), if_pos (by omega)]
      have e1 : (x - (3 + t)) / 2 = o := by omega
      have e2 : (x - (3 + t)) % 2 = i := by omega
      rw [e1, e2]
  rw [if_neg k5] at hx
  by_cases k6 : 6 ≤ k ∧ k ≤ 10
  · rw [if_pos k6] at hx
    by_cases c : s = 0 ∨ o < 0 ∨ s < o ∨ i < 0 ∨ (if k = 9 ∨ k = 10 then f else 1) ≤ i
    · rw [if_pos c] at hx; omega
    · rw [if_neg c] at hx
      have hi : i < (if k = 9 ∨ k = 10 then f else 1) := by omega
      have hj0 : 0 ≤ inL f k + i := by unfold inL; (repeat' split) <;> omega
      have hj1 : inL f k + i < 3 + 2 * f := by unfold inL; (repeat' split) <;> (split at hi <;> omega)
      have ho1 : o * (3 + 2 * f) ≤ s * (3 + 2 * f) := Int.mul_le_mul_of_nonneg_right (by omega) (by omega)
      have ho0 : 0 ≤ o * (3 + 2 * f) := Int.mul_nonneg (by omega) (by omega)
      have hs1 : (s + 1) * (3 + 2 * f) = s * (3 + 2 * f) + (3 + 2 * f) := by rw [Int.add_mul, Int.one_mul]
      have e0 : x - (3 + t + 2 * t) = (inL f k + i) + o * (3 + 2 * f) := by omega
      have e1 : (x - (3 + t + 2 * t)) / (3 + 2 * f) = o := by
        rw [e0, Int.add_mul_ediv_right _ _ (by omega), Int.ediv_eq_zero_of_lt hj0 hj1, Int.zero_add]
      have e2 : (x - (3 + t + 2 * t)) % (3 + 2 * f) = inL f k + i := by
        rw [e0, Int.add_mul_emod_self_right, Int.emod_eq_of_lt hj0 hj1]
      refine ⟨by rw [hz]; omega, ?_⟩
      unfold whatL
      rw [if_neg (by rw [hz]; omega), if_neg (by omega), if_neg (by omega), if_neg (by omega), e1, e2]
      have hk : k = 6 ∨ k = 7 ∨ k = 8 ∨ k = 9 ∨ k = 10 := by omega
      rcases hk with rfl | rfl | rfl | rfl | rfl
      · have : i = 0 := by simp at hi; omega
        subst this
        simp [inL]
      · have : i = 0 := by simp at hi; omega
        subst this
        simp [inL]
      · have : i = 0 := by simp at hi; omega
        subst this
        simp [inL]
      · have : i < f := by simpa using hi
        have q : inL f 9 + i = 3 + i := by simp [inL]
        rw [q, if_neg (by omega), if_pos (by omega)]
        congr 2
        omega
      · have : i < f := by simpa using hi
        have q : inL f 10 + i = 3 + f + i := by simp [inL]
        rw [q, if_neg (by omega), if_neg (by omega)]
        congr 2
        omega
  · rw [if_neg k6] at hx; omega
theorem at_neg (s t f k o i : Int) (hs : 0 ≤ s) (ht : 0 ≤ t) (hf : 0 ≤ f) : atL s t f k o i = -1 ∨ 0 ≤ atL s t f k o i := by
  have hin : 0 ≤ inL f k := by unfold inL; (repeat' split) <;> omega
  by_cases ho : 0 ≤ o
  · have := Int.mul_nonneg ho (show 0 ≤ 3 + 2 * f by omega)
    unfold atL
    (repeat' split) <;> omega
  · unfold atL
    (repeat' split) <;> omega
/-- Whether a place is none, as the law says it: the ways in which that is. -/
inductive NoPlace (s t f k o i : Int) : Prop
  | klo : k < 1 → NoPlace s t f k o i
  | khi : 10 < k → NoPlace s t f k o i
  | first1 : 1 ≤ k → k ≤ 3 → o < 0 → NoPlace s t f k o i
  | first2 : 1 ≤ k → k ≤ 3 → 0 < o → NoPlace s t f k o i
  | first3 : 1 ≤ k → k ≤ 3 → o = 0 → i < 0 → NoPlace s t f k o i
  | first4 : 1 ≤ k → k ≤ 3 → o = 0 → 0 < i → NoPlace s t f k o i
  | ann1 : k = 4 → o < 0 → NoPlace s t f k o i
  | ann2 : k = 4 → 0 ≤ o → t ≤ o → NoPlace s t f k o i
  | ann3 : k = 4 → 0 ≤ o → o < t → i < 0 → NoPlace s t f k o i
  | ann4 : k = 4 → 0 ≤ o → o < t → 0 < i → NoPlace s t f k o i
  | haz1 : k = 5 → o < 0 → NoPlace s t f k o i
  | haz2 : k = 5 → 0 ≤ o → t ≤ o → NoPlace s t f k o i
  | haz3 : k = 5 → 0 ≤ o → o < t → i < 0 → NoPlace s t f k o i
  | haz4 : k = 5 → 0 ≤ o → o < t → 0 ≤ i → 1 < i → NoPlace s t f k o i
  | slot1 : 6 ≤ k → k ≤ 8 → o < 0 → NoPlace s t f k o i
  | slot2 : 6 ≤ k → k ≤ 8 → 0 ≤ o → s < o → NoPlace s t f k o i
  | slot3 : 6 ≤ k → k ≤ 8 → 0 ≤ o → o ≤ s → i < 0 → NoPlace s t f k o i
  | slot4 : 6 ≤ k → k ≤ 8 → 0 ≤ o → o ≤ s → 0 < i → NoPlace s t f k o i
  | key1 : 9 ≤ k → k ≤ 10 → o < 0 → NoPlace s t f k o i
  | key2 : 9 ≤ k → k ≤ 10 → 0 ≤ o → s < o → NoPlace s t f k o i
  | key3 : 9 ≤ k → k ≤ 10 → 0 ≤ o → o ≤ s → i < 0 → NoPlace s t f k o i
  | key4 : 9 ≤ k → k ≤ 10 → 0 ≤ o → o ≤ s → 0 ≤ i → f ≤ i → NoPlace s t f k o i
theorem noPlace {s t f k o i : Int} (hs : 1 ≤ s) (ht : 1 ≤ t) (hf : 4 ≤ f) (h : atL s t f k o i = -1) : NoPlace s t f k o i := by
  by_cases k0 : k < 1
  · exact .klo k0
  by_cases k10 : 10 < k
  · exact .khi k10
  have hin : 0 ≤ inL f k := by unfold inL; (repeat' split) <;> omega
  unfold atL at h
  by_cases k1 : k ≤ 3
  · rw [if_pos (by omega)] at h
    by_cases o1 : o < 0
    · exact .first1 (by omega) k1 o1
    by_cases o2 : 0 < o
    · exact .first2 (by omega) k1 o2
    by_cases i1 : i < 0
    · exact .first3 (by omega) k1 (by omega) i1
    by_cases i2 : 0 < i
    · exact .first4 (by omega) k1 (by omega) i2
    · rw [if_neg (by omega)] at h; omega
  rw [if_neg (by omega)] at h
  by_cases o1 : o < 0
  · by_cases k4 : k = 4
    · exact .ann1 k4 o1
    by_cases k5 : k = 5
    · exact .haz1 k5 o1
    by_cases k8 : k ≤ 8
    · exact .slot1 (by omega) k8 o1
    · exact .key1 (by omega) (by omega) o1
  have hm := Int.mul_nonneg (show 0 ≤ o by omega) (show 0 ≤ 3 + 2 * f by omega)
  by_cases k4 : k = 4
  · rw [if_pos k4] at h
    by_cases o2 : t ≤ o
    · exact .ann2 k4 (by omega) o2
    by_cases i1 : i < 0
    · exact .ann3 k4 (by omega) (by omega) i1
    by_cases i2 : 0 < i
    · exact .ann4 k4 (by omega) (by omega) i2
    · rw [if_neg (by omega)] at h; omega
  rw [if_neg k4] at h
  by_cases k5 : k = 5
  · rw [if_pos k5] at h
    by_cases o2 : t ≤ o
    · exact .haz2 k5 (by omega) o2
    by_cases i1 : i < 0
    · exact .haz3 k5 (by omega) (by omega) i1
    by_cases i2 : 1 < i
    · exact .haz4 k5 (by omega) (by omega) (by omega) i2
    · rw [if_neg (by omega)] at h; omega
  rw [if_neg k5, if_pos (by omega)] at h
  by_cases o2 : s < o
  · by_cases k8 : k ≤ 8
    · exact .slot2 (by omega) k8 (by omega) o2
    · exact .key2 (by omega) (by omega) (by omega) o2
  by_cases i1 : i < 0
  · by_cases k8 : k ≤ 8
    · exact .slot3 (by omega) k8 (by omega) (by omega) i1
    · exact .key3 (by omega) (by omega) (by omega) (by omega) i1
  by_cases k8 : k ≤ 8
  · rw [if_neg (show ¬ (k = 9 ∨ k = 10) by omega)] at h
    by_cases i2 : 0 < i
    · exact .slot4 (by omega) k8 (by omega) (by omega) i2
    · rw [if_neg (by omega)] at h; omega
  · rw [if_pos (show k = 9 ∨ k = 10 by omega)] at h
    by_cases i2 : f ≤ i
    · exact .key4 (by omega) (by omega) (by omega) (by omega) (by omega) i2
    · rw [if_neg (by omega)] at h; omega
end Go.Proofs.YthcmgagmbioofaaDoor
