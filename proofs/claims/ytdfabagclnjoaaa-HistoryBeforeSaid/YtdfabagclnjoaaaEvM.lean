import Derived.Test.YtdfabagclnjoaaaEvL
namespace Go.Proofs.Ytdfabagclnjoaaa
set_option linter.unusedSimpArgs false
set_option linter.unusedVariables false
open Go
-- Operations whose order is open: what each reads and writes keeps apart those that nothing orders.
section abstract
variable {L V : Type} (N : Nat) (C : Nat → L → V) (S W : Nat → L → Prop) (pre : Nat → Nat → Prop)
open Classical in
/-- What stands when those of D are done. -/
noncomputable def vw (D : Nat → Prop) : Nat → L → V
  | 0, l => C 0 l
  | k + 1, l => if D k ∧ W k l then C (k + 1) l else vw D k l
variable {N C S W pre}
/-- Done with it are all that it hangs on. -/
def Closed (N : Nat) (pre : Nat → Nat → Prop) (D : Nat → Prop) : Prop := ∀ j i, D j → pre j i → D i
structure Apart (N : Nat) (C : Nat → L → V) (S W : Nat → L → Prop) (pre : Nat → Nat → Prop) : Prop where
  keep : ∀ k, k < N → ∀ l, ¬ W k l → C (k + 1) l = C k l
  rw_ : ∀ k j, k < j → j < N → ¬ pre j k → ∀ l, W k l → S j l → False
  wr : ∀ k j, k < j → j < N → ¬ pre j k → ∀ l, W j l → (S k l ∨ W k l) → False
theorem vw_low {D : Nat → Prop} (h : Apart N C S W pre) {j : Nat} (hj : j < N) (hpre : ∀ i, pre j i → D i) {l : L} (hl : S j l) : ∀ k, k ≤ j → vw C W D k l = C k l
  | 0, _ => rfl
  | k + 1, hk => by
    have ih := vw_low h hj hpre hl k (by omega)
    simp only [vw]
    by_cases hw : W k l
    · by_cases hd : D k
      · rw [if_pos ⟨hd, hw⟩]
      · exact absurd hl (fun hl => h.rw_ k j (by omega) hj (fun hp => hd (hpre k hp)) l hw hl)
    · rw [if_neg (fun hx => hw hx.2), ih, h.keep k (by omega) l hw]
theorem vw_at {D : Nat → Prop} (h : Apart N C S W pre) (hc : Closed N pre D) {j : Nat} (hj : j < N) (hpre : ∀ i, pre j i → D i) (hD : ¬ D j) {l : L} (hl : S j l) : ∀ k, j ≤ k → k ≤ N → vw C W D k l = C j l
  | 0, h0, _ => by
    have : j = 0 := by omega
    subst this; rfl
  | k + 1, hk, hkN => by
    by_cases he : j = k + 1
    · subst he; exact vw_low h hj hpre hl _ (Nat.le_refl _)
    · have ih := vw_at h hc hj hpre hD hl k (by omega) (by omega)
      simp only [vw]
      by_cases hx : D k ∧ W k l
      · exfalso
        by_cases hkj : k = j
        · subst hkj; exact hD hx.1
        · exact h.wr j k (by omega) (by omega) (fun hp => hD (hc k j hx.1 hp)) l hx.2 (.inl hl)
      · rw [if_neg hx, ih]
/-- One more is done. -/
theorem vw_more {D D' : Nat → Prop} (h : Apart N C S W pre) (hc : Closed N pre D) {j : Nat} (hj : j < N) (hpre : ∀ i, pre j i → D i) (hD : ¬ D j) (hD' : ∀ i, D' i ↔ D i ∨ i = j) (l : L) : ∀ k, k ≤ N →
    (j < k → W j l → vw C W D' k l = C (j + 1) l) ∧ ((k ≤ j ∨ ¬ W j l) → vw C W D' k l = vw C W D k l)
  | 0, _ => ⟨fun h => by omega, fun _ => rfl⟩
  | k + 1, hk => by
    obtain ⟨i1, i2⟩ := vw_more h hc hj hpre hD hD' l k (by omega)
    refine ⟨fun hjk hw => ?_, fun hor => ?_⟩
    · simp only [vw]
      by_cases he : j = k
      · subst he
        rw [if_pos ⟨(hD' j).2 (.inr rfl), hw⟩]
      · by_cases hx : D' k ∧ W k l
        · exfalso
          have hdk : D k := ((hD' k).1 hx.1).resolve_right (fun hh => he hh.symm)
          exact h.wr j k (by omega) (by omega) (fun hp => hD (hc k j hdk hp)) l hx.2 (.inr hw)
        · rw [if_neg hx, i1 (by omega) hw]
    · simp only [vw]
      by_cases he : k = j
      · subst he
        have hnw : ¬ W k l := by
          rcases hor with hor | hor
          · omega
          · exact hor
        rw [if_neg (fun hx => hnw hx.2), if_neg (fun hx => hnw hx.2)]
        exact i2 (.inr hnw)
      · have hdd : D' k ↔ D k := by rw [hD' k]; simp [he]
        have ih := i2 (by rcases hor with hor | hor; exact .inl (by omega); exact .inr hor)
        by_cases hx : D k ∧ W k l
        · rw [if_pos hx, if_pos ⟨hdd.2 hx.1, hx.2⟩]
        · rw [if_neg hx, if_neg (fun hy => hx ⟨hdd.1 hy.1, hy.2⟩), ih]
theorem vw_all {D : Nat → Prop} (h : Apart N C S W pre) (hD : ∀ k, k < N → D k) (l : L) : ∀ k, k ≤ N → vw C W D k l = C k l
  | 0, _ => rfl
  | k + 1, hk => by
    have ih := vw_all h hD l k (by omega)
    simp only [vw]
    by_cases hw : W k l
    · rw [if_pos ⟨hD k (by omega), hw⟩]
    · rw [if_neg (fun hx => hw hx.2), ih, h.keep k (by omega) l hw]
theorem vw_none {D : Nat → Prop} (hD : ∀ k, ¬ D k) (l : L) : ∀ k, vw C W D k l = C 0 l
  | 0 => rfl
  | k + 1 => by
    simp only [vw]
    rw [if_neg (fun hx => hD k hx.1), vw_none hD l k]
end abstract
end Go.Proofs.Ytdfabagclnjoaaa
