/- What an epoch that goes on over words comes to. -/
import Derived.Test.YthcmgagmbioofaaDoorKept5
namespace Go.Proofs.YthcmgagmbioofaaDoor
set_option linter.unusedVariables false
open Go.RowKit
def frB (us : List Nat) (th p : Int) : Nat → Bool
  | 0 => true
  | j + 1 => frB us th p j && (!blk us th j || stl us p j)
theorem frB_of {us : List Nat} {th p : Int} : ∀ {o : Nat}, frs us th p o → frB us th p o = true
  | 0, _ => rfl
  | o + 1, h => by
    unfold frB
    rw [frB_of (o := o) (fun j hj => h j (by omega))]
    cases hb : blk us th o with
    | false => rfl
    | true => rw [h o (by omega) hb]; rfl
theorem frB_no {us : List Nat} {th p : Int} {o : Nat} (hb : blk us th o = true) (hs : stl us p o = false) : ∀ j, o < j → frB us th p j = false
  | 0, h => by omega
  | j + 1, h => by
    unfold frB
    by_cases he : j = o
    · subst he; rw [hb, hs]; simp
    · rw [frB_no hb hs j (by omega)]; rfl
theorem run_lt {s t f l p th : Int} {us : List Nat} {x : Ad} {vs : List Nat} {n : Nat} (h : Run s t f l p th us x vs n) (h0 : 0 ≤ th) (ht : th < t) (hs : x.st ≠ 0) : (n : Int) ≤ 1 + 3 * (t - 1) := by
  cases h with
  | begins => omega
  | ann o wx v ju n ho hne hf hn => have := cn_top h0 ht ho hne; omega
  | clk o v n ho hne hf hb hn => have := cn_top h0 ht ho hne; omega
  | evi o v n ho hne hf hb hst hn => have := cn_top h0 ht ho hne; omega
  | go wx v ju n hf hn => exact hn
  | gone => exact absurd rfl hs
  | stuck => exact absurd rfl hs
/-- What it comes to. -/
structure Fin (t p th : Int) (us : List Nat) (x : Ad) (vs : List Nat) (n : Nat) : Prop where
  n : (n : Int) ≤ 2 + 3 * (t - 1)
  w : ∀ j : Nat, (j : Int) < t → vs.getD (3 + j) 0 = if (frB us th p (j + 1) && blk us th j) = true then evx (us.getD (3 + j) 0) else us.getD (3 + j) 0
  e : (frB us th p t.toNat = true ∧ x.oc = 3 ∧ vs.getD 0 0 = (us.getD 0 0 + 1) % 18446744073709551616) ∨ (frB us th p t.toNat = false ∧ x.oc = 1 ∧ vs.getD 0 0 = us.getD 0 0)
theorem run_fin {s t f l p th : Int} {us : List Nat} {x : Ad} {vs : List Nat} {n : Nat} (h : Run s t f l p th us x vs n) (hlen : 3 + t.toNat ≤ us.length) (hs : x.st = 0) : Fin t p th us x vs n := by
  cases h with
  | begins => simp at hs
  | ann => simp at hs
  | clk => simp at hs
  | evi => simp at hs
  | go => simp at hs
  | gone wx v ju n hf hn =>
    refine ⟨hn, fun j hj => ?_, .inl ⟨frB_of hf, rfl, ?_⟩⟩
    · have hjn : j < t.toNat := by omega
      rw [set_getD _ _ _ _ (by rw [upd_len]; omega), if_neg (by omega), upd_get us th _ _ hlen]
      have e : frB us th p (j + 1) = true := frB_of (fun i hi => hf i (by omega))
      rw [e, Bool.true_and, show 3 + j - 3 = j by omega]
      by_cases hb : blk us th j = true
      · rw [if_pos ⟨by omega, by omega, hb⟩, if_pos hb]
      · rw [if_neg (fun h => hb h.2.2), if_neg hb]
    · rw [set_getD _ _ _ _ (by rw [upd_len]; omega), if_pos rfl]
  | stuck o wx v ju n ho hf hb hst hn =>
    refine ⟨hn, fun j hj => ?_, .inr ⟨frB_no hb hst _ (by omega), rfl, upd_low us th o 0 (by omega) (by omega)⟩⟩
    rw [upd_get us th _ _ (by omega), show 3 + j - 3 = j by omega]
    by_cases hjo : j < o
    · have e : frB us th p (j + 1) = true := frB_of (fun i hi => hf i (by omega))
      rw [e, Bool.true_and]
      by_cases hbj : blk us th j = true
      · rw [if_pos ⟨by omega, by omega, hbj⟩, if_pos hbj]
      · rw [if_neg (fun h => hbj h.2.2), if_neg hbj]
    · rw [if_neg (fun h => by omega), frB_no hb hst (j + 1) (by omega), Bool.false_and, if_neg (by simp)]
end Go.Proofs.YthcmgagmbioofaaDoor
