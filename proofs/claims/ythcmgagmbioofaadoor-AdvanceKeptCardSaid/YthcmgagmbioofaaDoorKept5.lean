/- One access of an epoch that goes on over words. -/
import Derived.Test.YthcmgagmbioofaaDoorKept4
namespace Go.Proofs.YthcmgagmbioofaaDoor
set_option linter.unusedVariables false
open Go.RowKit
theorem doF_ld {us : List Nat} (i : Nat) (h : i < us.length) : doF us 1 (i : Int) 0 0 = (us.getD i 0, us) := by
  unfold doF
  rw [if_pos ⟨by omega, by omega⟩, if_pos rfl]; rfl
theorem doF_hit {us : List Nat} (i o n : Nat) (h : i < us.length) (ho : us.getD i 0 = o) : doF us 3 (i : Int) o n = (1, us.set i n) := by
  unfold doF
  rw [if_pos ⟨by omega, by omega⟩, if_neg (by omega), if_neg (by omega), if_pos rfl]
  simp only [Int.toNat_natCast]
  rw [if_pos ho]
theorem cn_top {th t : Int} {o : Nat} (h0 : 0 ≤ th) (ht : th < t) (ho : (o : Int) < t) (hne : (o : Int) ≠ th) : (cnN th o : Int) ≤ t - 2 := by
  unfold cnN
  by_cases hl : th < (o : Int)
  · rw [if_pos hl]; omega
  · rw [if_neg hl]; omega
theorem blk_of {us : List Nat} {th : Int} {o : Nat} (h : (o : Int) ≠ th) : blk us th o = awBlocks (us.getD (3 + o) 0) (us.getD 0 0) := by unfold blk; rw [decide_eq_true h, Bool.true_and]
theorem run_step {s t f l p th : Int} {us : List Nat} {x : Ad} {vs : List Nat} {n : Nat} (h : Run s t f l p th us x vs n) (hok : okC s t f l p) (h0 : 0 ≤ th) (ht : th < t) (hlen : 3 + t.toNat ≤ us.length) (hsm : ∀ i, us.getD i 0 < 18446744073709551616) (hs : x.st ≠ 0) :
    ∃ (k a : Int) (o m : Nat), (∀ W : World, Calls Tryd.prog 11 #[adV x] W fun e w' => e = .returned (askM k a o m) ∧ Below W.heap.size W w') ∧ (doF vs k a o m).1 < 18446744073709551616 ∧ Run s t f l p th us (x.took (doF vs k a o m).1) (doF vs k a o m).2 (n + 1) := by
  have ha : ∀ o : Nat, (o : Int) < t → atL s t f 4 o 0 = ((3 + o : Nat) : Int) := fun o ho => by unfold atL; rw [if_neg (by omega), if_pos rfl, if_neg (by omega)]; omega
  have hb : atL s t f 1 0 0 = ((0 : Nat) : Int) := by have := hok.1.1; unfold atL; rw [if_pos (by omega), if_neg (by omega)]; rfl
  have hc : atL s t f 2 0 0 = ((1 : Nat) : Int) := by have := hok.1.1; unfold atL; rw [if_pos (by omega), if_neg (by omega)]; rfl
  cases h with
  | begins =>
    refine ⟨1, ((0 : Nat) : Int), 0, 0, fun W => by have h := awant_1 s t f l p th 0 ((0 : Nat) : Int) 0 0 ((0 : Nat) : Int) ((0 : Nat) : Int) (.inl hok) W; rw [hb] at h; exact h, ?_, ?_⟩
    · rw [doF_ld 0 (by omega)]; exact hsm 0
    · rw [doF_ld 0 (by omega)]
      exact run_turn 1 0 0 0 0 0 1 h0 ht (by omega) (fun j hj => by omega) (by omega)
  | ann o wx v ju n ho hne hf hn =>
    have hgl : 3 + o < (upd us th o).length := by rw [upd_len]; omega
    have hg : (upd us th o).getD (3 + o) 0 = us.getD (3 + o) 0 := upd_low us th o _ (by omega) (by omega)
    refine ⟨1, ((3 + o : Nat) : Int), 0, 0, fun W => by have h := awant_2 s t f l p th 0 ((us.getD 0 0 : Nat) : Int) (o : Nat) wx v ju (.inl hok) W; rw [ha o ho] at h; exact h, ?_, ?_⟩
    · rw [doF_ld _ hgl, hg]; exact hsm _
    · rw [doF_ld _ hgl, hg]
      unfold Ad.took
      simp only
      rw [if_neg (by omega), if_pos trivial]
      simp only [Int.toNat_natCast]
      by_cases hk : awBlocks (us.getD (3 + o) 0) (us.getD 0 0) = true
      · rw [if_pos hk]
        exact .clk o v (n + 1) ho hne hf ((blk_of hne).trans hk) (by omega)
      · rw [if_neg hk]
        have hbf : blk us th o = false := by rw [blk_of hne]; simpa only [Bool.not_eq_true] using hk
        have := run_turn (s := s) (f := f) (l := l) (p := p) (us := us) 2 o wx v 0 (o + 1) (n + 1) h0 ht (by omega) (frs_skip hf (fun h => by rw [hbf] at h; cases h)) (by rw [cn_next hne h0]; omega)
        rw [upd_skip us hbf] at this
        exact this
  | clk o v n ho hne hf hbk hn =>
    have hgl : 1 < (upd us th o).length := by rw [upd_len]; omega
    have hg : (upd us th o).getD 1 0 = us.getD 1 0 := upd_low us th o _ (by omega) (by omega)
    refine ⟨1, ((1 : Nat) : Int), 0, 0, fun W => by have h := awant_3 s t f l p th 0 ((us.getD 0 0 : Nat) : Int) (o : Nat) ((us.getD (3 + o) 0 : Nat) : Int) v ((0 : Nat) : Int) (.inl hok) W; rw [hc] at h; exact h, ?_, ?_⟩
    · rw [doF_ld _ hgl, hg]; exact hsm _
    · rw [doF_ld _ hgl, hg]
      unfold Ad.took
      simp only
      rw [if_neg (by omega), if_neg (by omega), if_pos trivial]
      simp only [Int.toNat_natCast]
      by_cases hk : awStalled (us.getD (3 + o) 0) (us.getD 1 0) p = true
      · rw [if_pos hk]
        exact .evi o v (n + 1) ho hne hf hbk hk (by omega)
      · rw [if_neg hk]
        have hk : stl us p o = false := by unfold stl; simpa only [Bool.not_eq_true] using hk
        have := cn_top h0 ht ho hne
        exact .stuck o _ v _ (n + 1) ho hf hbk hk (by omega)
  | evi o v n ho hne hf hbk hst hn =>
    have hgl : 3 + o < (upd us th o).length := by rw [upd_len]; omega
    have hg : (upd us th o).getD (3 + o) 0 = us.getD (3 + o) 0 := upd_low us th o _ (by omega) (by omega)
    refine ⟨3, ((3 + o : Nat) : Int), us.getD (3 + o) 0, us.getD (3 + o) 0 - us.getD (3 + o) 0 % 4 + 2, fun W => by have h := awant_4 s t f l p th 0 ((us.getD 0 0 : Nat) : Int) (o : Nat) v ((0 : Nat) : Int) _ (hsm (3 + o)) (.inl hok) W; rw [ha o ho] at h; exact h, ?_, ?_⟩
    · rw [doF_hit _ _ _ hgl hg]; omega
    · rw [doF_hit _ _ _ hgl hg]
      unfold Ad.took
      simp only
      rw [if_neg (by omega), if_neg (by omega), if_neg (by omega), if_pos trivial, if_pos trivial]
      have hu : (upd us th o).set (3 + o) (us.getD (3 + o) 0 - us.getD (3 + o) 0 % 4 + 2) = upd us th (o + 1) := by
        show _ = (if blk us th o = true then _ else _)
        rw [if_pos hbk]; rfl
      rw [hu]
      exact run_turn (s := s) (f := f) (l := l) (p := p) (us := us) 4 o _ _ _ (o + 1) (n + 1) h0 ht (by omega) (frs_skip hf (fun _ => hst)) (by rw [cn_next hne h0]; omega)
  | go wx v ju n hf hn =>
    have hgl : 0 < (upd us th t.toNat).length := by rw [upd_len]; omega
    have hg : (upd us th t.toNat).getD 0 0 = us.getD 0 0 := upd_low us th _ _ (by omega) (by omega)
    have hw : IntKind.u64.wrap (((us.getD 0 0 : Nat) : Int) + 1) = (((us.getD 0 0 + 1) % 18446744073709551616 : Nat) : Int) := by rw [IntKind.wrap_u64]; omega
    refine ⟨3, ((0 : Nat) : Int), us.getD 0 0, (us.getD 0 0 + 1) % 18446744073709551616, fun W => by have h := awant_5 s t f l p th 0 ((us.getD 0 0 : Nat) : Int) 0 wx v ju (.inl hok) W; rw [hb, hw] at h; exact h, ?_, ?_⟩
    · rw [doF_hit _ _ _ hgl hg]; omega
    · rw [doF_hit _ _ _ hgl hg]
      unfold Ad.took
      simp only
      rw [if_neg (by omega), if_neg (by omega), if_neg (by omega), if_neg (by omega), if_pos trivial, if_pos trivial]
      exact .gone wx v _ (n + 1) hf (by omega)
  | gone => exact absurd rfl hs
  | stuck => exact absurd rfl hs
end Go.Proofs.YthcmgagmbioofaaDoor
