/- gleaningref09.Copy. -/
import Derived.Test.YthcmgagmbioofaaDoorKept2
import Derived.Maps.AppendAt
namespace Go.Proofs.YthcmgagmbioofaaDoor
set_option linter.unusedVariables false
open Go.RowKit Go.Extern.Stop Go.Stop Go.Extern
/-- The words of a row, each below 2^64 or not: their block. -/
theorem WB.ofRow {W : World} {B : Nat} {v : Value} {us : List Nat} (h : W.ownsRow B 28 1 v us.length (wvs us)) (h0 : 0 < us.length) : ∃ b q, v = .slice (some ⟨b, 0, none⟩) us.length q ∧ us.length ≤ q ∧ q ≤ maxLen ∧ B ≤ b ∧ WB b us W := by
  have hs := SR.of_own h
  rcases h.2 with ⟨rfl, h1⟩ | ⟨g, cap, cur, rfl, hb, hh, hle, hm, _⟩
  · omega
  · refine ⟨g, cap, rfl, hle, hm, hb, fun i hi => ?_, fun i => ?_, ?_⟩
    · obtain ⟨A, c, b, e, hr, _⟩ := hs
      injection e with e1 e2 e3
      have := hr.a h0
      rw [← e1] at this
      injection this with e4
      injection e4 with e5
      subst e5
      have := hr.c i hi
      rw [Nat.zero_add] at this; exact this
    · exact h.frozenAt i
    · rcases Nat.lt_or_ge g W.heap.size with hlt | hge
      · exact hlt
      · rw [Array.getElem?_eq_none hge] at hh; cases hh
set_option maxRecDepth 100000 in
set_option maxHeartbeats 1000000 in
theorem rcopy_any (g : Nat) (us : List Nat) (n : Nat) (hn : us.length = n) (h0 : 0 < n) (hl : n ≤ 100000) (W : World) (h : WB g us W) :
    Calls Tryd.prog 23 #[.slice (some ⟨g, 0, none⟩) n n] W fun e w' => ∃ b q, e = .returned (.slice (some ⟨b, 0, none⟩) n q) ∧ n ≤ q ∧ q ≤ maxLen ∧ W.heap.size ≤ b ∧ WB b us w' ∧ Below W.heap.size W w' := by
  obtain ⟨i0, hi, hz0, hz1, hz2⟩ := info_parts infoWd
  have HI := Lib.hid (And.intro hi (And.intro hz0 (And.intro hz1 hz2)))
  have HN := Lib.hid (show ∀ (W' : World), Below W.heap.size W W' → ∀ j u, (wvs us)[j]? = some u → W'.cell? ((⟨g, 0, none⟩ : Addr).add j) = some u from fun W' hb j u hu => by
    have hj : j < us.length := by
      have := (List.getElem?_eq_some_iff.1 hu).1
      simpa [wvs] using this
    have hw := (h.next hb).wd j hj
    have e : (⟨g, 0, none⟩ : Addr).add j = ⟨g, j, none⟩ := by
      unfold Addr.add
      split
      · rename_i h9; subst h9; rfl
      · simp
    rw [e, hw]
    have : (wvs us)[j]? = some (.int .u64 ((us.getD j 0 : Nat))) := by simp [wvs, List.getD, hj]
    exact this.symm.trans hu)
  have WO := Lib.hid (wvs_one us)
  have HL := Lib.hid hn
  clear hi hz0 hz1 hz2 h
  go_enter Tryd.func23, Tryd.ntmps23
  go_wp2_with (at_builtin; (refine wpList_append_own_at _ rfl _ _ 24 rfl W.heap.size 28 i0 (.int .u64 0) 1 8 sliceWd HI.out.1 HI.out.2.1 HI.out.2.2.1 HI.out.2.2.2 rfl (by decide) _ 0 [] rfl (World.ownsRow_made W #[] 0 (Nat.le_refl _) (by unfold maxLen; omega) rfl) ⟨g, 0, none⟩ n n (wvs us) rfl (by simp [wvs, HL.out]) (HN.out _ (ml1 _ _)) WO.out (by unfold maxLen; omega) (by omega) (by simp) ?_; intro v' w1 hown hgrow _ _; have HO := Lib.hid hown; have HG := Lib.hid ((ml1 W _).grown hgrow (by simp) (fun k e => Nat.le_of_eq (Option.some.inj e))); clear hown hgrow))
  go_ret
  have ho : w1.ownsRow W.heap.size 28 1 v' us.length (wvs us) := by have h := HO.out; rw [HL.out]; simpa using h
  obtain ⟨b, q, rfl, h1, h2, h3, h4⟩ := WB.ofRow ho (by rw [HL.out]; exact h0)
  rw [HL.out] at h1 ⊢
  exact ⟨b, q, rfl, h1, h2, h3, h4, HG.out⟩
end Go.Proofs.YthcmgagmbioofaaDoor
