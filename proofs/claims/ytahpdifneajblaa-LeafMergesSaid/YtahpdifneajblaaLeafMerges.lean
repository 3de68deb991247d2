/- gleaninglaw12.LeafMerges: for every input the law returns true, and leaves its arguments as they were. No condition. -/
import Derived.Test.YtahpdifneajblaaRows
import Derived.WalkKit
import Derived.Test.YtahpdifneajblaaOpenN
import Derived.Test.YtahpdifneajblaaLmY11
import Derived.Test.YtahpdifneajblaaLmY10
import Derived.Test.YtahpdifneajblaaLmY01
import Derived.Test.YtahpdifneajblaaLmY00
import Derived.Test.YtahpdifneajblaaLm1
import Derived.Test.YtahpdifneajblaaLm2
import Derived.Test.YtahpdifneajblaaLm3
import Derived.Test.YtahpdifneajblaaTail
import Derived.Test.YtahpdifneajblaaFrame
import Derived.ProofKit
import Derived.OpenShut
namespace Go.Proofs.Ytahpdifneajblaa.leafMerges
open Go.ChangeShapes Go.WideShapes Go.ChangeAt Go.RowKit
set_option linter.unusedVariables false

theorem own : ownKnob Try.prog.godebug = none := by kernel_rfl
theorem laidOut : laidOutB Try.prog = true := by kernel_rfl

set_option maxRecDepth 100000 in
set_option maxHeartbeats 4000000 in
theorem walk (w : World) (x0 : Nd) (hN0 : NR w x0) (hk0 : x0.link < 18446744073709551616) (hks0 : ∀ k ∈ x0.ks, k < 18446744073709551616) (hvs0 : ∀ k ∈ x0.vs, k < 18446744073709551616) (x1 : Nd) (hN1 : NR w x1) (hk1 : x1.link < 18446744073709551616) (hks1 : ∀ k ∈ x1.ks, k < 18446744073709551616) (hvs1 : ∀ k ∈ x1.vs, k < 18446744073709551616) :
    Calls Try.prog 5 #[ndV x0, ndV x1] w fun e w' => e = .returned (.bool true) ∧ Below w.heap.size w w' := by
  by_cases ha : x0.ks.length ≤ 80 ∧ x0.vs.length ≤ 80
  · by_cases hb : x1.ks.length ≤ 80 ∧ x1.vs.length ≤ 80
    · obtain ⟨l1, l2⟩ := ha
      obtain ⟨l3, l4⟩ := hb
      by_cases hp : rightP x0
      · by_cases hq : rightP x1
        · by_cases hf : folP x0 x1
          · by_cases hnb : 2 ≤ x1.ks.length
            · by_cases hna : 1 ≤ x0.ks.length
              · exact lm_y11 x0 x1 l1 l2 l3 l4 hf hnb hna w hN0 hN1
              · exact lm_y10 x0 x1 l1 l2 l3 l4 hf hnb hna w hN0 hN1
            · by_cases hna : 1 ≤ x0.ks.length
              · exact lm_y01 x0 x1 l1 l2 l3 l4 hf hnb hna w hN0 hN1
              · exact lm_y00 x0 x1 l1 l2 l3 l4 hf hnb hna w hN0 hN1
          · exact lm_n3 x0 x1 l1 l2 l3 l4 hp hq hf w hN0 hN1
        · exact lm_n2 x0 x1 l1 l2 l3 l4 hp hq w hN0 hN1
      · exact lm_n1 x0 x1 l1 l2 l3 l4 hp w hN0 hN1
    · have AW := Lib.hid awake12_any
      have SMa := Lib.hid (fun W' => small_any x0 W' (Nat.le_trans hN0.k.le hN0.k.max) (Nat.le_trans hN0.v.le hN0.v.max))
      have SMb := Lib.hid (fun W' => small_any x1 W' (Nat.le_trans hN1.k.le hN1.k.max) (Nat.le_trans hN1.v.le hN1.v.max))
      rw [show decide (x0.ks.length ≤ 80 ∧ x0.vs.length ≤ 80) = true by simp [ha]] at SMa
      rw [show decide (x1.ks.length ≤ 80 ∧ x1.vs.length ≤ 80) = false by simp only [hb, decide_false]] at SMb
      have K0 := Lib.hid (F2.start w x0 x1 hN0 hN1)
      have s1 : True := trivial
      have s2 : True := trivial
      clear ha hb hk0 hks0 hvs0 hk1 hks1 hvs1 hN0 hN1
      go_enter Try.func5, Try.ntmps5
      go_wp2_with (first
        | (go_at_call 8; have _t := s1; refine (SMa.out _).mono ?_; rintro e0 w1 ⟨rfl, hn⟩; clear s1; have K1 := Lib.hid (K0.out.next hn); clear hn; have u0 := K1.out.nb.c0; have u1 := K1.out.nb.c1; have u2 := K1.out.nb.c2; have u3 := K1.out.nb.c3)
        | (go_at_call 8; have _t := s2; refine (SMb.out _).mono ?_; rintro e0 w2 ⟨rfl, hn⟩; clear s2; have K2 := Lib.hid (K1.out.next hn); clear hn u0 u1 u2 u3)
        | (go_at_call 9; refine (AW.out _).mono ?_; rintro e0 w3 ⟨rfl, hn⟩; have K3 := Lib.hid (K2.out.next hn); clear hn))
      go_ret
      exact ⟨rfl, K3.out.bl⟩
  · have AW := Lib.hid awake12_any
    have SMa := Lib.hid (fun W' => small_any x0 W' (Nat.le_trans hN0.k.le hN0.k.max) (Nat.le_trans hN0.v.le hN0.v.max))
    rw [show decide (x0.ks.length ≤ 80 ∧ x0.vs.length ≤ 80) = false by simp only [ha, decide_false]] at SMa
    have K0 := Lib.hid (F2.start w x0 x1 hN0 hN1)
    clear ha hk0 hks0 hvs0 hk1 hks1 hvs1 hN0 hN1
    go_enter Try.func5, Try.ntmps5
    go_wp2_with (first
      | (go_at_call 8; refine (SMa.out _).mono ?_; rintro e0 w1 ⟨rfl, hn⟩; have K1 := Lib.hid (K0.out.next hn); clear hn)
      | (go_at_call 9; refine (AW.out _).mono ?_; rintro e0 w2 ⟨rfl, hn⟩; have K2 := Lib.hid (K1.out.next hn); clear hn))
    go_ret
    exact ⟨rfl, K2.out.bl⟩

set_option maxRecDepth 100000 in
theorem lifted (os : Os) (started : os.Started) (H : Type) (enc : TypeId × Value → H) :
    ReturnsInHanded {} Try.checked os 5 .any (Rows.leafMergesSpec.pre6 enc Try.prog Try.f5 Rows.leafMergesRow.domain false) (Rows.leafMergesSpec.post enc Try.prog Try.f5 false true false false) := by
  refine returnsInHanded_of_change (C := Try.checked) own started (by kernel_rfl) Try.func5
    (ChangeSpec.witness6 (enc := enc) (C := Try.checked) false ⟨#[], #[.agg #[.bool false, .slice none 0 0, .slice none 0 0, .int .u64 0], .agg #[.bool false, .slice none 0 0, .slice none 0 0, .int .u64 0]], []⟩ 8 (by kernel_rfl) (by kernel_rfl) (by kernel_rfl) (by kernel_rfl)) ?_
  intro W base args ds gs before hval0 hW hcnd _
  have hval : ∀ (j : Nat) t v, Try.f5.params[j]? = some t → args[j]? = some v → Value.okWide Try.prog W .any base t v := hval0
  have hW' := hW
  obtain ⟨p, q, hA0, hV, rfl, hfz, hnd⟩ := hW
  have hA : DataW.TrodAll enc Try.prog W 0 (fun _ => true) true Try.f5.params.toList args.toList ds p := hA0
  rw [Try.params5] at hA hval
  obtain ⟨v0, vs0, d0, ds0, p0, q0, hargs, rfl, rfl, h0, r0⟩ := trodAll_cons hA
  obtain ⟨v1, vs1, d1, ds1, p1, q1, rfl, rfl, rfl, h1, r1⟩ := trodAll_cons r0
  obtain ⟨rfl, rfl, rfl⟩ := trodAll_nil r1
  obtain rfl : args = #[v0, v1] := by cases args; simp_all
  obtain ⟨rfl, rfl⟩ := trodVars_none hV
  have k0 := h0
  obtain ⟨x0, h0v, hN0, hk0, hks0, hvs0⟩ := open_node (e := 23) Try.underlying25 (by kernel_rfl) (by kernel_rfl) (by kernel_rfl) (by kernel_rfl) (by kernel_rfl) (by kernel_rfl) (by kernel_rfl) (by kernel_rfl) (hval 0 25 v0 rfl rfl) h0
  obtain rfl : v0 = ndV x0 := h0v
  have k1 := h1
  obtain ⟨x1, h1v, hN1, hk1, hks1, hvs1⟩ := open_node (e := 23) Try.underlying25 (by kernel_rfl) (by kernel_rfl) (by kernel_rfl) (by kernel_rfl) (by kernel_rfl) (by kernel_rfl) (by kernel_rfl) (by kernel_rfl) (hval 1 25 v1 rfl rfl) h1
  obtain rfl : v1 = ndV x1 := h1v
  clear hA0 hval0
  simp only [List.append_nil] at hW'
  have hlt0 : ∀ x ∈ p0, x.block < W.heap.size := fun x hx => by simpa using hW'.lt x (by simp [hx])
  have hlt1 : ∀ x ∈ p1, x.block < W.heap.size := fun x hx => by simpa using hW'.lt x (by simp [hx])
  refine (walk W x0 hN0 hk0 hks0 hvs0 x1 hN1 hk1 hks1 hvs1).mono fun e W' ⟨he, hg⟩ => ?_
  subst he
  exact ⟨_, rfl, post_of_below2 (pv := []) hW' (fun _ _ _ => (trodAll_cons_mk (shut_bool Try.underlying4 _) trodAll_mk0)) (trodAll_cons_mk (Below.trod laidOut (by kernel_rfl) (of_decide_eq_true (by kernel_rfl)) k0 hg hlt0) (trodAll_cons_mk (Below.trod laidOut (by kernel_rfl) (of_decide_eq_true (by kernel_rfl)) k1 hg hlt1) trodAll_mk0)) rfl (by simp) (hg.frame _)⟩

theorem over : Rows.leafMergesRow.holds Try.pinned (OpenSpec.ofChange Rows.leafMergesSpec) :=
  OpenClaim.holds_of_wide 5 Try.f5 rfl rfl rfl rfl rfl rfl rfl ⟨rfl, rfl, rfl, rfl, rfl⟩ rfl rfl rfl rfl rfl (by kernel_rfl) Try.func5 (by kernel_rfl)
    (of_decide_eq_true (by kernel_rfl)) (by unfold Func.isWrapper; first | (rw [if_pos (by decide +kernel)]; kernel_rfl) | (rw [if_neg (by decide +kernel)]; exact ⟨rfl, rfl⟩))
    (fun os started H enc _ => lifted os started H enc)

theorem proved : Rows.LeafMergesSaid :=
  over

#print axioms proved
end Go.Proofs.Ytahpdifneajblaa.leafMerges
