/- gleaninglaw12.LeafPuts: for every input the law returns true, and leaves its arguments as they were. No condition. -/
import Derived.Test.YtahpdifneajblaaRows
import Derived.WalkKit
import Derived.Test.YtahpdifneajblaaOpenN
import Derived.Test.YtahpdifneajblaaLpN
import Derived.Test.YtahpdifneajblaaLpT
import Derived.Test.YtahpdifneajblaaLpA
import Derived.Test.YtahpdifneajblaaTail
import Derived.Test.YtahpdifneajblaaFrame
import Derived.ProofKit
import Derived.OpenShut
namespace Go.Proofs.Ytahpdifneajblaa.leafPuts
open Go.ChangeShapes Go.WideShapes Go.ChangeAt Go.RowKit
set_option linter.unusedVariables false

theorem own : ownKnob Try.prog.godebug = none := by kernel_rfl
theorem laidOut : laidOutB Try.prog = true := by kernel_rfl

set_option maxRecDepth 100000 in
set_option maxHeartbeats 4000000 in
theorem walk (w : World) (x0 : Nd) (hN0 : NR w x0) (hk0 : x0.link < 18446744073709551616) (hks0 : ∀ k ∈ x0.ks, k < 18446744073709551616) (hvs0 : ∀ k ∈ x0.vs, k < 18446744073709551616) (a1 : Int) (w1 : (Lit.int .u64 a1).wf = true) (a2 : Int) (w2 : (Lit.int .u64 a2).wf = true) :
    Calls Try.prog 3 #[ndV x0, .int .u64 a1, .int .u64 a2] w fun e w' => e = .returned (.bool true) ∧ Below w.heap.size w w' := by
  obtain ⟨q, rfl⟩ : ∃ q : Nat, a1 = q := ⟨a1.toNat, by have := u64_lo w1; omega⟩
  obtain ⟨v, rfl⟩ : ∃ v : Nat, a2 = v := ⟨a2.toNat, by have := u64_lo w2; omega⟩
  by_cases ha : x0.ks.length ≤ 80 ∧ x0.vs.length ≤ 80
  · obtain ⟨l1, l2⟩ := ha
    by_cases hp : rightP x0
    · cases hq : hasB x0.ks q with
      | true => exact lp_t x0 q v l1 l2 hp hq w hN0
      | false => exact lp_a x0 q v l1 l2 hp hq w hN0
    · exact lp_n x0 q v l1 l2 hp w hN0
  · have AW := Lib.hid awake12_any
    have SMa := Lib.hid (fun W' => small_any x0 W' (Nat.le_trans hN0.k.le hN0.k.max) (Nat.le_trans hN0.v.le hN0.v.max))
    rw [show decide (x0.ks.length ≤ 80 ∧ x0.vs.length ≤ 80) = false by simp only [ha, decide_false]] at SMa
    have K0 := Lib.hid (PX.start w x0 hN0)
    clear ha hk0 hks0 hvs0 hN0
    go_enter Try.func3, Try.ntmps3
    go_wp2_with (first
      | (go_at_call 8; refine (SMa.out _).mono ?_; rintro e0 w1 ⟨rfl, hn⟩; have K1 := Lib.hid (K0.out.next hn); clear hn)
      | (go_at_call 9; refine (AW.out _).mono ?_; rintro e0 w2 ⟨rfl, hn⟩; have K2 := Lib.hid (K1.out.next hn); clear hn))
    go_ret
    exact ⟨rfl, K2.out.bl⟩

set_option maxRecDepth 100000 in
theorem lifted (os : Os) (started : os.Started) (H : Type) (enc : TypeId × Value → H) :
    ReturnsInHanded {} Try.checked os 3 .any (Rows.leafPutsSpec.pre6 enc Try.prog Try.f3 Rows.leafPutsRow.domain false) (Rows.leafPutsSpec.post enc Try.prog Try.f3 false true false false) := by
  refine returnsInHanded_of_change (C := Try.checked) own started (by kernel_rfl) Try.func3
    (ChangeSpec.witness6 (enc := enc) (C := Try.checked) false ⟨#[], #[.agg #[.bool false, .slice none 0 0, .slice none 0 0, .int .u64 0], .int .u64 0, .int .u64 0], []⟩ 8 (by kernel_rfl) (by kernel_rfl) (by kernel_rfl) (by kernel_rfl)) ?_
  intro W base args ds gs before hval0 hW hcnd _
  have hval : ∀ (j : Nat) t v, Try.f3.params[j]? = some t → args[j]? = some v → Value.okWide Try.prog W .any base t v := hval0
  have hW' := hW
  obtain ⟨p, q, hA0, hV, rfl, hfz, hnd⟩ := hW
  have hA : DataW.TrodAll enc Try.prog W 0 (fun _ => true) true Try.f3.params.toList args.toList ds p := hA0
  rw [Try.params3] at hA hval
  obtain ⟨v0, vs0, d0, ds0, p0, q0, hargs, rfl, rfl, h0, r0⟩ := trodAll_cons hA
  obtain ⟨v1, vs1, d1, ds1, p1, q1, rfl, rfl, rfl, h1, r1⟩ := trodAll_cons r0
  obtain ⟨v2, vs2, d2, ds2, p2, q2, rfl, rfl, rfl, h2, r2⟩ := trodAll_cons r1
  obtain ⟨rfl, rfl, rfl⟩ := trodAll_nil r2
  obtain rfl : args = #[v0, v1, v2] := by cases args; simp_all
  obtain ⟨rfl, rfl⟩ := trodVars_none hV
  have k0 := h0
  obtain ⟨x0, h0v, hN0, hk0, hks0, hvs0⟩ := open_node (e := 23) Try.underlying25 (by kernel_rfl) (by kernel_rfl) (by kernel_rfl) (by kernel_rfl) (by kernel_rfl) (by kernel_rfl) (by kernel_rfl) (by kernel_rfl) (hval 0 25 v0 rfl rfl) h0
  obtain rfl : v0 = ndV x0 := h0v
  obtain ⟨a1, rfl, rfl, rfl, w1⟩ := open_int Try.underlying23 (hval 1 23 v1 rfl rfl) h1
  obtain ⟨a2, rfl, rfl, rfl, w2⟩ := open_int Try.underlying23 (hval 2 23 v2 rfl rfl) h2
  clear hA0 hval0
  simp only [List.append_nil] at hW'
  have hlt0 : ∀ x ∈ p0, x.block < W.heap.size := fun x hx => by simpa using hW'.lt x (by simp [hx])
  refine (walk W x0 hN0 hk0 hks0 hvs0 a1 w1 a2 w2).mono fun e W' ⟨he, hg⟩ => ?_
  subst he
  exact ⟨_, rfl, post_of_below2 (pv := []) hW' (fun _ _ _ => (trodAll_cons_mk (shut_bool Try.underlying4 _) trodAll_mk0)) (trodAll_cons_mk (Below.trod laidOut (by kernel_rfl) (of_decide_eq_true (by kernel_rfl)) k0 hg hlt0) (trodAll_cons_mk (shut_int Try.underlying23 w1) (trodAll_cons_mk (shut_int Try.underlying23 w2) trodAll_mk0))) rfl (by simp) (hg.frame _)⟩

theorem over : Rows.leafPutsRow.holds Try.pinned (OpenSpec.ofChange Rows.leafPutsSpec) :=
  OpenClaim.holds_of_wide 3 Try.f3 rfl rfl rfl rfl rfl rfl rfl ⟨rfl, rfl, rfl, rfl, rfl⟩ rfl rfl rfl rfl rfl (by kernel_rfl) Try.func3 (by kernel_rfl)
    (of_decide_eq_true (by kernel_rfl)) (by unfold Func.isWrapper; first | (rw [if_pos (by decide +kernel)]; kernel_rfl) | (rw [if_neg (by decide +kernel)]; exact ⟨rfl, rfl⟩))
    (fun os started H enc _ => lifted os started H enc)

theorem proved : Rows.LeafPutsSaid :=
  over

#print axioms proved
end Go.Proofs.Ytahpdifneajblaa.leafPuts
