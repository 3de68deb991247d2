/- gleaninglaw04.VwordTurns: for every input the law returns true, and leaves its arguments as they were. No condition. -/
import Derived.Test.YtmpfajnieanfnaaRows
import Derived.WalkKit
import Derived.Test.YtmpfajnieanfnaaAwake4
import Derived.Test.YtmpfajnieanfnaaFrame
import Derived.ProofKit
import Derived.OpenShut
namespace Go.Proofs.Ytmpfajnieanfnaa.vwordTurns
open Go.ChangeShapes Go.WideShapes Go.ChangeAt Go.RowKit
set_option linter.unusedVariables false      -- a walk need not use every 'w<i>' (that an integer argument fits its kind)

theorem own : ownKnob Try.prog.godebug = none := by kernel_rfl

/-! ### STEP 1: THE WALK: the Go text returns true. 'Grown w w'': the world has at most new blocks (Derived/RowKit3.lean). Part the cases AHEAD of 'go_enter' where a test parts the walk; take each callee by a contract of your own. -/
set_option maxHeartbeats 4000000 in
theorem walk (a0 : Int) (a1 : Int) (w0 : (Lit.int .u64 a0).wf = true) (w1 : (Lit.int .u64 a1).wf = true) (w : World) :
    Calls Try.prog 4 #[.int .u64 a0, .int .u64 a1] w fun e w' => e = .returned (.bool true) ∧ Below w.heap.size w w' := by
  obtain ⟨x0, rfl⟩ : ∃ x : Nat, a0 = x := ⟨a0.toNat, by have := u64_lo w0; omega⟩
  have hx0 := u64_hi w0
  obtain ⟨x1, rfl⟩ : ∃ x : Nat, a1 = x := ⟨a1.toNat, by have := u64_lo w1; omega⟩
  have hx1 := u64_hi w1
  have hb : Below w.heap.size w w := Below.refl _ _
  go_enter Try.func4, Try.ntmps4
  go_wp2_with (first | (go_at_call 20; refine (lock_any _ (by omega) _).mono ?_; rintro e wn ⟨rfl, hn⟩; replace hb : Below w.heap.size w wn := (by first | exact hb.trans (hn.mono hb.size) | exact (below_drewN hb _).trans (hn.mono hb.size)); clear hn) | (go_at_call 21; refine (rlock_any _ (by omega) _).mono ?_; rintro e wn ⟨rfl, hn⟩; replace hb : Below w.heap.size w wn := (by first | exact hb.trans (hn.mono hb.size) | exact (below_drewN hb _).trans (hn.mono hb.size)); clear hn) | (go_at_call 22; refine (undo_any _ (by omega) _).mono ?_; rintro e wn ⟨rfl, hn⟩; replace hb : Below w.heap.size w wn := (by first | exact hb.trans (hn.mono hb.size) | exact (below_drewN hb _).trans (hn.mono hb.size)); clear hn) | (go_at_call 23; refine (rundo_any _ (by omega) _).mono ?_; rintro e wn ⟨rfl, hn⟩; replace hb : Below w.heap.size w wn := (by first | exact hb.trans (hn.mono hb.size) | exact (below_drewN hb _).trans (hn.mono hb.size)); clear hn) | (go_at_call 24; refine (bump_any _ (by omega) _).mono ?_; rintro e wn ⟨rfl, hn⟩; replace hb : Below w.heap.size w wn := (by first | exact hb.trans (hn.mono hb.size) | exact (below_drewN hb _).trans (hn.mono hb.size)); clear hn) | (go_at_call 25; refine (rbump_any _ (by omega) _).mono ?_; rintro e wn ⟨rfl, hn⟩; replace hb : Below w.heap.size w wn := (by first | exact hb.trans (hn.mono hb.size) | exact (below_drewN hb _).trans (hn.mono hb.size)); clear hn) | (go_at_call 26; refine (kill_any _ (by omega) _).mono ?_; rintro e wn ⟨rfl, hn⟩; replace hb : Below w.heap.size w wn := (by first | exact hb.trans (hn.mono hb.size) | exact (below_drewN hb _).trans (hn.mono hb.size)); clear hn) | (go_at_call 27; refine (rkill_any _ (by omega) _).mono ?_; rintro e wn ⟨rfl, hn⟩; replace hb : Below w.heap.size w wn := (by first | exact hb.trans (hn.mono hb.size) | exact (below_drewN hb _).trans (hn.mono hb.size)); clear hn) | (go_at_call 28; refine (renew_any _ (by omega) _).mono ?_; rintro e wn ⟨rfl, hn⟩; replace hb : Below w.heap.size w wn := (by first | exact hb.trans (hn.mono hb.size) | exact (below_drewN hb _).trans (hn.mono hb.size)); clear hn) | (go_at_call 29; refine (rrenew_any _ (by omega) _).mono ?_; rintro e wn ⟨rfl, hn⟩; replace hb : Below w.heap.size w wn := (by first | exact hb.trans (hn.mono hb.size) | exact (below_drewN hb _).trans (hn.mono hb.size)); clear hn) | (go_at_call 30; refine (begin_any _ _ (by omega) (by omega) _).mono ?_; rintro e w' ⟨rfl, n, rfl⟩) | (go_at_call 31; refine (rbegin_any _ _ (by omega) (by omega) _).mono ?_; rintro e wn ⟨rfl, hn⟩; replace hb : Below w.heap.size w wn := (by first | exact hb.trans (hn.mono hb.size) | exact (below_drewN hb _).trans (hn.mono hb.size)); clear hn) | (go_at_call 19; refine (awake4_any _).mono ?_; rintro e wn ⟨rfl, hn⟩; replace hb : Below w.heap.size w wn := (by first | exact hb.trans (hn.mono hb.size) | exact (below_drewN hb _).trans (hn.mono hb.size)); clear hn))
  go_ret
  exact ⟨rfl, hb⟩

/-! ### THE ROW's STEP: WRITTEN OUT: LEAVE IT -/
set_option maxRecDepth 100000 in
theorem lifted (os : Os) (started : os.Started) (H : Type) (enc : TypeId × Value → H) :
    ReturnsInHanded {} Try.checked os 4 .any (Rows.vwordTurnsSpec.pre6 enc Try.prog Try.f4 Rows.vwordTurnsRow.domain false) (Rows.vwordTurnsSpec.post enc Try.prog Try.f4 false true false false) := by
  refine returnsInHanded_of_change (C := Try.checked) own started (by kernel_rfl) Try.func4
    (ChangeSpec.witness6 (enc := enc) (C := Try.checked) false ⟨#[], #[.int .u64 0, .int .u64 0], []⟩ 8 (by kernel_rfl) (by kernel_rfl) (by kernel_rfl) (by kernel_rfl)) ?_
  intro W base args ds gs before hval0 hW hcnd _
  have hval : ∀ (j : Nat) t v, Try.f4.params[j]? = some t → args[j]? = some v → Value.okWide Try.prog W .any base t v := hval0
  have hW' := hW
  obtain ⟨p, q, hA0, hV, rfl, hfz, hnd⟩ := hW
  have hA : DataW.TrodAll enc Try.prog W 0 (fun _ => true) true Try.f4.params.toList args.toList ds p := hA0
  rw [Try.params4] at hA hval
  obtain ⟨v0, vs0, d0, ds0, p0, q0, hargs, rfl, rfl, h0, r0⟩ := trodAll_cons hA
  obtain ⟨v1, vs1, d1, ds1, p1, q1, rfl, rfl, rfl, h1, r1⟩ := trodAll_cons r0
  obtain ⟨rfl, rfl, rfl⟩ := trodAll_nil r1
  obtain rfl : args = #[v0, v1] := by cases args; simp_all
  obtain ⟨rfl, rfl⟩ := trodVars_none hV
  obtain ⟨a0, rfl, rfl, rfl, w0⟩ := open_int Try.underlying22 (hval 0 22 v0 rfl rfl) h0
  obtain ⟨a1, rfl, rfl, rfl, w1⟩ := open_int Try.underlying22 (hval 1 22 v1 rfl rfl) h1
  clear hA0 hval0
  simp only [List.append_nil] at hW'
  refine (walk a0 a1 w0 w1 W).mono fun e W' ⟨he, hg⟩ => ?_
  subst he
  exact ⟨_, rfl, post_of_below (pa := []) (pv := []) hW' (fun _ _ _ => (trodAll_cons_mk (shut_bool Try.underlying4 _) trodAll_mk0)) (fun sp _ => (trodAll_cons_mk (shut_int Try.underlying22 w0) (trodAll_cons_mk (shut_int Try.underlying22 w1) trodAll_mk0))) (fun _ _ => rfl) rfl (hg.frame _)⟩

theorem over : Rows.vwordTurnsRow.holds Try.pinned (OpenSpec.ofChange Rows.vwordTurnsSpec) :=
  OpenClaim.holds_of_wide 4 Try.f4 rfl rfl rfl rfl rfl rfl rfl ⟨rfl, rfl, rfl, rfl, rfl⟩ rfl rfl rfl rfl rfl (by kernel_rfl) Try.func4 (by kernel_rfl)
    (of_decide_eq_true (by kernel_rfl)) (by unfold Func.isWrapper; first | (rw [if_pos (by decide +kernel)]; kernel_rfl) | (rw [if_neg (by decide +kernel)]; exact ⟨rfl, rfl⟩))
    (fun os started H enc _ => lifted os started H enc)

/--  THE STATEMENT  -/
theorem proved : Rows.VwordTurnsSaid :=
  over
#print axioms proved
end Go.Proofs.Ytmpfajnieanfnaa.vwordTurns
