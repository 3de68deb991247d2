/- gleaninglaw05.AwordBlocks: for every input the law returns true, and leaves its arguments as they were. No condition. -/
import Derived.Test.YtmpfajnieanfnaaRows
import Derived.WalkKit
import Derived.Test.YtmpfajnieanfnaaAwake5
import Derived.ProofKit
import Derived.OpenShut
namespace Go.Proofs.Ytmpfajnieanfnaa.awordBlocks
open Go.ChangeShapes Go.WideShapes Go.ChangeAt Go.RowKit
set_option linter.unusedVariables false      -- a walk need not use every 'w<i>' (that an integer argument fits its kind)

theorem own : ownKnob Try.prog.godebug = none := by kernel_rfl

/-! ### STEP 1: THE WALK: the Go text returns true. 'Grown w w'': the world has at most new blocks (Derived/RowKit3.lean). Part the cases AHEAD of 'go_enter' where a test parts the walk; take each callee by a contract of your own. -/
set_option maxHeartbeats 4000000 in
theorem walk (a0 : Int) (a1 : Int) (w0 : (Lit.int .u64 a0).wf = true) (w1 : (Lit.int .u64 a1).wf = true) (w : World) :
    Calls Try.prog 7 #[.int .u64 a0, .int .u64 a1] w fun e w' => e = .returned (.bool true) ∧ Grown w w' := by
  obtain ⟨x0, rfl⟩ : ∃ x : Nat, a0 = x := ⟨a0.toNat, by have := u64_lo w0; omega⟩
  have hx0 := u64_hi w0
  obtain ⟨x1, rfl⟩ : ∃ x : Nat, a1 = x := ⟨a1.toNat, by have := u64_lo w1; omega⟩
  have hx1 := u64_hi w1
  have E := show ∀ W : World, Calls Try.prog 45 #[.int .u64 (x0 - x0 % 4 + 2 : Nat), .int .u64 x1] W fun e w' => e = .returned (.bool false) ∧ ∃ n, w' = W.drewN n from fun W => by
    have h := ablocks_any (x0 - x0 % 4 + 2) x1 (by omega) (by omega) W
    have hr : awBlocks (x0 - x0 % 4 + 2) x1 = false := by unfold awBlocks; simp; omega
    rw [hr] at h; exact h
  have EV := aevict_any x0 (by omega)
  generalize x0 - x0 % 4 + 2 = y at E EV
  have E := Lib.hid E
  have EV := Lib.hid EV
  have B := ablocks_any x0 x1 (by omega) (by omega)
  have R := rablocks_any x0 x1 (by omega) (by omega)
  have S := astate_any x0 (by omega)
  have hb : x0 % 4 = 1 ∨ awBlocks x0 x1 = false := by
    by_cases h : x0 % 4 = 1
    · exact .inl h
    · right; unfold awBlocks; simp [h]
  generalize awBlocks x0 x1 = b at B R hb
  have B := Lib.hid B
  have R := Lib.hid R
  by_cases h : x0 % 4 = 1
  · rw [h] at S
    have S := Lib.hid S
    clear hb h
    go_enter Try.func7, Try.ntmps7
    go_wp2_with (first | (go_at_call 45; first | ((with_reducible refine (B.out _).mono ?_); rintro e w' ⟨rfl, n, rfl⟩) | ((with_reducible refine (E.out _).mono ?_); rintro e w' ⟨rfl, n, rfl⟩)) | (go_at_call 36; refine (S.out _).mono ?_; rintro e w' ⟨rfl, n, rfl⟩) | (go_at_call 46; refine (R.out _).mono ?_; rintro e w' ⟨rfl, rfl⟩) | (go_at_call 42; refine (EV.out _).mono ?_; rintro e w' ⟨rfl, rfl⟩) | (go_at_call 44; refine (awake5_any _).mono ?_; rintro e w' ⟨rfl, n, rfl⟩))
    go_ret
    exact ⟨rfl, grown_drewN (Grown.refl _) _⟩
  · obtain rfl : b = false := by simpa [h] using hb
    have h1 : ((x0 : Int) % 4 != 1) = true := by simp; omega
    have h2 : (((x0 % 4 : Nat) : Int) != 1) = true := by simp; omega
    have S := Lib.hid S
    clear hb h
    go_enter Try.func7, Try.ntmps7
    go_wp2_with (first | (go_at_call 45; first | ((with_reducible refine (B.out _).mono ?_); rintro e w' ⟨rfl, n, rfl⟩) | ((with_reducible refine (E.out _).mono ?_); rintro e w' ⟨rfl, n, rfl⟩)) | (go_at_call 36; refine (S.out _).mono ?_; rintro e w' ⟨rfl, n, rfl⟩) | (go_at_call 46; refine (R.out _).mono ?_; rintro e w' ⟨rfl, rfl⟩) | (go_at_call 42; refine (EV.out _).mono ?_; rintro e w' ⟨rfl, rfl⟩) | (go_at_call 44; refine (awake5_any _).mono ?_; rintro e w' ⟨rfl, n, rfl⟩))
    go_ret
    exact ⟨rfl, grown_drewN (Grown.refl _) _⟩

/-! ### THE ROW's STEP: WRITTEN OUT: LEAVE IT -/
set_option maxRecDepth 100000 in
theorem lifted (os : Os) (started : os.Started) (H : Type) (enc : TypeId × Value → H) :
    ReturnsInHanded {} Try.checked os 7 .any (Rows.awordBlocksSpec.pre6 enc Try.prog Try.f7 Rows.awordBlocksRow.domain false) (Rows.awordBlocksSpec.post enc Try.prog Try.f7 false true false false) := by
  refine returnsInHanded_of_change (C := Try.checked) own started (by kernel_rfl) Try.func7
    (ChangeSpec.witness6 (enc := enc) (C := Try.checked) false ⟨#[], #[.int .u64 0, .int .u64 0], []⟩ 8 (by kernel_rfl) (by kernel_rfl) (by kernel_rfl) (by kernel_rfl)) ?_
  intro W base args ds gs before hval0 hW hcnd _
  have hval : ∀ (j : Nat) t v, Try.f7.params[j]? = some t → args[j]? = some v → Value.okWide Try.prog W .any base t v := hval0
  have hW' := hW
  obtain ⟨p, q, hA0, hV, rfl, hfz, hnd⟩ := hW
  have hA : DataW.TrodAll enc Try.prog W 0 (fun _ => true) true Try.f7.params.toList args.toList ds p := hA0
  rw [Try.params7] at hA hval
  obtain ⟨v0, vs0, d0, ds0, p0, q0, hargs, rfl, rfl, h0, r0⟩ := trodAll_cons hA
  obtain ⟨v1, vs1, d1, ds1, p1, q1, rfl, rfl, rfl, h1, r1⟩ := trodAll_cons r0
  obtain ⟨rfl, rfl, rfl⟩ := trodAll_nil r1
  obtain rfl : args = #[v0, v1] := by cases args; simp_all
  obtain ⟨rfl, rfl⟩ := trodVars_none hV
  obtain ⟨a0, rfl, rfl, rfl, w0⟩ := open_int Try.underlying22 (hval 0 22 v0 rfl rfl) h0
  obtain ⟨a1, rfl, rfl, rfl, w1⟩ := open_int Try.underlying22 (hval 1 22 v1 rfl rfl) h1
  clear hA0 hval0
  simp only [List.append_nil] at hW'
  refine (walk a0 a1 w0 w1 W).mono fun e W' ⟨he, hg⟩ => ?_
  subst he
  exact ⟨_, rfl, post_of_same (pa := []) (pv := []) hW' (fun _ _ _ => (trodAll_cons_mk (shut_bool Try.underlying4 _) trodAll_mk0)) (fun sp _ => (trodAll_cons_mk (shut_int Try.underlying22 w0) (trodAll_cons_mk (shut_int Try.underlying22 w1) trodAll_mk0))) (fun _ _ => rfl) rfl
    (hg.frame _) hg.2.1 (ok_one (by kernel_rfl) rfl (okWide_bool_mk Try.underlying4 _))⟩

theorem over : Rows.awordBlocksRow.holds Try.pinned (OpenSpec.ofChange Rows.awordBlocksSpec) :=
  OpenClaim.holds_of_wide 7 Try.f7 rfl rfl rfl rfl rfl rfl rfl ⟨rfl, rfl, rfl, rfl, rfl⟩ rfl rfl rfl rfl rfl (by kernel_rfl) Try.func7 (by kernel_rfl)
    (of_decide_eq_true (by kernel_rfl)) (by unfold Func.isWrapper; first | (rw [if_pos (by decide +kernel)]; kernel_rfl) | (rw [if_neg (by decide +kernel)]; exact ⟨rfl, rfl⟩))
    (fun os started H enc _ => lifted os started H enc)

/--  THE STATEMENT  -/
theorem proved : Rows.AwordBlocksSaid :=
  over
#print axioms proved
end Go.Proofs.Ytmpfajnieanfnaa.awordBlocks
