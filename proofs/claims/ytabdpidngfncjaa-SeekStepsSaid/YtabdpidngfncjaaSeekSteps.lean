/- gleaninglaw11.SeekSteps: for every input the law returns true, and leaves its arguments as they were. No condition. -/
import Derived.Test.YtabdpidngfncjaaRows
import Derived.WalkKit
import Derived.Test.YtabdpidngfncjaaSeekOf2
import Derived.Test.YtabdpidngfncjaaFrame
import Derived.ProofKit
import Derived.OpenShut
namespace Go.Proofs.Ytabdpidngfncjaa.seekSteps
open Go.ChangeShapes Go.WideShapes Go.ChangeAt Go.RowKit
set_option linter.unusedVariables false      -- a walk need not use every 'w<i>' (that an integer argument fits its kind)

theorem own : ownKnob Try.prog.godebug = none := by kernel_rfl

theorem steps_law (n : Nat) (j : Nat) (p : Nat) (hp : p = 2 ^ j) (h1 : p ≤ n) (h2 : n / 2 < p) : M.width n = j + 1 := by
  have e : n = (n - p) + 2 ^ j := by omega
  rw [e]
  exact M.width_top j (n - p) (by rw [← hp]; omega)
/-! ### STEP 1: THE WALK: the Go text returns true. 'Grown w w'': the world has at most new blocks (Derived/RowKit3.lean). Part the cases AHEAD of 'go_enter' where a test parts the walk; take each callee by a contract of your own. -/
set_option maxHeartbeats 4000000 in
theorem walk (a0 : Int) (w0 : (Lit.int .i64 a0).wf = true) (w : World) :
    Calls Try.prog 5 #[.int .i64 a0] w fun e w' => e = .returned (.bool true) ∧ Below w.heap.size w w' := by
  have hhi := i64_hi w0
  have C := Lib.hid (fun W => ssteps_any a0 hhi W)
  by_cases h : a0 < 1
  · have e : M.width a0.toNat = 0 := by rw [show a0.toNat = 0 by omega, M.width_zero]
    have C := Lib.hid (show ∀ W : World, Calls Try.prog 17 #[.int .i64 a0] W fun e w' => e = .returned (.int .i64 0) ∧ W = w' from fun W => by
      have h := ssteps_any a0 hhi W
      rw [e] at h; exact h)
    clear e
    go_enter Try.func5, Try.ntmps5
    go_wp2_with (first | (go_at_call 17; refine (C.out _).mono ?_; rintro e w' ⟨rfl, rfl⟩) | (go_at_call 11; refine (awake11_any _).mono ?_; rintro e w' ⟨rfl, hb⟩))
    go_ret
    exact ⟨rfl, hb⟩
  · obtain ⟨n, rfl⟩ : ∃ n : Nat, a0 = n := ⟨a0.toNat, by omega⟩
    have hn : 1 ≤ n := by omega
    clear h
    obtain ⟨d, hd⟩ : ∃ d : Nat, d = M.width n := ⟨_, rfl⟩
    have C := Lib.hid (show ∀ W : World, Calls Try.prog 17 #[.int .i64 n] W fun e w' => e = .returned (.int .i64 d) ∧ W = w' from fun W => by
      rw [hd]; exact ssteps_any n hhi W)
    have HD := Lib.hid hd
    have hd64 : d ≤ 64 := by rw [hd]; exact M.width_le 64 n (by omega)
    clear hd
    go_enter Try.func5, Try.ntmps5
    go_wp2_with (go_at_call 17; refine (C.out _).mono ?_; rintro e w' ⟨rfl, rfl⟩)
    go_loop [4, 5] (fun p k => ∃ x j : Nat, Hid (x = 2 ^ j) ∧ x ≤ n ∧ j ≤ 63 ∧ 1 ≤ x ∧ p = .int .i64 x ∧ k = .int .i64 (j + 1 : Nat)) (fun p _ => n - (intOf p).toNat)
    case atStart => exact ⟨1, 0, rfl, hn, by omega, by omega, rfl, rfl⟩
    case round =>
      obtain ⟨x, j, hx, hxn, hj, hx1, rfl, rfl⟩ := hrel
      by_cases hlt : (x : Int) ≤ (n : Int) / 2
      · have hj2 : j + 1 ≤ 63 := by
          have h1 : 2 ^ (j + 1) ≤ n := by rw [Nat.pow_succ, ← hx.out]; omega
          by_cases k : j + 1 ≤ 63
          · exact k
          · have := M.pow_le (a := 64) (b := j + 1) (by omega)
            have e : (2 : Nat) ^ 64 = 18446744073709551616 := rfl
            omega
        have hx2 : Hid (x * 2 = 2 ^ (j + 1)) := by show x * 2 = _; rw [Nat.pow_succ, ← hx.out]
        go_wp2
        go_round
        case rel => exact ⟨x * 2, j + 1, hx2, by omega, hj2, by omega, by go_num, by go_num⟩
        case measure => simp [intOf]; omega
      · have e : d = j + 1 := by rw [HD.out]; exact steps_law n j x hx.out hxn (by omega)
        subst e
        go_wp2_with (go_at_call 11; refine (awake11_any _).mono ?_; rintro e w' ⟨rfl, hb⟩)
        go_ret
        exact ⟨rfl, hb⟩

/-! ### THE ROW's STEP: WRITTEN OUT: LEAVE IT -/
set_option maxRecDepth 100000 in
theorem lifted (os : Os) (started : os.Started) (H : Type) (enc : TypeId × Value → H) :
    ReturnsInHanded {} Try.checked os 5 .any (Rows.seekStepsSpec.pre6 enc Try.prog Try.f5 Rows.seekStepsRow.domain false) (Rows.seekStepsSpec.post enc Try.prog Try.f5 false true false false) := by
  refine returnsInHanded_of_change (C := Try.checked) own started (by kernel_rfl) Try.func5
    (ChangeSpec.witness6 (enc := enc) (C := Try.checked) false ⟨#[], #[.int .i64 0], []⟩ 8 (by kernel_rfl) (by kernel_rfl) (by kernel_rfl) (by kernel_rfl)) ?_
  intro W base args ds gs before hval0 hW hcnd _
  have hval : ∀ (j : Nat) t v, Try.f5.params[j]? = some t → args[j]? = some v → Value.okWide Try.prog W .any base t v := hval0
  have hW' := hW
  obtain ⟨p, q, hA0, hV, rfl, hfz, hnd⟩ := hW
  have hA : DataW.TrodAll enc Try.prog W 0 (fun _ => true) true Try.f5.params.toList args.toList ds p := hA0
  rw [Try.params5] at hA hval
  obtain ⟨v0, vs0, d0, ds0, p0, q0, hargs, rfl, rfl, h0, r0⟩ := trodAll_cons hA
  obtain ⟨rfl, rfl, rfl⟩ := trodAll_nil r0
  obtain rfl : args = #[v0] := by cases args; simp_all
  obtain ⟨rfl, rfl⟩ := trodVars_none hV
  obtain ⟨a0, rfl, rfl, rfl, w0⟩ := open_int Try.underlying3 (hval 0 3 v0 rfl rfl) h0
  clear hA0 hval0
  simp only [List.append_nil] at hW'
  refine (walk a0 w0 W).mono fun e W' ⟨he, hg⟩ => ?_
  subst he
  exact ⟨_, rfl, post_of_below (pa := []) (pv := []) hW' (fun _ _ _ => (trodAll_cons_mk (shut_bool Try.underlying4 _) trodAll_mk0)) (fun sp _ => (trodAll_cons_mk (shut_int Try.underlying3 w0) trodAll_mk0)) (fun _ _ => rfl) rfl (hg.frame _)⟩

theorem over : Rows.seekStepsRow.holds Try.pinned (OpenSpec.ofChange Rows.seekStepsSpec) :=
  OpenClaim.holds_of_wide 5 Try.f5 rfl rfl rfl rfl rfl rfl rfl ⟨rfl, rfl, rfl, rfl, rfl⟩ rfl rfl rfl rfl rfl (by kernel_rfl) Try.func5 (by kernel_rfl)
    (of_decide_eq_true (by kernel_rfl)) (by unfold Func.isWrapper; first | (rw [if_pos (by decide +kernel)]; kernel_rfl) | (rw [if_neg (by decide +kernel)]; exact ⟨rfl, rfl⟩))
    (fun os started H enc _ => lifted os started H enc)

/--  THE STATEMENT  -/
theorem proved : Rows.SeekStepsSaid :=
  over
#print axioms proved
end Go.Proofs.Ytabdpidngfncjaa.seekSteps
