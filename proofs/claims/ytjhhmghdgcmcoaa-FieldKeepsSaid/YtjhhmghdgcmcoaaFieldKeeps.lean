/- gleaninglaw01.FieldKeeps: for every input the law returns true, and leaves its arguments as they were. No condition. -/
import Derived.Test.YtjhhmghdgcmcoaaRows
import Derived.WalkKit
import Derived.Test.YtjhhmghdgcmcoaaAwake1
import Derived.ProofKit
import Derived.OpenShut
namespace Go.Proofs.Ytjhhmghdgcmcoaa.fieldKeeps
open Go.ChangeShapes Go.WideShapes Go.ChangeAt Go.RowKit
set_option linter.unusedVariables false      -- a walk need not use every 'w<i>' (that an integer argument fits its kind)

theorem own : ownKnob Try.prog.godebug = none := by kernel_rfl

theorem keeps_get (w v a : Nat) (size : Int) (hw : w < 18446744073709551616) (hv : v < 18446744073709551616) (ha : a < 64) (h1 : 1 ≤ size) (s : Int) (hs : (s = size ∧ size ≤ 64 - a) ∨ (s = 64 - a ∧ 64 - (a : Int) < size)) :
    bits .and .u64 (v : Int) (M.mask (M.sz s) : Nat) = (M.fget (M.fput w a size v) a s : Nat) := by
  rw [M.and_mask _ _ hv (M.sz_le _)]
  unfold M.fget M.fput
  rw [if_pos (by omega), if_pos (by omega)]
  have hk : M.sz s ≤ 64 - a := by unfold M.sz; omega
  have e : M.put w (a : Int).toNat (M.sz size) v = M.put w (a : Int).toNat (M.sz s) v := by
    rcases hs with ⟨rfl, _⟩ | ⟨h2, h3⟩
    · rfl
    · refine M.put_over _ _ _ _ _ ?_ ?_ <;> simp [M.sz] <;> omega
  rw [e, M.get_put _ _ _ _ (by simp; omega)]
theorem keeps_other (w v a : Nat) (size b m : Int) (hw : w < 18446744073709551616) (ha : a < 64) (h1 : 1 ≤ size) (hb : 0 ≤ b ∧ b ≤ 63) (s : Int) (hs : (s = size ∧ size ≤ 64 - a) ∨ (s = 64 - a ∧ 64 - (a : Int) < size))
    (h : (b < a ∧ m ≤ a - b) ∨ (a ≤ b ∧ s ≤ b - a)) : M.fget (M.fput w a size v) b m = M.fget w b m := by
  unfold M.fget M.fput
  rw [if_pos (by omega), if_pos (by omega), if_pos (by omega)]
  refine M.get_put_other _ _ _ _ _ _ hw ?_
  unfold M.sz
  omega
theorem keeps_none (w v : Nat) (a size : Int) (hw : w < 18446744073709551616) (h : a < 0 ∨ 63 < a ∨ size < 1) : M.fput w a size v = w := by
  unfold M.fput
  split
  · have : M.sz size = 0 := by unfold M.sz; omega
    rw [this, M.put_none _ _ _ hw]
  · rfl
/-! ### STEP 1: THE WALK: the Go text returns true. 'Grown w w'': the world has at most new blocks (Derived/RowKit3.lean). Part the cases AHEAD of 'go_enter' where a test parts the walk; take each callee by a contract of your own. -/
set_option maxHeartbeats 4000000 in
theorem walk (a0 : Int) (a1 : Int) (a2 : Int) (a3 : Int) (a4 : Int) (a5 : Int) (w0 : (Lit.int .u64 a0).wf = true) (w1 : (Lit.int .i64 a1).wf = true) (w2 : (Lit.int .i64 a2).wf = true) (w3 : (Lit.int .u64 a3).wf = true) (w4 : (Lit.int .i64 a4).wf = true) (w5 : (Lit.int .i64 a5).wf = true) (w : World) :
    Calls Try.prog 8 #[.int .u64 a0, .int .i64 a1, .int .i64 a2, .int .u64 a3, .int .i64 a4, .int .i64 a5] w fun e w' => e = .returned (.bool true) ∧ Grown w w' := by
  obtain ⟨w0', rfl⟩ : ∃ x : Nat, a0 = x := ⟨a0.toNat, by have := u64_lo w0; omega⟩
  have hw := u64_hi w0
  obtain ⟨w3', rfl⟩ : ∃ x : Nat, a3 = x := ⟨a3.toNat, by have := u64_lo w3; omega⟩
  have hv := u64_hi w3
  have b1 := i64_lo w1
  have b2 := i64_hi w1
  have b3 := i64_lo w2
  have b4 := i64_hi w2
  have b5 := i64_lo w4
  have b6 := i64_hi w4
  have b7 := i64_lo w5
  have b8 := i64_hi w5
  by_cases hA : a1 < 0 ∨ 63 < a1 ∨ a2 < 1
  · have e := keeps_none w0' w3' a1 a2 (by omega) hA
    rcases hA with h | h | h
    all_goals
      go_enter Try.func8, Try.ntmps8
      go_wp2_with (first | (go_at_call 16; refine (put_any _ _ (by omega) (by omega) _ _ _).mono ?_; rintro e w' ⟨rfl, rfl⟩) | (go_at_call 15; refine (awake1_any _).mono ?_; rintro e w' ⟨rfl, n, rfl⟩))
      all_goals (go_ret; exact ⟨rfl, grown_drewN (Grown.refl _) _⟩)
  · obtain ⟨a, rfl⟩ : ∃ x : Nat, a1 = x := ⟨a1.toNat, by omega⟩
    have ha : a < 64 := by omega
    have h1 : 1 ≤ a2 := by omega
    clear hA
    have hx := M.fput_lt w0' a a2 w3' (by omega)
    obtain ⟨s, hs⟩ : ∃ s : Int, (s = a2 ∧ a2 ≤ 64 - a) ∨ (s = 64 - a ∧ 64 - (a : Int) < a2) := by
      by_cases h : a2 ≤ 64 - a
      · exact ⟨a2, .inl ⟨rfl, h⟩⟩
      · exact ⟨64 - a, .inr ⟨rfl, by omega⟩⟩
    have E1 := keeps_get w0' w3' a a2 (by omega) (by omega) ha h1 s hs
    by_cases hout : a4 < 0 ∨ 63 < a4 ∨ a5 < 1 ∨ (a ≤ a4 ∧ a4 - a < s) ∨ (a4 < a ∧ a - a4 < a5)
    · rcases hs with ⟨rfl, hs⟩ | ⟨rfl, hs⟩
      all_goals
        rcases hout with h | h | h | ⟨h2, h3⟩ | ⟨h2, h3⟩
        all_goals
          go_enter Try.func8, Try.ntmps8
          go_wp2_with (first | (go_at_call 16; refine (put_any _ _ (by omega) (by omega) _ _ _).mono ?_; rintro e w' ⟨rfl, rfl⟩) | (go_at_call 9; refine (get_any _ (by omega) _ _ _).mono ?_; rintro e w' ⟨rfl, n, rfl⟩) | (go_at_call 18; refine (mask_any _ _).mono ?_; rintro e w' ⟨rfl, rfl⟩) | (go_at_call 15; refine (awake1_any _).mono ?_; rintro e w' ⟨rfl, n, rfl⟩))
          all_goals (go_ret; exact ⟨rfl, grown_drewN (Grown.refl _) _⟩)
    · have E2 : M.fget (M.fput w0' a a2 w3') a4 a5 = M.fget w0' a4 a5 := keeps_other w0' w3' a a2 a4 a5 (by omega) ha h1 (by omega) s hs (by omega)
      have k1 : 0 ≤ a4 := by omega
      have k2 : a4 ≤ 63 := by omega
      have k3 : 1 ≤ a5 := by omega
      have k4 : (a4 < a ∧ a5 ≤ a - a4) ∨ (a ≤ a4 ∧ s ≤ a4 - a) := by omega
      clear hout
      rcases hs with ⟨rfl, hs⟩ | ⟨rfl, hs⟩
      all_goals
        rcases k4 with ⟨h2, h3⟩ | ⟨h2, h3⟩
        all_goals
          go_enter Try.func8, Try.ntmps8
          go_wp2_with (first | (go_at_call 16; refine (put_any _ _ (by omega) (by omega) _ _ _).mono ?_; rintro e w' ⟨rfl, rfl⟩) | (go_at_call 9; refine (get_any _ (by omega) _ _ _).mono ?_; rintro e w' ⟨rfl, n, rfl⟩) | (go_at_call 18; refine (mask_any _ _).mono ?_; rintro e w' ⟨rfl, rfl⟩) | (go_at_call 15; refine (awake1_any _).mono ?_; rintro e w' ⟨rfl, n, rfl⟩))
          all_goals (go_ret; exact ⟨rfl, grown_drewN (Grown.refl _) _⟩)

/-! ### THE ROW's STEP: WRITTEN OUT: LEAVE IT -/
set_option maxRecDepth 100000 in
theorem lifted (os : Os) (started : os.Started) (H : Type) (enc : TypeId × Value → H) :
    ReturnsInHanded {} Try.checked os 8 .any (Rows.fieldKeepsSpec.pre6 enc Try.prog Try.f8 Rows.fieldKeepsRow.domain false) (Rows.fieldKeepsSpec.post enc Try.prog Try.f8 false true false false) := by
  refine returnsInHanded_of_change (C := Try.checked) own started (by kernel_rfl) Try.func8
    (ChangeSpec.witness6 (enc := enc) (C := Try.checked) false ⟨#[], #[.int .u64 0, .int .i64 0, .int .i64 0, .int .u64 0, .int .i64 0, .int .i64 0], []⟩ 8 (by kernel_rfl) (by kernel_rfl) (by kernel_rfl) (by kernel_rfl)) ?_
  intro W base args ds gs before hval0 hW hcnd _
  have hval : ∀ (j : Nat) t v, Try.f8.params[j]? = some t → args[j]? = some v → Value.okWide Try.prog W .any base t v := hval0
  have hW' := hW
  obtain ⟨p, q, hA0, hV, rfl, hfz, hnd⟩ := hW
  have hA : DataW.TrodAll enc Try.prog W 0 (fun _ => true) true Try.f8.params.toList args.toList ds p := hA0
  rw [Try.params8] at hA hval
  obtain ⟨v0, vs0, d0, ds0, p0, q0, hargs, rfl, rfl, h0, r0⟩ := trodAll_cons hA
  obtain ⟨v1, vs1, d1, ds1, p1, q1, rfl, rfl, rfl, h1, r1⟩ := trodAll_cons r0
  obtain ⟨v2, vs2, d2, ds2, p2, q2, rfl, rfl, rfl, h2, r2⟩ := trodAll_cons r1
  obtain ⟨v3, vs3, d3, ds3, p3, q3, rfl, rfl, rfl, h3, r3⟩ := trodAll_cons r2
  obtain ⟨v4, vs4, d4, ds4, p4, q4, rfl, rfl, rfl, h4, r4⟩ := trodAll_cons r3
  obtain ⟨v5, vs5, d5, ds5, p5, q5, rfl, rfl, rfl, h5, r5⟩ := trodAll_cons r4
  obtain ⟨rfl, rfl, rfl⟩ := trodAll_nil r5
  obtain rfl : args = #[v0, v1, v2, v3, v4, v5] := by cases args; simp_all
  obtain ⟨rfl, rfl⟩ := trodVars_none hV
  obtain ⟨a0, rfl, rfl, rfl, w0⟩ := open_int Try.underlying22 (hval 0 22 v0 rfl rfl) h0
  obtain ⟨a1, rfl, rfl, rfl, w1⟩ := open_int Try.underlying3 (hval 1 3 v1 rfl rfl) h1
  obtain ⟨a2, rfl, rfl, rfl, w2⟩ := open_int Try.underlying3 (hval 2 3 v2 rfl rfl) h2
  obtain ⟨a3, rfl, rfl, rfl, w3⟩ := open_int Try.underlying22 (hval 3 22 v3 rfl rfl) h3
  obtain ⟨a4, rfl, rfl, rfl, w4⟩ := open_int Try.underlying3 (hval 4 3 v4 rfl rfl) h4
  obtain ⟨a5, rfl, rfl, rfl, w5⟩ := open_int Try.underlying3 (hval 5 3 v5 rfl rfl) h5
  clear hA0 hval0
  simp only [List.append_nil] at hW'
  refine (walk a0 a1 a2 a3 a4 a5 w0 w1 w2 w3 w4 w5 W).mono fun e W' ⟨he, hg⟩ => ?_
  subst he
  exact ⟨_, rfl, post_of_same (pa := []) (pv := []) hW' (fun _ _ _ => (trodAll_cons_mk (shut_bool Try.underlying4 _) trodAll_mk0)) (fun sp _ => (trodAll_cons_mk (shut_int Try.underlying22 w0) (trodAll_cons_mk (shut_int Try.underlying3 w1) (trodAll_cons_mk (shut_int Try.underlying3 w2) (trodAll_cons_mk (shut_int Try.underlying22 w3) (trodAll_cons_mk (shut_int Try.underlying3 w4) (trodAll_cons_mk (shut_int Try.underlying3 w5) trodAll_mk0))))))) (fun _ _ => rfl) rfl
    (hg.frame _) hg.2.1 (ok_one (by kernel_rfl) rfl (okWide_bool_mk Try.underlying4 _))⟩

theorem over : Rows.fieldKeepsRow.holds Try.pinned (OpenSpec.ofChange Rows.fieldKeepsSpec) :=
  OpenClaim.holds_of_wide 8 Try.f8 rfl rfl rfl rfl rfl rfl rfl ⟨rfl, rfl, rfl, rfl, rfl⟩ rfl rfl rfl rfl rfl (by kernel_rfl) Try.func8 (by kernel_rfl)
    (of_decide_eq_true (by kernel_rfl)) (by unfold Func.isWrapper; first | (rw [if_pos (by decide +kernel)]; kernel_rfl) | (rw [if_neg (by decide +kernel)]; exact ⟨rfl, rfl⟩))
    (fun os started H enc _ => lifted os started H enc)

/--  THE STATEMENT  -/
theorem proved : Rows.FieldKeepsSaid :=
  over
#print axioms proved
end Go.Proofs.Ytjhhmghdgcmcoaa.fieldKeeps
