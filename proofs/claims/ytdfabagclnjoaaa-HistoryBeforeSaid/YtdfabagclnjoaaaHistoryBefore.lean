/- gleaninglaw29.HistoryBefore: for every input the law returns true, and leaves its arguments as they were. No condition. -/
import Derived.Test.YtdfabagclnjoaaaRows
import Derived.WalkKit
import Derived.Test.YtdfabagclnjoaaaOpenC
import Derived.Deep.QuietTactic
import Derived.BigQuiet
import Derived.Test.YtdfabagclnjoaaaEvPl
import Derived.Test.YtdfabagclnjoaaaOpenC
import Derived.Test.YtdfabagclnjoaaaTail
import Derived.Test.YtdfabagclnjoaaaHb
import Derived.Test.YtdfabagclnjoaaaFrame
import Derived.ProofKit
import Derived.OpenShut
namespace Go.Proofs.Ytdfabagclnjoaaa.historyBefore
open Go.ChangeShapes Go.WideShapes Go.ChangeAt Go.RowKit
set_option linter.unusedVariables false

theorem own : ownKnob Try.prog.godebug = none := by kernel_rfl
theorem laidOut : laidOutB Try.prog = true := by kernel_rfl
theorem awake_any (w : World) : Calls Try.prog 4 #[] w fun e w' => e = .returned (.bool true) ∧ Below w.heap.size w w' :=
  reckoned (args := []) (by kernel_rfl) w
theorem before_anyF (u0 u1 u2 u3 u4 u5 u6 u10 u11 v0 v1 v2 v3 v4 v5 v6 v10 v11 : Value) (fr to fr' to' : Int) (ov' : Bool) (A A' : Option Addr) (len cap len' cap' : Nat) (w : World) :
    Calls Try.prog 5 #[.agg #[u0, u1, u2, u3, u4, u5, u6, .int .i64 fr, .int .i64 to, .bool false, u10, u11, .slice A len cap], .agg #[v0, v1, v2, v3, v4, v5, v6, .int .i64 fr', .int .i64 to', .bool ov', v10, v11, .slice A' len' cap']] w fun e w' => e = .returned (.bool (false)) ∧ Below w.heap.size w w' := by
  go_enter Try.func5, Try.ntmps5
  go_wp2
  go_ret
  exact ⟨rfl, below2c _ _ _⟩
theorem before_anyT (u0 u1 u2 u3 u4 u5 u6 u10 u11 v0 v1 v2 v3 v4 v5 v6 v10 v11 : Value) (fr to fr' to' : Int) (ov' : Bool) (A A' : Option Addr) (len cap len' cap' : Nat) (w : World) :
    Calls Try.prog 5 #[.agg #[u0, u1, u2, u3, u4, u5, u6, .int .i64 fr, .int .i64 to, .bool true, u10, u11, .slice A len cap], .agg #[v0, v1, v2, v3, v4, v5, v6, .int .i64 fr', .int .i64 to', .bool ov', v10, v11, .slice A' len' cap']] w fun e w' => e = .returned (.bool (decide (to < fr'))) ∧ Below w.heap.size w w' := by
  go_enter Try.func5, Try.ntmps5
  go_wp2
  go_ret
  exact ⟨rfl, below2c _ _ _⟩

set_option maxRecDepth 100000 in
set_option maxHeartbeats 4000000 in
theorem walk (w : World) (x0 : Cl) (hl0 : x0.len ≤ maxLen) (wf0 : (Lit.int .i64 x0.fr).wf = true) (wt0 : (Lit.int .i64 x0.to).wf = true) (x1 : Cl) (hl1 : x1.len ≤ maxLen) (wf1 : (Lit.int .i64 x1.fr).wf = true) (wt1 : (Lit.int .i64 x1.to).wf = true) :
    Calls Try.prog 3 #[clV x0, clV x1] w fun e w' => e = .returned (.bool true) ∧ Below w.heap.size w w' := by
  have AW := Lib.hid awake_any
  obtain ⟨u0, u1, u2, u3, u4, u5, u6, fr, to, ov, u10, u11, A, len, cap⟩ := x0
  obtain ⟨v0, v1, v2, v3, v4, v5, v6, fr', to', ov', v10, v11, A', len', cap'⟩ := x1
  dsimp only [clV]
  clear hl0 hl1 wf0 wf1 wt0 wt1
  have B := Lib.hid (below2c w (.cells #[u0, u1, u2, u3, u4, u5, u6, .int .i64 fr, .int .i64 to, .bool ov, u10, u11, .slice A len cap] 29) (.cells #[v0, v1, v2, v3, v4, v5, v6, .int .i64 fr', .int .i64 to', .bool ov', v10, v11, .slice A' len' cap'] 29))
  by_cases hlen : 100 < wrap64 ((len : Int) + (len' : Int))
  · go_enter Try.func3, Try.ntmps3
    go_wp2_with (go_at_call 4; refine (AW.out _).mono ?_; rintro e u9 ⟨rfl, hn⟩; have h1 := Lib.hid (B.out.trans (hn.mono B.out.size)); clear hn)
    all_goals first | omega | skip
    go_ret
    exact ⟨rfl, h1.out⟩
  · cases ov
    · have BF := Lib.hid (before_anyF u0 u1 u2 u3 u4 u5 u6 u10 u11 v0 v1 v2 v3 v4 v5 v6 v10 v11 fr to fr' to' ov' A A' len cap len' cap')
      have HS := Lib.hid (HB.start w u0 u1 u2 u3 u4 u5 u6 u10 u11 v0 v1 v2 v3 v4 v5 v6 v10 v11 fr to fr' to' false ov' A A' len cap len' cap')
      go_enter Try.func3, Try.ntmps3
      go_wp2
      all_goals first | omega | skip
      obtain ⟨W2, hW2⟩ : ∃ W2 : World, W2 = (w.alloc (.cells #[u0, u1, u2, u3, u4, u5, u6, .int .i64 fr, .int .i64 to, .bool false, u10, u11, .slice A len cap] 29)).alloc (.cells #[v0, v1, v2, v3, v4, v5, v6, .int .i64 fr', .int .i64 to', .bool ov', v10, v11, .slice A' len' cap'] 29) := ⟨_, rfl⟩
      rw [← hW2] at HS ⊢
      clear hW2 B
      refine wp_region_class (C := HB w w.heap.size (w.heap.size + 1) u0 u1 u2 u3 u4 u5 u6 u10 u11 v0 v1 v2 v3 v4 v5 v6 v10 v11 fr to fr' to' false ov' A A' len cap len' cap') (by kernel_rfl) (by kernel_rfl) (HS.out.next (Below.refl _ _).drew) ?_
      repeat (first
        | go_big_quiet_skip
        | (go_big_quiet_want; go_big_quiet_op; go_big_quiet_on)
        | (go_big_quiet_want; go_big_quiet_op; refine ⟨_, fun _ _ => rfl, ?_⟩; go_big_quiet_on)
        | (go_big_quiet_want
           apply quiet_mk
           · intro u hu
             have c0 := hu.c0; have c1 := hu.c1; have c2 := hu.c2; have c3 := hu.c3; have c4 := hu.c4; have c5 := hu.c5; have c6 := hu.c6; have c7 := hu.c7; have c8 := hu.c8; have c9 := hu.c9; have c10 := hu.c10; have c11 := hu.c11; have c12 := hu.c12; have d0 := hu.d0; have d1 := hu.d1; have d2 := hu.d2; have d3 := hu.d3; have d4 := hu.d4; have d5 := hu.d5; have d6 := hu.d6; have d7 := hu.d7; have d8 := hu.d8; have d9 := hu.d9; have d10 := hu.d10; have d11 := hu.d11; have d12 := hu.d12
             have HU := Lib.hid hu
             clear hu
             go_simp
             first
               | with_reducible rfl
               | (go_at_call 5; refine (BF.out _).mono ?_; rintro e w' ⟨rfl, hn⟩; exact ⟨rfl, HU.out.next hn⟩) | (go_at_call 4; refine (AW.out _).mono ?_; rintro e w' ⟨rfl, hn⟩; exact ⟨rfl, HU.out.next hn⟩)
           simp only [Act.put, List.setIfInBounds_toArray, List.set_cons_zero, List.set_cons_succ]
           go_big_quiet_on))
      refine wpQuiet_nil ?_
      intro u hu
      have bl := Lib.hid hu.bl
      go_wp2
      go_ret
      exact ⟨rfl, bl.out⟩
    · have BF := Lib.hid (before_anyT u0 u1 u2 u3 u4 u5 u6 u10 u11 v0 v1 v2 v3 v4 v5 v6 v10 v11 fr to fr' to' ov' A A' len cap len' cap')
      have HS := Lib.hid (HB.start w u0 u1 u2 u3 u4 u5 u6 u10 u11 v0 v1 v2 v3 v4 v5 v6 v10 v11 fr to fr' to' true ov' A A' len cap len' cap')
      go_enter Try.func3, Try.ntmps3
      go_wp2
      all_goals first | omega | skip
      obtain ⟨W2, hW2⟩ : ∃ W2 : World, W2 = (w.alloc (.cells #[u0, u1, u2, u3, u4, u5, u6, .int .i64 fr, .int .i64 to, .bool true, u10, u11, .slice A len cap] 29)).alloc (.cells #[v0, v1, v2, v3, v4, v5, v6, .int .i64 fr', .int .i64 to', .bool ov', v10, v11, .slice A' len' cap'] 29) := ⟨_, rfl⟩
      rw [← hW2] at HS ⊢
      clear hW2 B
      refine wp_region_class (C := HB w w.heap.size (w.heap.size + 1) u0 u1 u2 u3 u4 u5 u6 u10 u11 v0 v1 v2 v3 v4 v5 v6 v10 v11 fr to fr' to' true ov' A A' len cap len' cap') (by kernel_rfl) (by kernel_rfl) (HS.out.next (Below.refl _ _).drew) ?_
      repeat (first
        | go_big_quiet_skip
        | (go_big_quiet_want; go_big_quiet_op; go_big_quiet_on)
        | (go_big_quiet_want; go_big_quiet_op; refine ⟨_, fun _ _ => rfl, ?_⟩; go_big_quiet_on)
        | (go_big_quiet_want
           apply quiet_mk
           · intro u hu
             have c0 := hu.c0; have c1 := hu.c1; have c2 := hu.c2; have c3 := hu.c3; have c4 := hu.c4; have c5 := hu.c5; have c6 := hu.c6; have c7 := hu.c7; have c8 := hu.c8; have c9 := hu.c9; have c10 := hu.c10; have c11 := hu.c11; have c12 := hu.c12; have d0 := hu.d0; have d1 := hu.d1; have d2 := hu.d2; have d3 := hu.d3; have d4 := hu.d4; have d5 := hu.d5; have d6 := hu.d6; have d7 := hu.d7; have d8 := hu.d8; have d9 := hu.d9; have d10 := hu.d10; have d11 := hu.d11; have d12 := hu.d12
             have HU := Lib.hid hu
             clear hu
             go_simp
             first
               | with_reducible rfl
               | (go_at_call 5; refine (BF.out _).mono ?_; rintro e w' ⟨rfl, hn⟩; exact ⟨rfl, HU.out.next hn⟩) | (go_at_call 4; refine (AW.out _).mono ?_; rintro e w' ⟨rfl, hn⟩; exact ⟨rfl, HU.out.next hn⟩)
           simp only [Act.put, List.setIfInBounds_toArray, List.set_cons_zero, List.set_cons_succ]
           go_big_quiet_on))
      refine wpQuiet_nil ?_
      intro u hu
      have bl := Lib.hid hu.bl
      go_wp2
      go_ret
      exact ⟨rfl, bl.out⟩

set_option maxRecDepth 100000 in
theorem lifted (os : Os) (started : os.Started) (H : Type) (enc : TypeId × Value → H) :
    ReturnsInHanded {} Try.checked os 3 .any (Rows.historyBeforeSpec.pre6 enc Try.prog Try.f3 Rows.historyBeforeRow.domain false) (Rows.historyBeforeSpec.post enc Try.prog Try.f3 false true false false) := by
  refine returnsInHanded_of_change (C := Try.checked) own started (by kernel_rfl) Try.func3
    (ChangeSpec.witness6 (enc := enc) (C := Try.checked) false ⟨#[], #[.agg #[.int .i64 0, .int .i64 0, .int .i64 0, .int .u64 0, .int .u64 0, .int .u64 0, .int .i64 0, .int .i64 0, .int .i64 0, .bool false, .int .i64 0, .int .u64 0, .slice none 0 0], .agg #[.int .i64 0, .int .i64 0, .int .i64 0, .int .u64 0, .int .u64 0, .int .u64 0, .int .i64 0, .int .i64 0, .int .i64 0, .bool false, .int .i64 0, .int .u64 0, .slice none 0 0]], []⟩ 8 (by kernel_rfl) (by kernel_rfl) (by kernel_rfl) (by kernel_rfl)) ?_
  intro W base args ds gs before hval0 hW hcnd _
  have hval : ∀ (j : Nat) t v, Try.f3.params[j]? = some t → args[j]? = some v → Value.okWide Try.prog W .any base t v := hval0
  have hW' := hW
  obtain ⟨p, q, hA0, hV, rfl, hfz, hnd⟩ := hW
  have hA : DataW.TrodAll enc Try.prog W 0 (fun _ => true) true Try.f3.params.toList args.toList ds p := hA0
  rw [Try.params3] at hA hval
  obtain ⟨v0, vs0, d0, ds0, p0, q0, hargs, rfl, rfl, h0, r0⟩ := trodAll_cons hA
  obtain ⟨v1, vs1, d1, ds1, p1, q1, rfl, rfl, rfl, h1, r1⟩ := trodAll_cons r0
  obtain ⟨rfl, rfl, rfl⟩ := trodAll_nil r1
  obtain rfl : args = #[v0, v1] := by cases args; simp_all
  obtain ⟨rfl, rfl⟩ := trodVars_none hV
  have k0 := h0
  obtain ⟨x0, h0v, hl0, wf0, wt0⟩ := open_call (hval 0 29 v0 rfl rfl) h0
  obtain rfl : v0 = clV x0 := h0v
  have k1 := h1
  obtain ⟨x1, h1v, hl1, wf1, wt1⟩ := open_call (hval 1 29 v1 rfl rfl) h1
  obtain rfl : v1 = clV x1 := h1v
  clear hA0 hval0
  simp only [List.append_nil] at hW'
  have hlt0 : ∀ x ∈ p0, x.block < W.heap.size := fun x hx => by simpa using hW'.lt x (by simp [hx])
  have hlt1 : ∀ x ∈ p1, x.block < W.heap.size := fun x hx => by simpa using hW'.lt x (by simp [hx])
  refine (walk W x0 hl0 wf0 wt0 x1 hl1 wf1 wt1).mono fun e W' ⟨he, hg⟩ => ?_
  subst he
  exact ⟨_, rfl, post_of_below2 (pv := []) hW' (fun _ _ _ => (trodAll_cons_mk (shut_bool Try.underlying4 _) trodAll_mk0)) (trodAll_cons_mk (Below.trod laidOut (by kernel_rfl) (of_decide_eq_true (by kernel_rfl)) k0 hg hlt0) (trodAll_cons_mk (Below.trod laidOut (by kernel_rfl) (of_decide_eq_true (by kernel_rfl)) k1 hg hlt1) trodAll_mk0)) rfl (by simp) (hg.frame _)⟩

theorem over : Rows.historyBeforeRow.holds Try.pinned (OpenSpec.ofChange Rows.historyBeforeSpec) :=
  OpenClaim.holds_of_wide 3 Try.f3 rfl rfl rfl rfl rfl rfl rfl ⟨rfl, rfl, rfl, rfl, rfl⟩ rfl rfl rfl rfl rfl (by kernel_rfl) Try.func3 (by kernel_rfl)
    (of_decide_eq_true (by kernel_rfl)) (by unfold Func.isWrapper; first | (rw [if_pos (by decide +kernel)]; kernel_rfl) | (rw [if_neg (by decide +kernel)]; exact ⟨rfl, rfl⟩))
    (fun os started H enc _ => lifted os started H enc)

theorem proved : Rows.HistoryBeforeSaid :=
  over

#print axioms proved
end Go.Proofs.Ytdfabagclnjoaaa.historyBefore
