/- gleaninglaw07.ConfigChecks: for every input the law returns true, and leaves its arguments as they were. The package-level variables that it reads hold what the program's text lays in them (a tied card); no other condition. -/
import Derived.Test.YtcdmcnncigfclaaDoorRows
import Derived.WalkKit
import Derived.Test.YtcdmcnncigfclaaDoorCards
import Derived.Test.YtcdmcnncigfclaaDoorTie
import Derived.Test.YtcdmcnncigfclaaDoorLaid
import Derived.SevenTiedAt
import Derived.Test.YtcdmcnncigfclaaDoorOpen
import Derived.Deep.QuietTactic
import Derived.BigQuiet
import Derived.Test.YtcdmcnncigfclaaDoorConf7
import Derived.Test.YtcdmcnncigfclaaDoorFrame
import Derived.ProofKit
import Derived.OpenShut
namespace Go.Proofs.YtcdmcnncigfclaaDoor.configChecks
open Go.ChangeShapes Go.WideShapes Go.ChangeAt Go.RowKit
set_option linter.unusedVariables false

theorem own : ownKnob Tryd.prog.godebug = none := by kernel_rfl
theorem laidOut : laidOutB Tryd.prog = true := by kernel_rfl

set_option maxHeartbeats 4000000 in
theorem walk (w : World) (hG : GL w) (a0_0 : Int) (w0_0 : (Lit.int .i64 a0_0).wf = true) (a0_1 : Int) (w0_1 : (Lit.int .i64 a0_1).wf = true) (a0_2 : Int) (w0_2 : (Lit.int .i64 a0_2).wf = true) (a0_3 : Int) (w0_3 : (Lit.int .i64 a0_3).wf = true) (a0_4 : Int) (w0_4 : (Lit.int .i64 a0_4).wf = true) :
    Calls Tryd.prog 3 #[.agg #[.int .i64 a0_0, .int .i64 a0_1, .int .i64 a0_2, .int .i64 a0_3, .int .i64 a0_4]] w fun e w' => e = .returned (.bool true) ∧ Below w.heap.size w w' := by
  have B1 := below1 w (.cells #[.int .i64 a0_0, .int .i64 a0_1, .int .i64 a0_2, .int .i64 a0_3, .int .i64 a0_4] 23)
  have k0 : K5 w.heap.size w w.heap.size a0_0 a0_1 a0_2 a0_3 a0_4 (w.alloc (.cells #[.int .i64 a0_0, .int .i64 a0_1, .int .i64 a0_2, .int .i64 a0_3, .int .i64 a0_4] 23)) := ⟨by simp, by simp, by simp, by simp, by simp, B1, by simp⟩
  have HK := Lib.hid k0
  have HG := Lib.hid hG
  have AW := Lib.hid awake7_any
  have R := right_any a0_0 a0_1 a0_2 a0_3 a0_4
  by_cases h : okC a0_0 a0_1 a0_2 a0_3 a0_4
  · have C := Lib.hid (check_yes a0_0 a0_1 a0_2 a0_3 a0_4 _ (hG.next B1) h)
    have RW := Lib.hid (rwrong_yes a0_0 a0_1 a0_2 a0_3 a0_4 h)
    have e : okB a0_0 a0_1 a0_2 a0_3 a0_4 = true := by unfold okB; exact decide_eq_true h
    rw [e] at R
    have R := Lib.hid R
    have L := Lib.hid (fun W hW => least_yes a0_0 a0_1 a0_2 a0_3 a0_4 W hW h)
    have f1 : 4 ≤ a0_2 := h.2.2.1.1
    have f2 : a0_2 ≤ 64 := h.2.2.1.2
    have E1 := Lib.hid (show IntKind.i64.wrap (a0_2.tdiv 2) = a0_2 / 2 by rw [Int.tdiv_eq_ediv_of_nonneg (by omega)]; exact IntWalk.i64_in _ (by omega))
    clear h e hG k0 B1 w0_0 w0_1 w0_2 w0_3 w0_4
    go_enter Tryd.func3, Tryd.ntmps3
    go_wp2_with (first
      | (go_at_call 9; refine C.out.mono ?_; rintro e u1 ⟨rfl, hn⟩; have h1 := HK.out.next hn; clear hn; have c0 := h1.c0; have c1 := h1.c1; have c2 := h1.c2; have c3 := h1.c3; have c4 := h1.c4)
      | (go_at_call 10; refine (RW.out _).mono ?_; rintro e u2 ⟨rfl, hn⟩; have h2 := h1.next hn; clear hn h1 c0 c1 c2 c3 c4; have c0 := h2.c0; have c1 := h2.c1; have c2 := h2.c2; have c3 := h2.c3; have c4 := h2.c4)
      | (go_at_call 11; refine (R.out _ (HG.out.next h2.bl)).mono ?_; rintro e u3 ⟨rfl, hn⟩; have h3 := h2.next hn; clear hn h2 c0 c1 c2 c3 c4; have c0 := h3.c0; have c1 := h3.c1; have c2 := h3.c2; have c3 := h3.c3; have c4 := h3.c4))
    have hk2 : K5 w.heap.size w w.heap.size a0_0 a0_1 a0_2 a0_3 a0_4 u3.drew := ⟨h3.c0, h3.c1, h3.c2, h3.c3, h3.c4, h3.bl.drew, h3.le⟩
    have HD := Lib.hid hk2
    clear hk2 h3 c0 c1 c2 c3 c4
    have e1 := E1.out
    refine wp_region_class (C := K5 w.heap.size w w.heap.size a0_0 a0_1 a0_2 a0_3 a0_4) (by kernel_rfl) (by kernel_rfl) (HD.out) ?_
    repeat (first
      | go_big_quiet_skip
      | (go_big_quiet_want; go_big_quiet_op; go_big_quiet_on)
      | (go_big_quiet_want
         apply quiet_mk
         · intro u hu
           have c0 := hu.c0; have c1 := hu.c1; have c2 := hu.c2; have c3 := hu.c3; have c4 := hu.c4
           have HU := Lib.hid hu
           clear hu
           go_simp
           first
             | with_reducible rfl
             | (go_at_call 12; refine (L.out _ (HG.out.next HU.out.bl)).mono ?_; rintro e w' ⟨rfl, hn⟩; exact ⟨rfl, HU.out.next hn⟩) | (go_at_call 13; refine (AW.out _ (HG.out.next HU.out.bl)).mono ?_; rintro e w' ⟨rfl, hn⟩; exact ⟨rfl, HU.out.next hn⟩)
         simp only [Act.put, List.setIfInBounds_toArray, List.set_cons_zero, List.set_cons_succ]
         go_big_quiet_on))
    refine wpQuiet_nil ?_
    intro u hu
    clear e1
    go_wp2
    go_ret
    exact ⟨rfl, hu.bl⟩
  · have C := check_no a0_0 a0_1 a0_2 a0_3 a0_4 _ (hG.next B1) h
    obtain ⟨k, hk, hk5, RW⟩ := rwrong_no a0_0 a0_1 a0_2 a0_3 a0_4 h
    rw [hk] at C
    have C := Lib.hid C
    have RW := Lib.hid RW
    have e : okB a0_0 a0_1 a0_2 a0_3 a0_4 = false := by unfold okB; exact decide_eq_false h
    rw [e] at R
    have R := Lib.hid R
    have L := Lib.hid (fun W hW => least_no a0_0 a0_1 a0_2 a0_3 a0_4 W hW h)
    have WD := Lib.hid (word_any k hk5)
    generalize wordB k = word at C WD
    clear h e hG k0 B1 w0_0 w0_1 w0_2 w0_3 w0_4 hk
    go_enter Tryd.func3, Tryd.ntmps3
    go_wp2_with (first
      | (go_at_call 9; refine C.out.mono ?_; rintro e u1 ⟨rfl, hn⟩; have h1 := HK.out.next hn; clear hn; have c0 := h1.c0; have c1 := h1.c1; have c2 := h1.c2; have c3 := h1.c3; have c4 := h1.c4)
      | (go_at_call 10; refine (RW.out _).mono ?_; rintro e u2 ⟨rfl, hn⟩; have h2 := h1.next hn; clear hn h1 c0 c1 c2 c3 c4; have c0 := h2.c0; have c1 := h2.c1; have c2 := h2.c2; have c3 := h2.c3; have c4 := h2.c4)
      | (go_at_call 11; refine (R.out _ (HG.out.next h2.bl)).mono ?_; rintro e u3 ⟨rfl, hn⟩; have h3 := h2.next hn; clear hn h2 c0 c1 c2 c3 c4)
      | (go_at_call 14; refine (WD.out _).mono ?_; rintro e u4 ⟨rfl, hn⟩; have h4 := h3.next hn; clear hn h3; have c0 := h4.c0; have c1 := h4.c1; have c2 := h4.c2; have c3 := h4.c3; have c4 := h4.c4)
      | (go_at_call 12; refine (L.out _ (HG.out.next h4.bl)).mono ?_; rintro e u5 ⟨rfl, hn⟩; have h5 := h4.next hn; clear hn h4 c0 c1 c2 c3 c4)
      | (go_at_call 13; refine (AW.out _ (HG.out.next h5.bl)).mono ?_; rintro e u6 ⟨rfl, hn⟩; have h6 := h5.next hn; clear hn h5))
    go_ret
    exact ⟨rfl, h6.bl⟩

set_option maxRecDepth 100000 in
theorem lifted (os : Os) (started : os.Started) (H : Type) (enc : TypeId × Value → H) :
    ReturnsInHanded {} Tryd.checked os 3 .any (fun w args => (Rows.configChecksSpec.pre enc Tryd.prog Tryd.f3 [] false w args ∧ laidMetH Tryd.prog laidVars w) ∧ sizedMet enc Tryd.prog Tryd.f3 (OpenSpec.ofChange Rows.configChecksSpec) false w args)
      (Rows.configChecksSpec.post enc Tryd.prog Tryd.f3 false true false false) := by
  refine returnsInHanded_of_change_and (C := Tryd.checked) (X := fun w _ => laidMetH Tryd.prog laidVars w) (fun _ _ _ hh h => h.of_heap hh) own started (by kernel_rfl) Tryd.func3
    (ChangeSpec.witness_shaped (enc := enc) (C := Tryd.checked) (os := os) (X := fun w _ => laidMetH Tryd.prog laidVars w) false (World.doorLaid Tryd.prog 400 os) #[.agg #[.int .i64 0, .int .i64 0, .int .i64 0, .int .i64 0, .int .i64 0]] 8 rfl (World.shaped_of_RefB (by kernel_rfl) (by kernel_rfl)) (by kernel_rfl) (by kernel_rfl) (by kernel_rfl) (door_met os _)) ?_
  intro W base args ds gs before hval0 hW _ _ hL _
  have hval : ∀ (j : Nat) t v, Tryd.f3.params[j]? = some t → args[j]? = some v → Value.okWide Tryd.prog W .any base t v := hval0
  have hW' := hW
  obtain ⟨p, q, hA0, hV, rfl, hfz, hnd⟩ := hW
  have hA : DataW.TrodAll enc Tryd.prog W 0 (fun _ => true) true Tryd.f3.params.toList args.toList ds p := hA0
  rw [Tryd.params3] at hA hval
  obtain ⟨v0, vs0, d0, ds0, p0, q0, hargs, rfl, rfl, h0, r0⟩ := trodAll_cons hA
  obtain ⟨rfl, rfl, rfl⟩ := trodAll_nil r0
  obtain rfl : args = #[v0] := by cases args; simp_all
  obtain ⟨rfl, rfl⟩ := trodVars_none hV
  have k0 := h0
  obtain ⟨ns0, h0l, h0v, h0w⟩ := open_intStruct [.i64, .i64, .i64, .i64, .i64] Tryd.underlying23 (by kernel_rfl) (by kernel_rfl) rfl (hval 0 23 v0 rfl rfl) h0
  obtain ⟨a0_0, a0_1, a0_2, a0_3, a0_4, rfl⟩ := list5 h0l
  obtain rfl : v0 = .agg #[.int .i64 a0_0, .int .i64 a0_1, .int .i64 a0_2, .int .i64 a0_3, .int .i64 a0_4] := h0v
  clear hA0 hval0
  simp only [List.append_nil] at hW'
  have hlt0 : ∀ x ∈ p0, x.block < W.heap.size := fun x hx => by simpa using hW'.lt x (by simp [hx])
  refine (walk W (of_laid hL) a0_0 (h0w 0 .i64 _ rfl rfl) a0_1 (h0w 1 .i64 _ rfl rfl) a0_2 (h0w 2 .i64 _ rfl rfl) a0_3 (h0w 3 .i64 _ rfl rfl) a0_4 (h0w 4 .i64 _ rfl rfl)).mono fun e W' ⟨he, hg⟩ => ?_
  subst he
  exact ⟨_, rfl, post_of_below2 (pv := []) hW' (fun _ _ _ => (trodAll_cons_mk (shut_bool Tryd.underlying4 _) trodAll_mk0)) (trodAll_cons_mk (Below.trod laidOut (by kernel_rfl) (of_decide_eq_true (by kernel_rfl)) k0 hg hlt0) trodAll_mk0) rfl (by simp) (hg.frame _)⟩

theorem over : Rows.configChecksRow.holds Tryd.pinned (OpenSpec.ofChange Rows.configChecksSpec) :=
  OpenClaim.holds_of_wide 3 Tryd.f3 rfl rfl rfl rfl rfl rfl rfl ⟨rfl, rfl, rfl, rfl, rfl⟩ rfl rfl rfl rfl rfl (by kernel_rfl) Tryd.func3 (by kernel_rfl)
    (of_decide_eq_true (by kernel_rfl)) (by unfold Func.isWrapper; first | (rw [if_pos (by decide +kernel)]; kernel_rfl) | (rw [if_neg (by decide +kernel)]; exact ⟨rfl, rfl⟩))
    (fun os started H enc _ => lifted os started H enc)

theorem row : Rows.ConfigChecksSaid := over

theorem proved : Rows.ConfigChecksCardSaid :=
  Claim7.holds_tied_plain_at .later [] [.handle, .data] true (true, "04d71bb65f25117ba4a24a6d38c834f93d71cbffd0e20c92228e3fe5676ac4f0") true
    row (fun _ h => by cases h) (by kernel_rfl) (fun _ h => by cases h) configChecks_row_tie rfl ⟨rfl, rfl⟩ (by kernel_rfl) rfl
    (fun f fn hf hfn => by
      obtain rfl : f = 3 := Option.some.inj ((show Tryd.prog.funcNamed "gleaning/gleaninglaw07.ConfigChecks" = some 3 by kernel_rfl).symm.trans hf) |>.symm
      obtain rfl : fn = Tryd.f3 := (Option.some.inj (Tryd.func3.symm.trans hfn)).symm
      exact ⟨by kernel_rfl, fun j t ht => by
        rw [Tryd.params3] at ht
        have hm : t ∈ [23] := by simpa using Array.mem_of_getElem? ht
        have hall : ([23].all fun u => !Tryd.prog.wantsStandIn u) = true := by kernel_rfl
        exact (show Tryd.prog.wantsStandIn t = false by simpa using List.all_eq_true.1 hall t hm)⟩)
    (by kernel_rfl)

#print axioms proved
end Go.Proofs.YtcdmcnncigfclaaDoor.configChecks
