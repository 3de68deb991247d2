/- gleaninglaw08.LayoutNames: for every input the law returns true, and leaves its arguments as they were. The package-level variables that it reads hold what the program's text lays in them (a tied card); no other condition. -/
import Derived.Test.YtcdmcnncigfclaaDoorRows
import Derived.WalkKit
import Derived.Test.YtcdmcnncigfclaaDoorCards
import Derived.Test.YtcdmcnncigfclaaDoorTie
import Derived.Test.YtcdmcnncigfclaaDoorLaid
import Derived.SevenTiedAt
import Derived.Test.YtcdmcnncigfclaaDoorOpen
import Derived.Deep.QuietTactic
import Derived.BigQuiet
import Derived.Test.YtcdmcnncigfclaaDoorLay4
import Derived.Test.YtcdmcnncigfclaaDoorFrame
import Derived.ProofKit
import Derived.OpenShut
namespace Go.Proofs.YtcdmcnncigfclaaDoor.layoutNames
open Go.ChangeShapes Go.WideShapes Go.ChangeAt Go.RowKit
set_option linter.unusedVariables false

theorem own : ownKnob Tryd.prog.godebug = none := by kernel_rfl
theorem laidOut : laidOutB Tryd.prog = true := by kernel_rfl

set_option maxHeartbeats 4000000 in
theorem walk (w : World) (hG : GL w) (a0_0 : Int) (w0_0 : (Lit.int .i64 a0_0).wf = true) (a0_1 : Int) (w0_1 : (Lit.int .i64 a0_1).wf = true) (a0_2 : Int) (w0_2 : (Lit.int .i64 a0_2).wf = true) (a0_3 : Int) (w0_3 : (Lit.int .i64 a0_3).wf = true) (a0_4 : Int) (w0_4 : (Lit.int .i64 a0_4).wf = true) (a1 : Int) (w1 : (Lit.int .i64 a1).wf = true) (a2 : Int) (w2 : (Lit.int .i64 a2).wf = true) :
    Calls Tryd.prog 7 #[.agg #[.int .i64 a0_0, .int .i64 a0_1, .int .i64 a0_2, .int .i64 a0_3, .int .i64 a0_4], .int .i64 a1, .int .i64 a2] w fun e w' => e = .returned (.bool true) ∧ Below w.heap.size w w' := by
  obtain ⟨s, t, f, l, p, hok, hN⟩ := new_ex a0_0 a0_1 a0_2 a0_3 a0_4
  have N := Lib.hid (hN _ (hG.next (below1 w (.cells #[.int .i64 a0_0, .int .i64 a0_1, .int .i64 a0_2, .int .i64 a0_3, .int .i64 a0_4] 23))))
  have B1 := Lib.hid (below1 w (.cells #[.int .i64 a0_0, .int .i64 a0_1, .int .i64 a0_2, .int .i64 a0_3, .int .i64 a0_4] 23))
  have HG := Lib.hid hG
  have AW := Lib.hid awake8_any
  have A4 := Lib.hid (announce_any s t f l p a1 hok)
  have A5 := Lib.hid (hazard_any s t f l p a1 a2 hok)
  have A6 := Lib.hid (version_any s t f l p a1 hok)
  have A7 := Lib.hid (shape_any s t f l p a1 hok)
  have A8 := Lib.hid (link_any s t f l p a1 hok)
  have A9 := Lib.hid (key_any s t f l p a1 a2 hok)
  have A10 := Lib.hid (value_any s t f l p a1 a2 hok)
  have T := Lib.hid (fun k i => at_any s t f l p k a1 i hok)
  clear hN hG hok w0_0 w0_1 w0_2 w0_3 w0_4 w1 w2
  go_enter Tryd.func7, Tryd.ntmps7
  go_wp2_with (go_at_call 17; refine N.out.mono ?_; rintro e u1 ⟨rfl, h1⟩; have hk := Lib.hid (K5.alloc (B1.out.trans (h1.mono B1.out.size)) s t f l p); clear h1)
  have hk2 : K5 w.heap.size w u1.heap.size s t f l p (u1.alloc (.cells #[.int .i64 s, .int .i64 t, .int .i64 f, .int .i64 l, .int .i64 p] 35)).drew := ⟨hk.out.c0, hk.out.c1, hk.out.c2, hk.out.c3, hk.out.c4, hk.out.bl.drew, hk.out.le⟩
  have HK := Lib.hid hk2
  clear hk hk2
  refine wp_region_class (C := K5 w.heap.size w u1.heap.size s t f l p) (by kernel_rfl) (by kernel_rfl) (HK.out) ?_
  repeat (first
    | go_big_quiet_skip
    | (go_big_quiet_want; go_big_quiet_op; go_big_quiet_on)
    | (go_big_quiet_want
       apply quiet_mk
       · intro u hu
         have c0 := hu.c0; have c1 := hu.c1; have c2 := hu.c2; have c3 := hu.c3; have c4 := hu.c4
         have HU := Lib.hid hu
         clear hu
         go_simp
         first
           | with_reducible rfl
           | (go_at_call 25; refine (A4.out _).mono ?_; rintro e w' ⟨rfl, hn⟩; exact ⟨rfl, HU.out.next hn⟩) | (go_at_call 26; refine (A5.out _).mono ?_; rintro e w' ⟨rfl, hn⟩; exact ⟨rfl, HU.out.next hn⟩) | (go_at_call 27; refine (A6.out _).mono ?_; rintro e w' ⟨rfl, hn⟩; exact ⟨rfl, HU.out.next hn⟩) | (go_at_call 22; refine (T.out _ _ _).mono ?_; rintro e w' ⟨rfl, hn⟩; exact ⟨rfl, HU.out.next hn⟩)
       simp only [Act.put, List.setIfInBounds_toArray, List.set_cons_zero, List.set_cons_succ]
       go_big_quiet_on))
  refine wpQuiet_nil ?_
  intro u hu
  have hk2 : K5 w.heap.size w u1.heap.size s t f l p u.drew := ⟨hu.c0, hu.c1, hu.c2, hu.c3, hu.c4, hu.bl.drew, hu.le⟩
  clear HK hu
  have HK := Lib.hid hk2
  clear hk2
  go_wp2
  refine wp_region_class (C := K5 w.heap.size w u1.heap.size s t f l p) (by kernel_rfl) (by kernel_rfl) (HK.out) ?_
  repeat (first
    | go_big_quiet_skip
    | (go_big_quiet_want; go_big_quiet_op; go_big_quiet_on)
    | (go_big_quiet_want
       apply quiet_mk
       · intro u hu
         have c0 := hu.c0; have c1 := hu.c1; have c2 := hu.c2; have c3 := hu.c3; have c4 := hu.c4
         have HU := Lib.hid hu
         clear hu
         go_simp
         first
           | with_reducible rfl
           | (go_at_call 28; refine (A7.out _).mono ?_; rintro e w' ⟨rfl, hn⟩; exact ⟨rfl, HU.out.next hn⟩) | (go_at_call 29; refine (A8.out _).mono ?_; rintro e w' ⟨rfl, hn⟩; exact ⟨rfl, HU.out.next hn⟩) | (go_at_call 30; refine (A9.out _).mono ?_; rintro e w' ⟨rfl, hn⟩; exact ⟨rfl, HU.out.next hn⟩) | (go_at_call 31; refine (A10.out _).mono ?_; rintro e w' ⟨rfl, hn⟩; exact ⟨rfl, HU.out.next hn⟩) | (go_at_call 22; refine (T.out _ _ _).mono ?_; rintro e w' ⟨rfl, hn⟩; exact ⟨rfl, HU.out.next hn⟩)
       simp only [Act.put, List.setIfInBounds_toArray, List.set_cons_zero, List.set_cons_succ]
       go_big_quiet_on))
  refine wpQuiet_nil ?_
  intro u hu
  have HU := Lib.hid hu
  clear hu HK
  go_wp2_with (go_at_call 23; refine (AW.out _ (HG.out.next (HU.out.bl))).mono ?_; rintro e u2 ⟨rfl, h2⟩)
  go_ret
  exact ⟨rfl, HU.out.bl.trans (h2.mono HU.out.le)⟩

set_option maxRecDepth 100000 in
theorem lifted (os : Os) (started : os.Started) (H : Type) (enc : TypeId × Value → H) :
    ReturnsInHanded {} Tryd.checked os 7 .any (fun w args => (Rows.layoutNamesSpec.pre enc Tryd.prog Tryd.f7 [] false w args ∧ laidMetH Tryd.prog laidVars w) ∧ sizedMet enc Tryd.prog Tryd.f7 (OpenSpec.ofChange Rows.layoutNamesSpec) false w args)
      (Rows.layoutNamesSpec.post enc Tryd.prog Tryd.f7 false true false false) := by
  refine returnsInHanded_of_change_and (C := Tryd.checked) (X := fun w _ => laidMetH Tryd.prog laidVars w) (fun _ _ _ hh h => h.of_heap hh) own started (by kernel_rfl) Tryd.func7
    (ChangeSpec.witness_shaped (enc := enc) (C := Tryd.checked) (os := os) (X := fun w _ => laidMetH Tryd.prog laidVars w) false (World.doorLaid Tryd.prog 400 os) #[.agg #[.int .i64 0, .int .i64 0, .int .i64 0, .int .i64 0, .int .i64 0], .int .i64 0, .int .i64 0] 8 rfl (World.shaped_of_RefB (by kernel_rfl) (by kernel_rfl)) (by kernel_rfl) (by kernel_rfl) (by kernel_rfl) (door_met os _)) ?_
  intro W base args ds gs before hval0 hW _ _ hL _
  have hval : ∀ (j : Nat) t v, Tryd.f7.params[j]? = some t → args[j]? = some v → Value.okWide Tryd.prog W .any base t v := hval0
  have hW' := hW
  obtain ⟨p, q, hA0, hV, rfl, hfz, hnd⟩ := hW
  have hA : DataW.TrodAll enc Tryd.prog W 0 (fun _ => true) true Tryd.f7.params.toList args.toList ds p := hA0
  rw [Tryd.params7] at hA hval
  obtain ⟨v0, vs0, d0, ds0, p0, q0, hargs, rfl, rfl, h0, r0⟩ := trodAll_cons hA
  obtain ⟨v1, vs1, d1, ds1, p1, q1, rfl, rfl, rfl, h1, r1⟩ := trodAll_cons r0
  obtain ⟨v2, vs2, d2, ds2, p2, q2, rfl, rfl, rfl, h2, r2⟩ := trodAll_cons r1
  obtain ⟨rfl, rfl, rfl⟩ := trodAll_nil r2
  obtain rfl : args = #[v0, v1, v2] := by cases args; simp_all
  obtain ⟨rfl, rfl⟩ := trodVars_none hV
  have k0 := h0
  obtain ⟨ns0, h0l, h0v, h0w⟩ := open_intStruct [.i64, .i64, .i64, .i64, .i64] Tryd.underlying23 (by kernel_rfl) (by kernel_rfl) rfl (hval 0 23 v0 rfl rfl) h0
  obtain ⟨a0_0, a0_1, a0_2, a0_3, a0_4, rfl⟩ := list5 h0l
  obtain rfl : v0 = .agg #[.int .i64 a0_0, .int .i64 a0_1, .int .i64 a0_2, .int .i64 a0_3, .int .i64 a0_4] := h0v
  obtain ⟨a1, rfl, rfl, rfl, w1⟩ := open_int Tryd.underlying3 (hval 1 3 v1 rfl rfl) h1
  obtain ⟨a2, rfl, rfl, rfl, w2⟩ := open_int Tryd.underlying3 (hval 2 3 v2 rfl rfl) h2
  clear hA0 hval0
  simp only [List.append_nil] at hW'
  have hlt0 : ∀ x ∈ p0, x.block < W.heap.size := fun x hx => by simpa using hW'.lt x (by simp [hx])
  refine (walk W (of_laid hL) a0_0 (h0w 0 .i64 _ rfl rfl) a0_1 (h0w 1 .i64 _ rfl rfl) a0_2 (h0w 2 .i64 _ rfl rfl) a0_3 (h0w 3 .i64 _ rfl rfl) a0_4 (h0w 4 .i64 _ rfl rfl) a1 w1 a2 w2).mono fun e W' ⟨he, hg⟩ => ?_
  subst he
  exact ⟨_, rfl, post_of_below2 (pv := []) hW' (fun _ _ _ => (trodAll_cons_mk (shut_bool Tryd.underlying4 _) trodAll_mk0)) (trodAll_cons_mk (Below.trod laidOut (by kernel_rfl) (of_decide_eq_true (by kernel_rfl)) k0 hg hlt0) (trodAll_cons_mk (shut_int Tryd.underlying3 w1) (trodAll_cons_mk (shut_int Tryd.underlying3 w2) trodAll_mk0))) rfl (by simp) (hg.frame _)⟩

theorem over : Rows.layoutNamesRow.holds Tryd.pinned (OpenSpec.ofChange Rows.layoutNamesSpec) :=
  OpenClaim.holds_of_wide 7 Tryd.f7 rfl rfl rfl rfl rfl rfl rfl ⟨rfl, rfl, rfl, rfl, rfl⟩ rfl rfl rfl rfl rfl (by kernel_rfl) Tryd.func7 (by kernel_rfl)
    (of_decide_eq_true (by kernel_rfl)) (by unfold Func.isWrapper; first | (rw [if_pos (by decide +kernel)]; kernel_rfl) | (rw [if_neg (by decide +kernel)]; exact ⟨rfl, rfl⟩))
    (fun os started H enc _ => lifted os started H enc)

theorem row : Rows.LayoutNamesSaid := over

theorem proved : Rows.LayoutNamesCardSaid :=
  Claim7.holds_tied_plain_at .later [] [.handle, .data] true (true, "04d71bb65f25117ba4a24a6d38c834f93d71cbffd0e20c92228e3fe5676ac4f0") true
    row (fun _ h => by cases h) (by kernel_rfl) (fun _ h => by cases h) layoutNames_row_tie rfl ⟨rfl, rfl⟩ (by kernel_rfl) rfl
    (fun f fn hf hfn => by
      obtain rfl : f = 7 := Option.some.inj ((show Tryd.prog.funcNamed "gleaning/gleaninglaw08.LayoutNames" = some 7 by kernel_rfl).symm.trans hf) |>.symm
      obtain rfl : fn = Tryd.f7 := (Option.some.inj (Tryd.func7.symm.trans hfn)).symm
      exact ⟨by kernel_rfl, fun j t ht => by
        rw [Tryd.params7] at ht
        have hm : t ∈ [23, 3, 3] := by simpa using Array.mem_of_getElem? ht
        have hall : ([23, 3, 3].all fun u => !Tryd.prog.wantsStandIn u) = true := by kernel_rfl
        exact (show Tryd.prog.wantsStandIn t = false by simpa using List.all_eq_true.1 hall t hm)⟩)
    (by kernel_rfl)

#print axioms proved
end Go.Proofs.YtcdmcnncigfclaaDoor.layoutNames
