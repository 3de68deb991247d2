/- gleaninglaw09.MemoryNobody: for every input the law returns true, and leaves its arguments as they were. The package-level variables that it reads hold what the program's text lays in them (a tied card); no other condition. -/
import Derived.Test.YtllkbofjegadeaaDoorRows
import Derived.WalkKit
import Derived.Test.YtllkbofjegadeaaDoorCards
import Derived.Test.YtllkbofjegadeaaDoorTie
import Derived.Test.YtllkbofjegadeaaDoorLaid
import Derived.SevenTiedAt
import Derived.Test.YtllkbofjegadeaaDoorOpen
import Derived.Test.YtllkbofjegadeaaDoorMem8
import Derived.Test.YtllkbofjegadeaaDoorTail
import Derived.Test.YtllkbofjegadeaaDoorLaid
import Derived.Test.YtllkbofjegadeaaDoorOpen
import Derived.Test.YtllkbofjegadeaaDoorFrame
import Derived.ProofKit
import Derived.OpenShut
namespace Go.Proofs.YtllkbofjegadeaaDoor.memoryNobody
open Go.ChangeShapes Go.WideShapes Go.ChangeAt Go.RowKit
set_option linter.unusedVariables false

theorem own : ownKnob Tryd.prog.godebug = none := by kernel_rfl
theorem laidOut : laidOutB Tryd.prog = true := by kernel_rfl

set_option maxHeartbeats 400000 in
theorem walk (w : World) (hG : GL w) (a0_0 : Int) (w0_0 : (Lit.int .i64 a0_0).wf = true) (a0_1 : Int) (w0_1 : (Lit.int .i64 a0_1).wf = true) (a0_2 : Int) (w0_2 : (Lit.int .u64 a0_2).wf = true) (a0_3 : Int) (w0_3 : (Lit.int .u64 a0_3).wf = true) (a1 : Int) (w1 : (Lit.int .i64 a1).wf = true) (a2 : Int) (w2 : (Lit.int .i64 a2).wf = true) :
    Calls Tryd.prog 6 #[.agg #[.int .i64 a0_0, .int .i64 a0_1, .int .u64 a0_2, .int .u64 a0_3], .int .i64 a1, .int .i64 a2] w fun e w' => e = .returned (.bool true) ∧ Below w.heap.size w w' := by
  have AW := Lib.hid (fun W' h => awake9_any W' h)
  have HG := Lib.hid hG
  obtain ⟨o, rfl⟩ : ∃ x : Nat, a0_2 = x := ⟨a0_2.toNat, by have := u64_lo w0_2; omega⟩
  obtain ⟨n, rfl⟩ : ∃ x : Nat, a0_3 = x := ⟨a0_3.toNat, by have := u64_lo w0_3; omega⟩
  have K0 := Lib.hid (NK.start w a0_0 a0_1 o n)
  have ZS := Lib.hid (show ∀ W, Calls Tryd.prog 19 #[layV 0 0 0 0 0] W fun e w' => e = .returned (.int .i64 0) ∧ Below W.heap.size W w' from fun W => size_any 0 0 0 0 0 (.inr ⟨rfl, rfl, rfl, rfl, rfl⟩) W)
  clear hG w0_0 w0_1 w0_2 w0_3 w1 w2
  have t1 : True := trivial
  have t2 : True := trivial
  have t3 : True := trivial
  have t4 : True := trivial
  have t5 : True := trivial
  have t6 : True := trivial
  have t7 : True := trivial
  have t8 : True := trivial
  go_enter Tryd.func6, Tryd.ntmps6
  go_wp2_with (first
    | (go_at_call 15; have _t := t1; refine (write_one none a0_1 _ _ (by simp) (fun a W' _ => has_nil a W')).mono ?_; rintro e u1 ⟨⟨v, rfl⟩, hn⟩; clear t1; have K1 := Lib.hid (K0.out.next hn); clear hn; have x0' := K1.out.a0; have x1' := K1.out.a1; have x2' := K1.out.a2; have x3' := K1.out.a3)
    | (go_at_call 15; have _t := t2; refine (write_one (some ⟨w.heap.size + 1, 0, none⟩) a0_1 _ _ (by simp) (fun a W' h => zero_has K1.out a W' h)).mono ?_; rintro e u2 ⟨⟨v2, rfl⟩, hn⟩; clear t2; have K2 := Lib.hid (K1.out.next hn); clear hn; clear x0' x1' x2' x3'; have x0' := K2.out.a0; have x1' := K2.out.a1; have x2' := K2.out.a2; have x3' := K2.out.a3)
    | (go_at_call 11; have _t := t3; refine (mdo_nil a0_0 a0_1 o n _).mono ?_; rintro e u3 ⟨rfl, hn⟩; clear t3; have K3 := Lib.hid (K2.out.next hn); clear hn; clear x0' x1' x2' x3'; have x0' := K3.out.a0; have x1' := K3.out.a1; have x2' := K3.out.a2; have x3' := K3.out.a3)
    | (go_at_call 11; have _t := t4; refine (mdo_out (w.heap.size + 1) none 0 0 a0_0 a0_1 o n _ K3.out.z.c5 (by omega) (by omega)).mono ?_; rintro e u4 ⟨rfl, hn⟩; clear t4; have K4 := Lib.hid (K3.out.next hn); clear hn; clear x0' x1' x2' x3')
    | (go_at_call 14; have _t := t5; refine (mwords_nil a1 a2 _).mono ?_; rintro e u5 ⟨rfl, rfl⟩; clear t5)
    | (go_at_call 14; have _t := t6; refine (mwords_no (w.heap.size + 1) 0 0 0 0 0 none 0 0 a1 a2 0 _ (.inr ⟨rfl, rfl, rfl, rfl, rfl⟩) rfl (by omega) (by omega) K4.out.z (by omega)).mono ?_; rintro e u6 ⟨rfl, hn⟩; clear t6; have K6 := Lib.hid (K4.out.next hn); clear hn)
    | (go_at_call 18; have _t := t7; refine (mword_nil a1 _).mono ?_; rintro e u7 ⟨rfl, rfl⟩; clear t7)
    | (go_at_call 18; have _t := t8; refine (mword_out (w.heap.size + 1) none 0 0 a1 _ K6.out.z.c5 (by omega) (by omega)).mono ?_; rintro e u8 ⟨rfl, rfl⟩; clear t8; have z0' := K6.out.z.c0; have z1' := K6.out.z.c1; have z2' := K6.out.z.c2; have z3' := K6.out.z.c3; have z4' := K6.out.z.c4)
    | (go_at_call 16; refine (mcopy_nil _).mono ?_; rintro e u9 ⟨rfl, rfl⟩)
    | (go_at_call 19; refine (ZS.out _).mono ?_; rintro e ua ⟨rfl, hn⟩; have K7 := Lib.hid (K6.out.next hn); clear hn)
    | (go_at_call 8; refine (AW.out _ (HG.out.next K7.out.bl)).mono ?_; rintro e ub ⟨rfl, hn⟩; have K8 := Lib.hid (K7.out.next hn); clear hn))
  go_ret
  exact ⟨rfl, K8.out.bl⟩

set_option maxRecDepth 100000 in
theorem lifted (os : Os) (started : os.Started) (H : Type) (enc : TypeId × Value → H) :
    ReturnsInHanded {} Tryd.checked os 6 .any (fun w args => (Rows.memoryNobodySpec.pre enc Tryd.prog Tryd.f6 [] false w args ∧ laidMetH Tryd.prog laidVars w) ∧ sizedMet enc Tryd.prog Tryd.f6 (OpenSpec.ofChange Rows.memoryNobodySpec) false w args)
      (Rows.memoryNobodySpec.post enc Tryd.prog Tryd.f6 false true false false) := by
  refine returnsInHanded_of_change_and (C := Tryd.checked) (X := fun w _ => laidMetH Tryd.prog laidVars w) (fun _ _ _ hh h => h.of_heap hh) own started (by kernel_rfl) Tryd.func6
    (ChangeSpec.witness_shaped (enc := enc) (C := Tryd.checked) (os := os) (X := fun w _ => laidMetH Tryd.prog laidVars w) false (World.doorLaid Tryd.prog 400 os) #[.agg #[.int .i64 0, .int .i64 0, .int .u64 0, .int .u64 0], .int .i64 0, .int .i64 0] 8 rfl (World.shaped_of_RefB (by kernel_rfl) (by kernel_rfl)) (by kernel_rfl) (by kernel_rfl) (by kernel_rfl) (door_met os _)) ?_
  intro W base args ds gs before hval0 hW _ _ hL _
  have hval : ∀ (j : Nat) t v, Tryd.f6.params[j]? = some t → args[j]? = some v → Value.okWide Tryd.prog W .any base t v := hval0
  have hW' := hW
  obtain ⟨p, q, hA0, hV, rfl, hfz, hnd⟩ := hW
  have hA : DataW.TrodAll enc Tryd.prog W 0 (fun _ => true) true Tryd.f6.params.toList args.toList ds p := hA0
  rw [Tryd.params6] at hA hval
  obtain ⟨v0, vs0, d0, ds0, p0, q0, hargs, rfl, rfl, h0, r0⟩ := trodAll_cons hA
  obtain ⟨v1, vs1, d1, ds1, p1, q1, rfl, rfl, rfl, h1, r1⟩ := trodAll_cons r0
  obtain ⟨v2, vs2, d2, ds2, p2, q2, rfl, rfl, rfl, h2, r2⟩ := trodAll_cons r1
  obtain ⟨rfl, rfl, rfl⟩ := trodAll_nil r2
  obtain rfl : args = #[v0, v1, v2] := by cases args; simp_all
  obtain ⟨rfl, rfl⟩ := trodVars_none hV
  have k0 := h0
  obtain ⟨ns0, h0l, h0v, h0w⟩ := open_intStruct [.i64, .i64, .u64, .u64] Tryd.underlying34 (by kernel_rfl) (by kernel_rfl) rfl (hval 0 34 v0 rfl rfl) h0
  obtain ⟨a0_0, a0_1, a0_2, a0_3, rfl⟩ := list4 h0l
  obtain rfl : v0 = .agg #[.int .i64 a0_0, .int .i64 a0_1, .int .u64 a0_2, .int .u64 a0_3] := h0v
  obtain ⟨a1, rfl, rfl, rfl, w1⟩ := open_int Tryd.underlying3 (hval 1 3 v1 rfl rfl) h1
  obtain ⟨a2, rfl, rfl, rfl, w2⟩ := open_int Tryd.underlying3 (hval 2 3 v2 rfl rfl) h2
  clear hA0 hval0
  simp only [List.append_nil] at hW'
  have hlt0 : ∀ x ∈ p0, x.block < W.heap.size := fun x hx => by simpa using hW'.lt x (by simp [hx])
  refine (walk W (of_laid hL) a0_0 (h0w 0 .i64 _ rfl rfl) a0_1 (h0w 1 .i64 _ rfl rfl) a0_2 (h0w 2 .u64 _ rfl rfl) a0_3 (h0w 3 .u64 _ rfl rfl) a1 w1 a2 w2).mono fun e W' ⟨he, hg⟩ => ?_
  subst he
  exact ⟨_, rfl, post_of_below2 (pv := []) hW' (fun _ _ _ => (trodAll_cons_mk (shut_bool Tryd.underlying4 _) trodAll_mk0)) (trodAll_cons_mk (Below.trod laidOut (by kernel_rfl) (of_decide_eq_true (by kernel_rfl)) k0 hg hlt0) (trodAll_cons_mk (shut_int Tryd.underlying3 w1) (trodAll_cons_mk (shut_int Tryd.underlying3 w2) trodAll_mk0))) rfl (by simp) (hg.frame _)⟩

theorem over : Rows.memoryNobodyRow.holds Tryd.pinned (OpenSpec.ofChange Rows.memoryNobodySpec) :=
  OpenClaim.holds_of_wide 6 Tryd.f6 rfl rfl rfl rfl rfl rfl rfl ⟨rfl, rfl, rfl, rfl, rfl⟩ rfl rfl rfl rfl rfl (by kernel_rfl) Tryd.func6 (by kernel_rfl)
    (of_decide_eq_true (by kernel_rfl)) (by unfold Func.isWrapper; first | (rw [if_pos (by decide +kernel)]; kernel_rfl) | (rw [if_neg (by decide +kernel)]; exact ⟨rfl, rfl⟩))
    (fun os started H enc _ => lifted os started H enc)

theorem row : Rows.MemoryNobodySaid := over

theorem proved : Rows.MemoryNobodyCardSaid :=
  Claim7.holds_tied_plain_at .later [] [.handle, .data] true (true, "3995999843d9e93109bc0ec46c8edbeffe82842deb00a246e54f8453be661631") true
    row (fun _ h => by cases h) (by kernel_rfl) (fun _ h => by cases h) memoryNobody_row_tie rfl ⟨rfl, rfl⟩ (by kernel_rfl) rfl
    (fun f fn hf hfn => by
      obtain rfl : f = 6 := Option.some.inj ((show Tryd.prog.funcNamed "gleaning/gleaninglaw09.MemoryNobody" = some 6 by kernel_rfl).symm.trans hf) |>.symm
      obtain rfl : fn = Tryd.f6 := (Option.some.inj (Tryd.func6.symm.trans hfn)).symm
      exact ⟨by kernel_rfl, fun j t ht => by
        rw [Tryd.params6] at ht
        have hm : t ∈ [34, 3, 3] := by simpa using Array.mem_of_getElem? ht
        have hall : ([34, 3, 3].all fun u => !Tryd.prog.wantsStandIn u) = true := by kernel_rfl
        exact (show Tryd.prog.wantsStandIn t = false by simpa using List.all_eq_true.1 hall t hm)⟩)
    (by kernel_rfl)

#print axioms proved
end Go.Proofs.YtllkbofjegadeaaDoor.memoryNobody
