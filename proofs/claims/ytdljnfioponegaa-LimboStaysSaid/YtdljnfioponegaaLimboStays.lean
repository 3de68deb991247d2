/- gleaninglaw16.LimboStays: for every input the law returns true, and leaves its arguments as they were. No condition. -/
import Derived.Test.YtdljnfioponegaaRows
import Derived.WalkKit
import Derived.Test.YtdljnfioponegaaOpen
import Derived.Test.YtdljnfioponegaaLim5
import Derived.Test.YtdljnfioponegaaOpen
import Derived.Test.YtdljnfioponegaaTail
import Derived.Test.YtdljnfioponegaaFrame
import Derived.ProofKit
import Derived.OpenShut
namespace Go.Proofs.Ytdljnfioponegaa.limboStays
open Go.ChangeShapes Go.WideShapes Go.ChangeAt Go.RowKit
set_option linter.unusedVariables false

theorem own : ownKnob Try.prog.godebug = none := by kernel_rfl
theorem laidOut : laidOutB Try.prog = true := by kernel_rfl
structure RB (w : World) (h e : Nat) (U : World) : Prop where
  c0 : U.cell? ⟨w.heap.size, 0, none⟩ = some (.int .u64 (h : Nat))
  c1 : U.cell? ⟨w.heap.size, 1, none⟩ = some (.int .u64 (e : Nat))
  bl : Below w.heap.size w U
theorem RB.next {w : World} {h e : Nat} {U U' : World} (k : RB w h e U) (hn : Below U.heap.size U U') : RB w h e U' :=
  ⟨(hn.cell (p := ⟨w.heap.size, 0, none⟩) (World.block_lt_of_cell? U _ k.c0)).trans k.c0, (hn.cell (p := ⟨w.heap.size, 1, none⟩) (World.block_lt_of_cell? U _ k.c1)).trans k.c1, k.bl.trans (hn.mono k.bl.size)⟩

set_option maxHeartbeats 4000000 in
theorem walk (w : World) (a0_0 : Int) (w0_0 : (Lit.int .u64 a0_0).wf = true) (a0_1 : Int) (w0_1 : (Lit.int .u64 a0_1).wf = true) (a1 : Int) (w1 : (Lit.int .u64 a1).wf = true) (a2 : Int) (w2 : (Lit.int .u64 a2).wf = true) :
    Calls Try.prog 6 #[.agg #[.int .u64 a0_0, .int .u64 a0_1], .int .u64 a1, .int .u64 a2] w fun e w' => e = .returned (.bool true) ∧ Below w.heap.size w w' := by
  obtain ⟨h, rfl⟩ : ∃ x : Nat, a0_0 = x := ⟨a0_0.toNat, by have := u64_lo w0_0; omega⟩
  obtain ⟨e, rfl⟩ : ∃ x : Nat, a0_1 = x := ⟨a0_1.toNat, by have := u64_lo w0_1; omega⟩
  obtain ⟨ep, rfl⟩ : ∃ x : Nat, a1 = x := ⟨a1.toNat, by have := u64_lo w1; omega⟩
  obtain ⟨lt, rfl⟩ : ∃ x : Nat, a2 = x := ⟨a2.toNat, by have := u64_lo w2; omega⟩
  have he : e < 18446744073709551616 := by have := u64_hi w0_1; omega
  have hep : ep < 18446744073709551616 := by have := u64_hi w1; omega
  have hlt : lt < 18446744073709551616 := by have := u64_hi w2; omega
  have k1 := ripe_any h e ep he hep
  have k2 := ripe_any h e lt he hlt
  have AW := Lib.hid awake16_any
  have HB := Lib.hid (show RB w h e (w.alloc (.cells #[.int .u64 (h : Nat), .int .u64 (e : Nat)] 32)) from ⟨by simp, by simp, bel1 _ _⟩)
  have t1 : True := trivial
  have t2 : True := trivial
  have t3 : True := trivial
  clear w0_0 w0_1 w1 w2
  cases hr : ripeB e ep with
  | false =>
    rw [hr] at k1
    have R1 := Lib.hid k1
    clear k1 k2 hr
    go_enter Try.func6, Try.ntmps6
    go_wp2_with (first
      | (go_at_call 10; have _t := t1; refine (R1.out _).mono ?_; rintro x u1 ⟨rfl, hn⟩; clear t1; have K1 := Lib.hid (HB.out.next hn); clear hn; have c0 := K1.out.c0; have c1 := K1.out.c1)
      | (go_at_call 10; have _t := t3; refine (R1.out _).mono ?_; rintro x u2 ⟨rfl, hn⟩; clear t3; have K2 := Lib.hid (K1.out.next hn); clear hn c0 c1; have c0 := K2.out.c0; have c1 := K2.out.c1)
      | (go_at_call 7; refine (AW.out _).mono ?_; rintro x u3 ⟨rfl, hn⟩))
    go_ret
    exact ⟨rfl, K2.out.bl.trans (hn.mono K2.out.bl.size)⟩
  | true =>
    rw [hr] at k1
    have R1 := Lib.hid k1
    have g0 : e ≤ ep ∧ 2 ≤ ep - e := by simpa [ripeB] using hr
    have g1 : ((e : Int) == (ep : Int)) = false := by simp; omega
    have g2 : ((e : Int) == (ep : Int) - 1) = false := by simp; omega
    have g3 : (1 : Int) ≤ ep := by omega
    by_cases hle : (ep : Int) ≤ lt
    · have hr2 : ripeB e lt = true := by unfold ripeB; simp; omega
      rw [hr2] at k2
      have R2 := Lib.hid k2
      clear k1 k2 hr hr2 g0
      go_enter Try.func6, Try.ntmps6
      go_wp2_with (first
        | (go_at_call 10; have _t := t1; refine (R1.out _).mono ?_; rintro x u1 ⟨rfl, hn⟩; clear t1; have K1 := Lib.hid (HB.out.next hn); clear hn; have c0 := K1.out.c0; have c1 := K1.out.c1)
        | (go_at_call 10; have _t := t2; refine (R2.out _).mono ?_; rintro x u2 ⟨rfl, hn⟩; clear t2; have K2 := Lib.hid (K1.out.next hn); clear hn c0 c1; have c0 := K2.out.c0; have c1 := K2.out.c1)
        | (go_at_call 10; have _t := t3; refine (R1.out _).mono ?_; rintro x u3 ⟨rfl, hn⟩; clear t3; have K3 := Lib.hid (K2.out.next hn); clear hn c0 c1; have c0 := K3.out.c0; have c1 := K3.out.c1)
        | (go_at_call 7; refine (AW.out _).mono ?_; rintro x u4 ⟨rfl, hn⟩))
      go_ret
      exact ⟨rfl, K3.out.bl.trans (hn.mono K3.out.bl.size)⟩
    · have hle2 : (lt : Int) < ep := by omega
      clear k1 k2 hr g0 hle
      go_enter Try.func6, Try.ntmps6
      go_wp2_with (first
        | (go_at_call 10; have _t := t1; refine (R1.out _).mono ?_; rintro x u1 ⟨rfl, hn⟩; clear t1; have K1 := Lib.hid (HB.out.next hn); clear hn; have c0 := K1.out.c0; have c1 := K1.out.c1)
        | (go_at_call 10; have _t := t3; refine (R1.out _).mono ?_; rintro x u3 ⟨rfl, hn⟩; clear t3; have K3 := Lib.hid (K1.out.next hn); clear hn c0 c1; have c0 := K3.out.c0; have c1 := K3.out.c1)
        | (go_at_call 7; refine (AW.out _).mono ?_; rintro x u4 ⟨rfl, hn⟩))
      go_ret
      exact ⟨rfl, K3.out.bl.trans (hn.mono K3.out.bl.size)⟩

set_option maxRecDepth 100000 in
theorem lifted (os : Os) (started : os.Started) (H : Type) (enc : TypeId × Value → H) :
    ReturnsInHanded {} Try.checked os 6 .any (Rows.limboStaysSpec.pre6 enc Try.prog Try.f6 Rows.limboStaysRow.domain false) (Rows.limboStaysSpec.post enc Try.prog Try.f6 false true false false) := by
  refine returnsInHanded_of_change (C := Try.checked) own started (by kernel_rfl) Try.func6
    (ChangeSpec.witness6 (enc := enc) (C := Try.checked) false ⟨#[], #[.agg #[.int .u64 0, .int .u64 0], .int .u64 0, .int .u64 0], []⟩ 8 (by kernel_rfl) (by kernel_rfl) (by kernel_rfl) (by kernel_rfl)) ?_
  intro W base args ds gs before hval0 hW hcnd _
  have hval : ∀ (j : Nat) t v, Try.f6.params[j]? = some t → args[j]? = some v → Value.okWide Try.prog W .any base t v := hval0
  have hW' := hW
  obtain ⟨p, q, hA0, hV, rfl, hfz, hnd⟩ := hW
  have hA : DataW.TrodAll enc Try.prog W 0 (fun _ => true) true Try.f6.params.toList args.toList ds p := hA0
  rw [Try.params6] at hA hval
  obtain ⟨v0, vs0, d0, ds0, p0, q0, hargs, rfl, rfl, h0, r0⟩ := trodAll_cons hA
  obtain ⟨v1, vs1, d1, ds1, p1, q1, rfl, rfl, rfl, h1, r1⟩ := trodAll_cons r0
  obtain ⟨v2, vs2, d2, ds2, p2, q2, rfl, rfl, rfl, h2, r2⟩ := trodAll_cons r1
  obtain ⟨rfl, rfl, rfl⟩ := trodAll_nil r2
  obtain rfl : args = #[v0, v1, v2] := by cases args; simp_all
  obtain ⟨rfl, rfl⟩ := trodVars_none hV
  have k0 := h0
  obtain ⟨ns0, h0l, h0v, h0w⟩ := open_intStruct [.u64, .u64] Try.underlying32 (by kernel_rfl) (by kernel_rfl) rfl (hval 0 32 v0 rfl rfl) h0
  obtain ⟨a0_0, a0_1, rfl⟩ := list2 h0l
  obtain rfl : v0 = .agg #[.int .u64 a0_0, .int .u64 a0_1] := h0v
  obtain ⟨a1, rfl, rfl, rfl, w1⟩ := open_int Try.underlying23 (hval 1 23 v1 rfl rfl) h1
  obtain ⟨a2, rfl, rfl, rfl, w2⟩ := open_int Try.underlying23 (hval 2 23 v2 rfl rfl) h2
  clear hA0 hval0
  simp only [List.append_nil] at hW'
  have hlt0 : ∀ x ∈ p0, x.block < W.heap.size := fun x hx => by simpa using hW'.lt x (by simp [hx])
  refine (walk W a0_0 (h0w 0 .u64 _ rfl rfl) a0_1 (h0w 1 .u64 _ rfl rfl) a1 w1 a2 w2).mono fun e W' ⟨he, hg⟩ => ?_
  subst he
  exact ⟨_, rfl, post_of_below2 (pv := []) hW' (fun _ _ _ => (trodAll_cons_mk (shut_bool Try.underlying4 _) trodAll_mk0)) (trodAll_cons_mk (Below.trod laidOut (by kernel_rfl) (of_decide_eq_true (by kernel_rfl)) k0 hg hlt0) (trodAll_cons_mk (shut_int Try.underlying23 w1) (trodAll_cons_mk (shut_int Try.underlying23 w2) trodAll_mk0))) rfl (by simp) (hg.frame _)⟩

theorem over : Rows.limboStaysRow.holds Try.pinned (OpenSpec.ofChange Rows.limboStaysSpec) :=
  OpenClaim.holds_of_wide 6 Try.f6 rfl rfl rfl rfl rfl rfl rfl ⟨rfl, rfl, rfl, rfl, rfl⟩ rfl rfl rfl rfl rfl (by kernel_rfl) Try.func6 (by kernel_rfl)
    (of_decide_eq_true (by kernel_rfl)) (by unfold Func.isWrapper; first | (rw [if_pos (by decide +kernel)]; kernel_rfl) | (rw [if_neg (by decide +kernel)]; exact ⟨rfl, rfl⟩))
    (fun os started H enc _ => lifted os started H enc)

theorem proved : Rows.LimboStaysSaid :=
  over

#print axioms proved
end Go.Proofs.Ytdljnfioponegaa.limboStays
