/- gleaninglaw04.VwordMakes: for every input the law returns true, and leaves its arguments as they were. No condition. -/
import Derived.Test.YtmpfajnieanfnaaRows
import Derived.WalkKit
import Derived.Deep.RegionHeld3
import Derived.Test.YtmpfajnieanfnaaAwake4
import Derived.Test.YtmpfajnieanfnaaFrame
import Derived.ProofKit
import Derived.OpenShut
namespace Go.Proofs.Ytmpfajnieanfnaa.vwordMakes
open Go.ChangeShapes Go.WideShapes Go.ChangeAt Go.RowKit
set_option linter.unusedVariables false      -- a walk need not use every 'w<i>' (that an integer argument fits its kind)

theorem own : ownKnob Try.prog.godebug = none := by kernel_rfl

/-- What the region keeps: a node's parts in its block, and all that was there. -/
def PS (b : Nat) (c0 c1 c2 c3 : Value) (w0 w : World) : Prop := w.cell? ⟨b, 0, none⟩ = some c0 ∧ w.cell? ⟨b, 1, none⟩ = some c1 ∧ w.cell? ⟨b, 2, none⟩ = some c2 ∧ w.cell? ⟨b, 3, none⟩ = some c3 ∧ b < w.heap.size ∧ Below w0.heap.size w0 w
theorem PS.next {b : Nat} {c0 c1 c2 c3 : Value} {w0 w w' : World} (h : PS b c0 c1 c2 c3 w0 w) (hn : Below w.heap.size w w') : PS b c0 c1 c2 c3 w0 w' := by
  obtain ⟨h0, h1, h2, h3, hb, hB⟩ := h
  obtain ⟨hc, _⟩ := bcell hn
  exact ⟨(hc _ _ hb).trans h0, (hc _ _ hb).trans h1, (hc _ _ hb).trans h2, (hc _ _ hb).trans h3, Nat.lt_of_lt_of_le hb hn.size, hB.trans (hn.mono hB.size)⟩
theorem PS.drewN {b : Nat} {c0 c1 c2 c3 : Value} {w0 w : World} (h : PS b c0 c1 c2 c3 w0 w) (n : Nat) : PS b c0 c1 c2 c3 w0 (w.drewN n) := by
  obtain ⟨h0, h1, h2, h3, hb, hB⟩ := h
  exact ⟨h0, h1, h2, h3, hb, below_drewN hB n⟩
/-! ### STEP 1: THE WALK: the Go text returns true. 'Grown w w'': the world has at most new blocks (Derived/RowKit3.lean). Part the cases AHEAD of 'go_enter' where a test parts the walk; take each callee by a contract of your own. -/
set_option maxHeartbeats 4000000 in
theorem walk (a0 : Int) (a1 : Int) (a2 : Bool) (a3 : Bool) (w0 : (Lit.int .u64 a0).wf = true) (w1 : (Lit.int .u64 a1).wf = true) (w : World) :
    Calls Try.prog 3 #[.int .u64 a0, .int .u64 a1, .bool a2, .bool a3] w fun e w' => e = .returned (.bool true) ∧ Below w.heap.size w w' := by
  obtain ⟨x0, rfl⟩ : ∃ x : Nat, a0 = x := ⟨a0.toNat, by have := u64_lo w0; omega⟩
  have hx0 := u64_hi w0
  obtain ⟨x1, rfl⟩ : ∃ x : Nat, a1 = x := ⟨a1.toNat, by have := u64_lo w1; omega⟩
  have hx1 := u64_hi w1
  have E : wordI a3 a2 x1 x0 = (makeN x0 x1 a2 a3 : Nat) := (make_word x0 x1 a2 a3).symm
  have hb : Below w.heap.size w w := Below.refl _ _
  go_enter Try.func3, Try.ntmps3
  go_wp2_with (first | (go_at_call 12; refine (vmake_any _ _ _ _ (by omega) (by omega) _).mono ?_; rintro e wn ⟨rfl, hn⟩; replace hb : Below w.heap.size w wn := (by first | exact hb.trans (hn.mono hb.size) | exact (below_drewN hb _).trans (hn.mono hb.size)); clear hn) | (go_at_call 13; refine (rof_any _ (by omega) _).mono ?_; rintro e wn ⟨rfl, hn⟩; replace hb : Below w.heap.size w wn := (by first | exact hb.trans (hn.mono hb.size) | exact (below_drewN hb _).trans (hn.mono hb.size)); clear hn))
  obtain ⟨wm, hwm⟩ : ∃ wm : World, wm = wn.alloc (Obj.cells #[Value.bool (lkB x1), Value.bool (ddB x1), Value.int IntKind.u64 ↑(cN x1), Value.int IntKind.u64 ↑(gN x1)] 25) := ⟨_, rfl⟩
  have hs : PS wn.heap.size (.bool (lkB x1)) (.bool (ddB x1)) (.int .u64 (cN x1)) (.int .u64 (gN x1)) w wm := by
    rw [hwm]
    refine ⟨by go_simp, by go_simp, by go_simp, by go_simp, by simp, Below.alloc hb hb.size _⟩
  rw [← hwm]
  clear hwm
  generalize wn.heap.size = b at hs ⊢
  obtain ⟨q0, q1, q2, q3, q4, q5⟩ := hs
  clear hb
  go_region_held3 (fun w' => w'.cell? ⟨b, 0, none⟩ = some (.bool (lkB x1)) ∧ w'.cell? ⟨b, 1, none⟩ = some (.bool (ddB x1)) ∧ w'.cell? ⟨b, 2, none⟩ = some (.int .u64 (cN x1)) ∧ w'.cell? ⟨b, 3, none⟩ = some (.int .u64 (gN x1)) ∧ b < w'.heap.size ∧ Below w.heap.size w w') (first | exact hs | assumption | exact ⟨q0, q1, q2, q3, q4, q5.drew⟩ | exact PS.drewN (by assumption) _)
    (first
      | (go_at_call 14; refine (rword_any _ _ _ _ (by omega) (by omega) (by omega) (by omega) _).mono ?_; rintro e wk ⟨rfl, hn⟩; have hs := PS.next (b := b) (c0 := .bool (lkB x1)) (c1 := .bool (ddB x1)) (c2 := .int .u64 (cN x1)) (c3 := .int .u64 (gN x1)) (w0 := w) (by assumption) hn; clear hn)
      | (go_at_call 15; refine (locked_any _ (by omega) _).mono ?_; rintro e w' ⟨rfl, rfl⟩)
      | (go_at_call 16; refine (dead_any _ (by omega) _).mono ?_; rintro e w' ⟨rfl, rfl⟩)
      | (go_at_call 17; refine (vcount_any _ (by omega) _).mono ?_; rintro e w' ⟨rfl, n, rfl⟩)
      | (go_at_call 18; refine (vgen_any _ (by omega) _).mono ?_; rintro e w' ⟨rfl, n, rfl⟩)
      | (go_at_call 19; refine (awake4_any _).mono ?_; rintro e wk ⟨rfl, hn⟩; have hs := PS.next (b := b) (c0 := .bool (lkB x1)) (c1 := .bool (ddB x1)) (c2 := .int .u64 (cN x1)) (c3 := .int .u64 (gN x1)) (w0 := w) (by assumption) hn; clear hn))
  go_wp2
  go_ret
  exact ⟨rfl, hs.2.2.2.2.2⟩

/-! ### THE ROW's STEP: WRITTEN OUT: LEAVE IT -/
set_option maxRecDepth 100000 in
theorem lifted (os : Os) (started : os.Started) (H : Type) (enc : TypeId × Value → H) :
    ReturnsInHanded {} Try.checked os 3 .any (Rows.vwordMakesSpec.pre6 enc Try.prog Try.f3 Rows.vwordMakesRow.domain false) (Rows.vwordMakesSpec.post enc Try.prog Try.f3 false true false false) := by
  refine returnsInHanded_of_change (C := Try.checked) own started (by kernel_rfl) Try.func3
    (ChangeSpec.witness6 (enc := enc) (C := Try.checked) false ⟨#[], #[.int .u64 0, .int .u64 0, .bool false, .bool false], []⟩ 8 (by kernel_rfl) (by kernel_rfl) (by kernel_rfl) (by kernel_rfl)) ?_
  intro W base args ds gs before hval0 hW hcnd _
  have hval : ∀ (j : Nat) t v, Try.f3.params[j]? = some t → args[j]? = some v → Value.okWide Try.prog W .any base t v := hval0
  have hW' := hW
  obtain ⟨p, q, hA0, hV, rfl, hfz, hnd⟩ := hW
  have hA : DataW.TrodAll enc Try.prog W 0 (fun _ => true) true Try.f3.params.toList args.toList ds p := hA0
  rw [Try.params3] at hA hval
  obtain ⟨v0, vs0, d0, ds0, p0, q0, hargs, rfl, rfl, h0, r0⟩ := trodAll_cons hA
  obtain ⟨v1, vs1, d1, ds1, p1, q1, rfl, rfl, rfl, h1, r1⟩ := trodAll_cons r0
  obtain ⟨v2, vs2, d2, ds2, p2, q2, rfl, rfl, rfl, h2, r2⟩ := trodAll_cons r1
  obtain ⟨v3, vs3, d3, ds3, p3, q3, rfl, rfl, rfl, h3, r3⟩ := trodAll_cons r2
  obtain ⟨rfl, rfl, rfl⟩ := trodAll_nil r3
  obtain rfl : args = #[v0, v1, v2, v3] := by cases args; simp_all
  obtain ⟨rfl, rfl⟩ := trodVars_none hV
  obtain ⟨a0, rfl, rfl, rfl, w0⟩ := open_int Try.underlying22 (hval 0 22 v0 rfl rfl) h0
  obtain ⟨a1, rfl, rfl, rfl, w1⟩ := open_int Try.underlying22 (hval 1 22 v1 rfl rfl) h1
  obtain ⟨a2, rfl, rfl, rfl⟩ := open_bool Try.underlying4 (hval 2 4 v2 rfl rfl) h2
  obtain ⟨a3, rfl, rfl, rfl⟩ := open_bool Try.underlying4 (hval 3 4 v3 rfl rfl) h3
  clear hA0 hval0
  simp only [List.append_nil] at hW'
  refine (walk a0 a1 a2 a3 w0 w1 W).mono fun e W' ⟨he, hg⟩ => ?_
  subst he
  exact ⟨_, rfl, post_of_below (pa := []) (pv := []) hW' (fun _ _ _ => (trodAll_cons_mk (shut_bool Try.underlying4 _) trodAll_mk0)) (fun sp _ => (trodAll_cons_mk (shut_int Try.underlying22 w0) (trodAll_cons_mk (shut_int Try.underlying22 w1) (trodAll_cons_mk (shut_bool Try.underlying4 _) (trodAll_cons_mk (shut_bool Try.underlying4 _) trodAll_mk0))))) (fun _ _ => rfl) rfl (hg.frame _)⟩

theorem over : Rows.vwordMakesRow.holds Try.pinned (OpenSpec.ofChange Rows.vwordMakesSpec) :=
  OpenClaim.holds_of_wide 3 Try.f3 rfl rfl rfl rfl rfl rfl rfl ⟨rfl, rfl, rfl, rfl, rfl⟩ rfl rfl rfl rfl rfl (by kernel_rfl) Try.func3 (by kernel_rfl)
    (of_decide_eq_true (by kernel_rfl)) (by unfold Func.isWrapper; first | (rw [if_pos (by decide +kernel)]; kernel_rfl) | (rw [if_neg (by decide +kernel)]; exact ⟨rfl, rfl⟩))
    (fun os started H enc _ => lifted os started H enc)

/--  THE STATEMENT  -/
theorem proved : Rows.VwordMakesSaid :=
  over
#print axioms proved
end Go.Proofs.Ytmpfajnieanfnaa.vwordMakes
