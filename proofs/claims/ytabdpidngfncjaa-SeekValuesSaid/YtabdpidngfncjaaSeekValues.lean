/- gleaninglaw11.SeekValues: for every input the law returns true, and leaves its arguments as they were. No condition. -/
import Derived.Test.YtabdpidngfncjaaRows
import Derived.WalkKit
import Derived.Deep.RegionWith
import Derived.Test.YtabdpidngfncjaaSeekTwo
import Derived.Test.YtabdpidngfncjaaFrame
import Derived.ProofKit
import Derived.OpenShut
namespace Go.Proofs.Ytabdpidngfncjaa.seekValues
open Go.ChangeShapes Go.WideShapes Go.ChangeAt Go.RowKit
set_option linter.unusedVariables false

theorem own : ownKnob Try.prog.godebug = none := by kernel_rfl
theorem laidOut : laidOutB Try.prog = true := by kernel_rfl
theorem cells22 : Try.prog.cellsOf 22 = 1 := by kernel_rfl

set_option maxHeartbeats 4000000 in
theorem walk (w : World) (a0 : Int) (w0 : (Lit.int .i64 a0).wf = true) (a1 : Int) (w1 : (Lit.int .i64 a1).wf = true) (a2 : Int) (w2 : (Lit.int .u64 a2).wf = true) (A3 : Option Addr) (len3 cap3 b3 off3 : Nat) (zs3 : List Int) (hl3 : zs3.length = len3) (hm3 : len3 ≤ maxLen) (hA3 : 0 < len3 → A3 = some ⟨b3, off3, none⟩ ∧ b3 < w.heap.size) (hc3 : ∀ i, i < len3 → w.cell? ⟨b3, off3 + i, none⟩ = some (.int .u64 (zs3.getD i 0))) (hw3 : ∀ n ∈ zs3, (Lit.int .u64 n).wf = true) :
    Calls Try.prog 6 #[.int .i64 a0, .int .i64 a1, .int .u64 a2, .slice A3 len3 cap3] w fun e w' => e = .returned (.bool true) ∧ Below w.heap.size w w' := by
  have A11 := Lib.hid (fun W => awake11_any W)
  have CW := Lib.hid (show ∀ W : World, Calls Try.prog 14 #[.agg #[.int .i64 0, .int .u64 0, .int .i64 0, .int .i64 0]] W fun e w' => e = .returned (.int .i64 (-1)) ∧ Below W.heap.size W w' from fun W => swant_any 0 0 0 0 (by omega) (by omega) W)
  have CA := Lib.hid (show ∀ W : World, Calls Try.prog 16 #[.agg #[.int .i64 0, .int .u64 0, .int .i64 0, .int .i64 0]] W fun e w' => e = .returned (.int .i64 0) ∧ Below W.heap.size W w' from fun W => sat_any 0 0 0 0 W)
  have CT := Lib.hid (show ∀ W : World, Calls Try.prog 18 #[.agg #[.int .i64 0, .int .u64 0, .int .i64 0, .int .i64 0], .int .u64 a2] W fun e w' => e = .returned (.agg #[.int .i64 0, .int .u64 0, .int .i64 0, .int .i64 0]) ∧ Below W.heap.size W w' from fun W => stook_come 0 0 0 0 a2 (by omega) W)
  by_cases hlen : (len3 : Int) ≤ 70
  · have HC := Lib.hid hc3
    have hln : len3 ≤ 70 := by omega
    have b1 := i64_hi w1
    obtain ⟨s0, hs0⟩ : ∃ s0 : Sk, s0 = Sk.new a0 a1 a2 := ⟨_, rfl⟩
    have HK : Hid s0.ok := by rw [hs0]; exact Sk.new_ok a0 a1 a2 b1
    have N := Lib.hid (show ∀ W : World, Calls Try.prog 12 #[.int .i64 a0, .int .i64 a1, .int .u64 a2] W fun e w' => e = .returned s0.val ∧ Below W.heap.size W w' from fun W => by rw [hs0]; exact snew_any a0 a1 a2 W)
    clear hs0 hc3
    unfold Sk.val at N
    have hb : Below w.heap.size w w := Below.refl _ _
    by_cases hz : 0 < len3
    · obtain ⟨rfl, hbl⟩ := hA3 hz
      clear hA3
      have tok1 : True := trivial
      go_enter Try.func6, Try.ntmps6
      go_wp2_with (first | (go_at_call 12; have _t := tok1; refine (N.out _).mono ?_; rintro e wa ⟨rfl, hna⟩; have hba := Lib.hid (hb.trans (hna.mono hb.size)); clear tok1 _t hna) | (go_at_call 12; refine (N.out _).mono ?_; rintro e wn ⟨rfl, hnn⟩; have hzn := Lib.hid hnn; clear hnn))
      have hls := Lib.hid (LS.mk' (s := s0) hba.out hzn.out)
      clear hba hzn hb
      obtain ⟨wl, hwl⟩ : ∃ wl : World, wl = wn.alloc (Obj.cells s0.cells 26) := ⟨_, rfl⟩
      rw [← hwl] at hls
      have hwl2 : wn.alloc (Obj.cells #[Value.int IntKind.i64 s0.k, Value.int IntKind.u64 s0.q, Value.int IntKind.i64 s0.lo, Value.int IntKind.i64 s0.hi] 26) = wl := hwl.symm
      rw [hwl2]
      clear hwl hwl2
      generalize wa.heap.size = g1 at hls ⊢
      generalize wn.heap.size = g2 at hls ⊢
      go_loopg [11] len3 (fun g i wr => ∃ n : Nat, n ≤ len3 ∧ g = len3 - n ∧ i = .int .i64 n ∧ LS w g1 g2 (Sk.fold zs3 s0 n) s0 wr)
      case atStart => exact ⟨0, by omega, by omega, rfl, hls.out⟩
      case round =>
        obtain ⟨n, hn, hg, rfl, hr⟩ := hrel
        have HR := Lib.hid hr
        by_cases hlt : n < len3
        · have hx : Hid (wr.cell? ⟨b3, off3 + n, none⟩ = some (.int .u64 (zs3.getD n 0))) := ((bcell hr.below).1 _ _ hbl).trans (HC.out n hlt)
          have hx := hx.out
          obtain ⟨⟨c0, c1, c2, c3⟩, f0⟩ := hr.facts1
          have hokn := Sk.ok_fold zs3 s0 HK.out n
          have hstep : Sk.fold zs3 s0 (n + 1) = (Sk.fold zs3 s0 n).took (zs3.getD n 0) := rfl
          generalize Sk.fold zs3 s0 n = s at hr HR c0 c1 c2 c3 hokn hstep
          generalize zs3.getD n 0 = x at hx hstep
          have T := Lib.hid (fun W => stook_any s x hokn W)
          generalize s.took x = s2 at T hstep
          unfold Sk.val at T
          have HS := Lib.hid hstep
          clear hstep hr hokn
          go_wp2
          go_region_with (first | (go_at_call 18; refine (T.out _).mono ?_; rintro e un ⟨rfl, hn1⟩; have hr1 := LS.next (LS.drew HR.out) hn1; obtain ⟨⟨c01, c11, c21, c31⟩, f01⟩ := hr1.facts1; have HR1 := Lib.hid hr1; clear hr1 hn1))
          all_goals
            go_wp2
            go_roundg (len3 - (n + 1))
            case rel => exact ⟨n + 1, by omega, rfl, by go_num, by rw [HS.out]; exact LS.store1 HR1.out s2⟩
            case measure => omega
        · obtain rfl : n = len3 := by omega
          go_wp2
          go_loopg [12] n (fun g i wr2 => ∃ m : Nat, m ≤ n ∧ g = n - m ∧ i = .int .i64 m ∧ LS w g1 g2 (Sk.fold zs3 s0 n) (Sk.fold zs3 s0 m) wr2)
          case atStart => exact ⟨0, by omega, by omega, rfl, HR.out⟩
          case round =>
            obtain ⟨m, hm, hg2, rfl, hr⟩ := hrel
            have HR := Lib.hid hr
            by_cases hlt2 : m < n
            · have hx : Hid (wr.cell? ⟨b3, off3 + m, none⟩ = some (.int .u64 (zs3.getD m 0))) := ((bcell hr.below).1 _ _ hbl).trans (HC.out m hlt2)
              have hx := hx.out
              obtain ⟨⟨c0, c1, c2, c3⟩, f0⟩ := hr.facts2
              have hokn := Sk.ok_fold zs3 s0 HK.out m
              have hstep : Sk.fold zs3 s0 (m + 1) = (Sk.fold zs3 s0 m).took (zs3.getD m 0) := rfl
              generalize Sk.fold zs3 s0 m = s at hr HR c0 c1 c2 c3 hokn hstep
              generalize zs3.getD m 0 = x at hx hstep
              have T := Lib.hid (fun W => stook_any s x hokn W)
              generalize s.took x = s2 at T hstep
              unfold Sk.val at T
              have HS := Lib.hid hstep
              clear hstep hr hokn
              go_wp2
              go_region_with (first | (go_at_call 18; refine (T.out _).mono ?_; rintro e un ⟨rfl, hn1⟩; have hr1 := LS.next (LS.drew HR.out) hn1; obtain ⟨⟨c01, c11, c21, c31⟩, f01⟩ := hr1.facts2; have HR1 := Lib.hid hr1; clear hr1 hn1))
              all_goals
                go_wp2
                go_roundg (n - (m + 1))
                case rel => exact ⟨m + 1, by omega, rfl, by go_num, by rw [HS.out]; exact LS.store2 HR1.out s2⟩
                case measure => omega
            · obtain rfl : m = n := by omega
              generalize Sk.fold zs3 s0 m = s at hr
              have hg2 := hr.hi
              have hg1 := Nat.lt_trans hr.two hr.hi
              obtain ⟨⟨c0, c1, c2, c3⟩, f0⟩ := (hr.alloc (Obj.cells #[Value.int IntKind.i64 0, Value.int IntKind.u64 0, Value.int IntKind.i64 0, Value.int IntKind.i64 0] 26)).facts1
              obtain ⟨⟨d0, d1, d2, d3⟩, e0⟩ := (hr.alloc (Obj.cells #[Value.int IntKind.i64 0, Value.int IntKind.u64 0, Value.int IntKind.i64 0, Value.int IntKind.i64 0] 26)).facts2
              have HT := Lib.hid (TS.new hr.below)
              clear hr HR
              go_wp2_with (first | (go_at_call 14; refine (CW.out _).mono ?_; rintro e un ⟨rfl, hn⟩; have ht1 := TS.next HT.out hn; obtain ⟨z0, z1, z2, z3⟩ := ht1.facts; replace HT := Lib.hid ht1; clear ht1 hn) | (go_at_call 16; refine (CA.out _).mono ?_; rintro e un ⟨rfl, hn⟩; have ht1 := TS.next HT.out hn; obtain ⟨z0, z1, z2, z3⟩ := ht1.facts; replace HT := Lib.hid ht1; clear ht1 hn) | (go_at_call 18; refine (CT.out _).mono ?_; rintro e un ⟨rfl, hn⟩; have ht1 := TS.next HT.out hn; obtain ⟨z0, z1, z2, z3⟩ := ht1.facts; replace HT := Lib.hid ht1; clear ht1 hn) | (go_at_call 11; refine (A11.out _).mono ?_; rintro e un ⟨rfl, hn⟩; have hfin := Lib.hid (TS.next HT.out hn).below; clear hn))
              go_ret
              exact ⟨rfl, hfin.out⟩
    · obtain rfl : len3 = 0 := by omega
      clear hA3 HC
      have tok1 : True := trivial
      go_enter Try.func6, Try.ntmps6
      go_wp2_with (first | (go_at_call 12; have _t := tok1; refine (N.out _).mono ?_; rintro e wa ⟨rfl, hna⟩; have hba := Lib.hid (hb.trans (hna.mono hb.size)); clear tok1 _t hna) | (go_at_call 12; refine (N.out _).mono ?_; rintro e wn ⟨rfl, hnn⟩; have hzn := Lib.hid hnn; clear hnn))
      have hls := Lib.hid (LS.mk' (s := s0) hba.out hzn.out)
      clear hba hzn hb
      obtain ⟨wl, hwl⟩ : ∃ wl : World, wl = wn.alloc (Obj.cells s0.cells 26) := ⟨_, rfl⟩
      rw [← hwl] at hls
      have hwl2 : wn.alloc (Obj.cells #[Value.int IntKind.i64 s0.k, Value.int IntKind.u64 s0.q, Value.int IntKind.i64 s0.lo, Value.int IntKind.i64 s0.hi] 26) = wl := hwl.symm
      rw [hwl2]
      clear hwl hwl2
      generalize wa.heap.size = g1 at hls ⊢
      generalize wn.heap.size = g2 at hls ⊢
      refine wp_loop_rounds 1 ?_
      rw [rounds_succ]
      go_wp2
      refine wp_loop_rounds 1 ?_
      rw [rounds_succ]
      have hr := hls.out
      have hg2 := hr.hi
      have hg1 := Nat.lt_trans hr.two hr.hi
      obtain ⟨⟨c0, c1, c2, c3⟩, f0⟩ := (hr.alloc (Obj.cells #[Value.int IntKind.i64 0, Value.int IntKind.u64 0, Value.int IntKind.i64 0, Value.int IntKind.i64 0] 26)).facts1
      obtain ⟨⟨d0, d1, d2, d3⟩, e0⟩ := (hr.alloc (Obj.cells #[Value.int IntKind.i64 0, Value.int IntKind.u64 0, Value.int IntKind.i64 0, Value.int IntKind.i64 0] 26)).facts2
      have HT := Lib.hid (TS.new hr.below)
      clear hr
      go_wp2_with (first | (go_at_call 14; refine (CW.out _).mono ?_; rintro e un ⟨rfl, hn⟩; have ht1 := TS.next HT.out hn; obtain ⟨z0, z1, z2, z3⟩ := ht1.facts; replace HT := Lib.hid ht1; clear ht1 hn) | (go_at_call 16; refine (CA.out _).mono ?_; rintro e un ⟨rfl, hn⟩; have ht1 := TS.next HT.out hn; obtain ⟨z0, z1, z2, z3⟩ := ht1.facts; replace HT := Lib.hid ht1; clear ht1 hn) | (go_at_call 18; refine (CT.out _).mono ?_; rintro e un ⟨rfl, hn⟩; have ht1 := TS.next HT.out hn; obtain ⟨z0, z1, z2, z3⟩ := ht1.facts; replace HT := Lib.hid ht1; clear ht1 hn) | (go_at_call 11; refine (A11.out _).mono ?_; rintro e un ⟨rfl, hn⟩; have hfin := Lib.hid (TS.next HT.out hn).below; clear hn))
      go_ret
      exact ⟨rfl, hfin.out⟩
  · have h70 : 70 < (len3 : Int) := by omega
    clear hlen hc3 hA3
    go_enter Try.func6, Try.ntmps6
    go_wp2_with (go_at_call 11; refine (A11.out _).mono ?_; rintro e un ⟨rfl, hn⟩)
    go_ret
    exact ⟨rfl, hn⟩

set_option maxRecDepth 100000 in
theorem lifted (os : Os) (started : os.Started) (H : Type) (enc : TypeId × Value → H) :
    ReturnsInHanded {} Try.checked os 6 .any (Rows.seekValuesSpec.pre6 enc Try.prog Try.f6 Rows.seekValuesRow.domain false) (Rows.seekValuesSpec.post enc Try.prog Try.f6 false true false false) := by
  refine returnsInHanded_of_change (C := Try.checked) own started (by kernel_rfl) Try.func6
    (ChangeSpec.witness6 (enc := enc) (C := Try.checked) false ⟨#[], #[.int .i64 0, .int .i64 0, .int .u64 0, .slice none 0 0], []⟩ 8 (by kernel_rfl) (by kernel_rfl) (by kernel_rfl) (by kernel_rfl)) ?_
  intro W base args ds gs before hval0 hW hcnd _
  have hval : ∀ (j : Nat) t v, Try.f6.params[j]? = some t → args[j]? = some v → Value.okWide Try.prog W .any base t v := hval0
  have hW' := hW
  obtain ⟨p, q, hA0, hV, rfl, hfz, hnd⟩ := hW
  have hA : DataW.TrodAll enc Try.prog W 0 (fun _ => true) true Try.f6.params.toList args.toList ds p := hA0
  rw [Try.params6] at hA hval
  obtain ⟨v0, vs0, d0, ds0, p0, q0, hargs, rfl, rfl, h0, r0⟩ := trodAll_cons hA
  obtain ⟨v1, vs1, d1, ds1, p1, q1, rfl, rfl, rfl, h1, r1⟩ := trodAll_cons r0
  obtain ⟨v2, vs2, d2, ds2, p2, q2, rfl, rfl, rfl, h2, r2⟩ := trodAll_cons r1
  obtain ⟨v3, vs3, d3, ds3, p3, q3, rfl, rfl, rfl, h3, r3⟩ := trodAll_cons r2
  obtain ⟨rfl, rfl, rfl⟩ := trodAll_nil r3
  obtain rfl : args = #[v0, v1, v2, v3] := by cases args; simp_all
  obtain ⟨rfl, rfl⟩ := trodVars_none hV
  obtain ⟨a0, rfl, rfl, rfl, w0⟩ := open_int Try.underlying3 (hval 0 3 v0 rfl rfl) h0
  obtain ⟨a1, rfl, rfl, rfl, w1⟩ := open_int Try.underlying3 (hval 1 3 v1 rfl rfl) h1
  obtain ⟨a2, rfl, rfl, rfl, w2⟩ := open_int Try.underlying22 (hval 2 22 v2 rfl rfl) h2
  obtain ⟨A3, len3, cap3, rfl⟩ := okWide_slice Try.underlying23 (hval 3 23 v3 rfl rfl)
  have k3 := h3
  obtain ⟨b3, off3, zs3, hl3, hm3, hA3, hc3, hw3⟩ := open_slice Try.underlying23 Try.underlying22 cells22 h3
  clear hA0 hval0
  simp only [List.append_nil, List.nil_append] at hW'
  have hlt3 : ∀ x ∈ p3, x.block < W.heap.size := fun x hx => by simpa using hW'.lt x (by simp [hx])
  refine (walk W a0 w0 a1 w1 a2 w2 A3 len3 cap3 b3 off3 zs3 hl3 hm3 hA3 hc3 hw3).mono fun e W' ⟨he, hg⟩ => ?_
  subst he
  exact ⟨_, rfl, post_of_below2 (pv := []) hW' (fun _ _ _ => (trodAll_cons_mk (shut_bool Try.underlying4 _) trodAll_mk0)) (trodAll_cons_mk (shut_int Try.underlying3 w0) (trodAll_cons_mk (shut_int Try.underlying3 w1) (trodAll_cons_mk (shut_int Try.underlying22 w2) (trodAll_cons_mk (Below.trod laidOut (by kernel_rfl) (of_decide_eq_true (by kernel_rfl)) k3 hg hlt3) trodAll_mk0)))) rfl (by simp) (hg.frame _)⟩

theorem over : Rows.seekValuesRow.holds Try.pinned (OpenSpec.ofChange Rows.seekValuesSpec) :=
  OpenClaim.holds_of_wide 6 Try.f6 rfl rfl rfl rfl rfl rfl rfl ⟨rfl, rfl, rfl, rfl, rfl⟩ rfl rfl rfl rfl rfl (by kernel_rfl) Try.func6 (by kernel_rfl)
    (of_decide_eq_true (by kernel_rfl)) (by unfold Func.isWrapper; first | (rw [if_pos (by decide +kernel)]; kernel_rfl) | (rw [if_neg (by decide +kernel)]; exact ⟨rfl, rfl⟩))
    (fun os started H enc _ => lifted os started H enc)

theorem proved : Rows.SeekValuesSaid :=
  over
#print axioms proved
end Go.Proofs.Ytabdpidngfncjaa.seekValues
