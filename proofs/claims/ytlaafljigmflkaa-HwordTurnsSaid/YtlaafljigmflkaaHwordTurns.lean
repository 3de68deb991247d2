/- gleaninglaw06.HwordTurns: for every input the law returns true, and leaves its arguments as they were. No condition. -/
import Derived.Test.YtlaafljigmflkaaRows
import Derived.WalkKit
import Derived.Test.YtlaafljigmflkaaTurns3
import Derived.Test.YtlaafljigmflkaaFrame
import Derived.ProofKit
import Derived.OpenShut
namespace Go.Proofs.Ytlaafljigmflkaa.hwordTurns
open Go.ChangeShapes Go.WideShapes Go.ChangeAt Go.RowKit
set_option linter.unusedVariables false

theorem own : ownKnob Try.prog.godebug = none := by kernel_rfl
theorem laidOut : laidOutB Try.prog = true := by kernel_rfl
theorem cells3 : Try.prog.cellsOf 3 = 1 := by kernel_rfl
attribute [local go_sem] Oper.semAt_some
open Go.Shelf

set_option maxRecDepth 100000 in
set_option maxHeartbeats 4000000 in
theorem walk (w : World) (a0 : Int) (w0 : (Lit.int .u64 a0).wf = true) (A1 : Option Addr) (len1 cap1 b1 off1 : Nat) (zs1 : List Int) (hl1 : zs1.length = len1) (hm1 : len1 ≤ cap1 ∧ len1 ≤ maxLen) (hA1 : 0 < len1 → A1 = some ⟨b1, off1, none⟩ ∧ b1 < w.heap.size) (hc1 : ∀ i, i < len1 → w.cell? ⟨b1, off1 + i, none⟩ = some (.int .i64 (zs1.getD i 0))) (hw1 : ∀ n ∈ zs1, (Lit.int .i64 n).wf = true) :
    Calls Try.prog 4 #[.int .u64 a0, .slice A1 len1 cap1] w fun e w' => e = .returned (.bool true) ∧ Below w.heap.size w w' := by
  obtain ⟨x0, rfl⟩ : ∃ x : Nat, a0 = x := ⟨a0.toNat, by have := u64_lo w0; omega⟩
  have hx0 : x0 < 18446744073709551616 := by have := u64_hi w0; omega
  have AW := Lib.hid awake6_below
  have hmx : len1 ≤ 9223372036854775807 := by have := hm1.2; unfold maxLen at this; omega
  by_cases hlen : (len1 : Int) ≤ 60
  · have hln : len1 ≤ 60 := by omega
    have HS0 := Lib.hid (show SI w A1 b1 off1 zs1 from ⟨fun h => (hA1 (by omega)).1, fun j hj => hc1 j (by omega)⟩)
    have HZ := Lib.hid hl1
    clear hA1 hc1 hw1 hl1 hm1 w0
    obtain ⟨i0, hi, hz0, hz1, hz2⟩ := info_parts infoU
    refine (callsIn_wide (n := 5)).1 ?_
    refine callsIn_of_wp_marks Try.func4 rfl trivial ?_ rfl
    simp only [Try.ntmps4, List.size_toArray, List.length_cons, List.length_nil, Nat.reduceAdd, Nat.reduceSub, Array.replicate_succ, Array.replicate_zero, List.push_toArray, List.append_toArray, List.nil_append, List.cons_append]
    have TU := Lib.hid (fun W' h => turns_any x0 zs1 (by have := HZ.out; omega) A1 cap1 b1 off1 W' h)
    rw [HZ.out] at TU
    have hb0 := (((tl1 w (.cells #[.slice A1 len1 cap1] 31)).alloc (by simp) (.cells #[.bool false] 4)).alloc (by simp; omega) (.cells #[.slice none 0 0] 32))
    have x3 := Boxed.new w 31 (.slice A1 len1 cap1)
    have x4 := Boxed.new (w.alloc (.cells #[.slice A1 len1 cap1] 31)) 4 (.bool false)
    have x5 := Boxed.new ((w.alloc (.cells #[.slice A1 len1 cap1] 31)).alloc (.cells #[.bool false] 4)) 32 (.slice none 0 0)
    have x3 := (x3.alloc (.cells #[.bool false] 4)).alloc (.cells #[.slice none 0 0] 32)
    have x4 := x4.alloc (.cells #[.slice none 0 0] 32)
    simp only [World.size_alloc] at x4 x5
    have HX := Lib.hid (And.intro x3 (And.intro x4 x5))
    have HB0 := Lib.hid hb0
    clear hb0 x3 x4 x5
    gi_wp2_with (refine ⟨trivial, ?_⟩; gi_at_call 15; refine (callsIn_wide.2 (TU.out _ (HS0.out.next HB0.out))).mono ?_; rintro e w1 ⟨B, B2, v, rfl, hB, hB2, ho, hn⟩; obtain ⟨A, g, cap, rfl, hol, hgl⟩ := OwnL.of_own (zs := zs1) (by rw [HZ.out]; exact ho); have hfn := fn_nil B B2)
    have y3 := Boxed.blw HX.out.1 hn
    have y4 := Boxed.blw HX.out.2.1 hn
    have y5 := Boxed.blw HX.out.2.2 hn
    have hbw := HB0.out.trans (hn.mono HB0.out.size)
    have hsz := hn.size
    simp only [World.size_alloc] at hsz
    obtain ⟨cur, hgd⟩ := gd_of hol len1 HZ.out
    refine wpIn_rangeFunc_ownG rfl (by omega) (gf := 19) (lb := #[.pointer (some ⟨B, 0, none⟩), .pointer (some ⟨B2, 0, none⟩)]) rfl trivial (enters_of Try.func19 (by kernel_rfl) rfl)
      (turns_stops 4 (by omega) B B2 g cap x0 hx0 zs1 A (by have := HZ.out; omega) w1 (cell_lt hB) (cell_lt hB2) hB hB2 hol) kpB_t (kpB_b (by omega)) (Below.refl _ _) (fun _ => rfl)
      (IT w A1 len1 cap1 len1 g cur) (fun _ _ _ => False) (it_own w A1 len1 cap1 len1 g cur _ (by omega)) (fun _ _ _ _ _ hs _ _ => hs)
      ⟨⟨_, y5, World.ownsRow_nil _ _ _ _, trivial⟩, y3, y4, hgd, hbw⟩ ?a1 ?assign ?body ?done ?stop
    case assign =>
      intro l x W K hK
      gi_wp2
      exact hK
    case body =>
      rintro l pre x W hI hlt
      rw [HZ.out] at hlt
      obtain ⟨⟨v, hv, hrow, _⟩, h3, h4, hgd', hB⟩ := id hI
      have hc := hv.cell
      clear hB2 hol hn HX HB0 y3 y4 y5 ho
      gi_wp2_with (gi_at_builtin; refine wpListIn_append_own _ rfl _ _ 32 rfl w.heap.size 22 i0 (.int .u64 0) 1 8 sliceU hi hz0 hz1 hz2 rfl (by decide) _ _ _ rfl (hrow.alloc _) ⟨W.heap.size, 0, none⟩ 1 1 [.int .u64 (x : Nat)] rfl rfl (cell_one_new _ _ _) (by simp [Value.oneCell']) (by simp [maxLen]; omega) (by omega) (by have := hB.size; simp; omega) ?_; intro v' w1 hown' hgrow _; obtain ⟨g', cap', rfl⟩ := ownsRow_succ hown'; obtain ⟨hv1, k3, hkp, hit, hko⟩ := it_add hI hv hrow hlt hown' hgrow; have hc1 := hv1.cell; have hf1 := hv1.frozen; have k3' := (k3.other (B' := w.heap.size + 2) (by omega) (.slice (some ⟨g', 0, none⟩) (pre.length + 1) cap')).cell)
      all_goals first
        | exact ⟨hko.from _, hkp, hit⟩
        | (exfalso; omega)
    case done =>
      rintro D ys W hD rfl hI hK
      rw [HZ.out] at hI
      obtain ⟨⟨v, hv, hrow, _⟩, h3, h4, _, hB⟩ := hI
      rw [hds_length] at hrow
      obtain ⟨A5, c5n, rfl⟩ := own_sln hrow
      have hc5 := hv.cell
      have hc3 := h3.cell
      have HK := Lib.hid hK
      have HR5 := Lib.hid hrow
      have HV := Lib.hid hv
      have H3 := Lib.hid h3
      have H4 := Lib.hid h4
      have HB := Lib.hid hB
      have HD := Lib.hid hD
      have HS := Lib.hid (HS0.out.next (hB.mono (Nat.le_refl _)))
      clear hB2 hol hn hB y3 y4 y5 ho hK hrow hv h3 h4 hD HX HB0 hbw hgd hgl
      gi_wp2
      gi_loopg [8, 9, 10] len1 (fun k x was_ i wr => ∃ (j : Nat) (v : Value), k = len1 - j ∧ j ≤ len1 ∧ x = .int .u64 (hdN x0 zs1 j : Nat) ∧ was_ = v ∧ i = .int .i64 (j : Nat) ∧ WL W x0 zs1 j v wr)
      case atStart => exact ⟨0, _, by omega, by omega, rfl, rfl, rfl, WL.start W x0 zs1⟩
      case round =>
        obtain ⟨j, v, rfl, hj, rfl, rfl, rfl, hr⟩ := hrel
        by_cases hlt : j < len1
        · obtain rfl := HS.out.a (by rw [HZ.out]; omega)
          have hsc := (HS.out.next hr.bl).c j (by rw [HZ.out]; exact hlt)
          obtain ⟨g5, c5', e5, _, hg5, hq5⟩ := row_cells HR5.out (by omega)
          simp only [Value.slice.injEq, true_and] at e5
          obtain ⟨rfl, rfl⟩ := e5
          obtain ⟨gw, cw, rfl, hgw, hgw2, hqw⟩ := row_cells hr.row (by omega)
          have hcw := fun q (hq : q < j + 1) => hqw q _ (was_get x0 zs1 j q hq)
          have hc5 := (Boxed.blw HV.out hr.bl).cell
          have hc3 := (Boxed.blw H3.out hr.bl).cell
          have hcg := hq5 j _ (hds_get x0 zs1 len1 j hlt)
          have HNE := Lib.hid (fun q (hq : q < j + 1) => hdN_ne x0 zs1 hx0 q (j + 1) hq (by omega))
          have RT := Lib.hid (show ∀ W : World, Calls Try.prog 13 #[.int .u64 (hdN x0 zs1 j : Nat), .int .i64 (zs1.getD j 0)] W fun e w' => e = .returned (.int .u64 (hdN x0 zs1 (j + 1) : Nat)) ∧ W = w' from fun W => rhturn_any (hdN x0 zs1 j) (zs1.getD j 0) (hdN_lt x0 zs1 hx0 j) W)
          have ADD := Lib.hid (fun (w2 : World) (v' : Value) h1 h2 => WL.add (w1 := w2) (v' := v') hr h1 h2)
          have EQ := Lib.hid (rfl : hdN x0 zs1 (j + 1) = hdN x0 zs1 (j + 1))
          generalize hnx : hdN x0 zs1 (j + 1) = nx at RT ADD HNE hcg EQ
          generalize hdN x0 zs1 j = h at RT ⊢
          generalize zs1.getD j 0 = z at hsc RT
          have HR := Lib.hid hr
          have HNX := Lib.hid hnx
          have HCW := Lib.hid hcw
          have HCG := Lib.hid hcg
          clear hq5 hqw hr hnx EQ hcw hcg
          gi_wp2_with (refine ⟨trivial, ?_⟩; gi_at_call 13; refine (callsIn_wide.2 (RT.out _)).mono ?_; rintro e w2 ⟨rfl, rfl⟩)
          gi_loopg [11] (j + 1) (fun k kk wr2 => ∃ q : Nat, k = j + 1 - q ∧ q ≤ j + 1 ∧ kk = .int .i64 (q : Nat) ∧ wr2 = wr)
          case atStart => exact ⟨0, by omega, by omega, rfl, rfl⟩
          case round =>
            obtain ⟨q, rfl, hq, rfl, rfl⟩ := hrel
            by_cases hlq : q < j + 1
            · have hcq := HCW.out q hlq
              have hne := HNE.out q hlq
              generalize hdN x0 zs1 q = y at hcq hne
              gi_wp2
              gi_roundg (j + 1 - (q + 1))
              case rel => exact ⟨q + 1, by omega, by omega, by go_num, rfl⟩
              case measure => omega
            · obtain rfl : q = j + 1 := by omega
              gi_wp2_with (gi_at_builtin; refine wpListIn_append_own _ rfl _ _ 32 rfl W.heap.size 22 i0 (.int .u64 0) 1 8 sliceU hi hz0 hz1 hz2 rfl (by decide) _ _ _ rfl (HR.out.row.alloc _) ⟨wr.heap.size, 0, none⟩ 1 1 [.int .u64 (nx : Nat)] rfl rfl (cell_one_new _ _ _) (by simp [Value.oneCell']) (by simp [maxLen]; omega) (by omega) (by have := HR.out.bl.size; simp; omega) ?_; intro v' w2 hown' hgrow _; obtain ⟨g', cap', rfl⟩ := ownsRow_succ hown'; have hW2 := ADD.out _ _ hown' hgrow; have hc5' := (Boxed.blw HV.out hW2.bl).cell; have hcg' := (hW2.bl.cell (p := ⟨g5, j, none⟩) hg5).trans ((HR.out.bl.cell (p := ⟨g5, j, none⟩) hg5).symm.trans ((HR.out.bl.cell (p := ⟨g5, j, none⟩) hg5).trans HCG.out)); have HW2 := Lib.hid hW2; clear hown' hgrow hW2)
              gi_roundg (len1 - (j + 1))
              case rel => exact ⟨j + 1, _, by omega, by omega, by rw [HNX.out], rfl, by go_num, HW2.out⟩
              case measure => omega
        · obtain rfl : j = len1 := by omega
          have hc3 := (Boxed.blw H3.out hr.bl).cell
          have HR := Lib.hid hr
          clear hr
          gi_wp2_with (refine ⟨trivial, ?_⟩; gi_at_call 14; refine (callsIn_wide.2 (AW.out _)).mono ?_; rintro e w2 ⟨rfl, hn⟩; have b2 := HR.out.bl.trans (hn.mono HR.out.bl.size); have y4 := Boxed.blw H4.out b2; have e1 := y4.cell; have e2 := y4.frozen; have HB2 := Lib.hid b2; clear hn b2 y4)
          have hKD : (w2.setCell ⟨w.heap.size + 1, 0, none⟩ (.bool true)).heap[D]? = some (.deferred (some [])) := (Below.heap_setCell _ _ _ _ (by show D ≠ w.heap.size + 1; have := HD.out; omega)).trans ((HB2.out.block D (Array.getElem?_eq_some_iff.1 HK.out).1).trans HK.out)
          have cT : (w2.setCell ⟨w.heap.size + 1, 0, none⟩ (.bool true)).cell? ⟨w.heap.size + 1, 0, none⟩ = some (.bool true) := World.cell?_setCell_same' _ _ _ (by rw [e1]; rfl)
          have cT2 : ((w2.setCell ⟨w.heap.size + 1, 0, none⟩ (.bool true)).putObj D (.deferred none)).cell? ⟨w.heap.size + 1, 0, none⟩ = some (.bool true) := (World.cell?_of_block (a := ⟨w.heap.size + 1, 0, none⟩) (World.putObj_heap_other (by have := HD.out; first | (show w.heap.size + 1 ≠ D; omega) | (show D ≠ w.heap.size + 1; omega)))).trans cT
          have bT := ((HB.out.trans (HB2.out.mono HB.out.size)).setCell (p := ⟨w.heap.size + 1, 0, none⟩) (by show w.heap.size ≤ w.heap.size + 1; omega) (.bool true))
          refine ⟨by simp, .inl ⟨_, _, rfl, run_takeDeferred hKD, ?_⟩⟩
          exact ⟨.bool true, by simp [results, Try.results4, go_sem, cT2], rfl, bT.trans (belowK_b (w := w) (Nat.le_refl _) _ D _ _ (by have := HD.out; omega) hKD rfl rfl)⟩
    case stop =>
      rintro D c pre W _ _ h _
      exact h.elim
  · have hlx : 60 < len1 := by omega
    have B0 := Lib.hid (((tl1 w (.cells #[.slice A1 len1 cap1] 31)).alloc (by simp) (.cells #[.bool false] 4)))
    clear hA1 hc1 hw1 hl1 hm1 w0
    go_enter Try.func4, Try.ntmps4
    go_wp2_with (go_at_call 14; refine (AW.out _).mono ?_; rintro e w1 ⟨rfl, hn⟩; have HN := Lib.hid hn; have e1 := hn.cell (p := ⟨w.heap.size + 1, 0, none⟩) (by simp); have e2 := hn.frozen (p := ⟨w.heap.size + 1, 0, none⟩) (by simp); simp at e1 e2; clear hn)
    exact bodyPost_ret (v := .bool true) (by simp [results, Try.results4, go_sem, e1]) rfl ⟨rfl, (B0.out.trans (HN.out.mono B0.out.size)).setCell (by show w.heap.size ≤ w.heap.size + 1; omega) _⟩

set_option maxRecDepth 100000 in
theorem lifted (os : Os) (started : os.Started) (H : Type) (enc : TypeId × Value → H) :
    ReturnsInHanded {} Try.checked os 4 .any (Rows.hwordTurnsSpec.pre6 enc Try.prog Try.f4 Rows.hwordTurnsRow.domain false) (Rows.hwordTurnsSpec.post enc Try.prog Try.f4 false true false false) := by
  refine returnsInHanded_of_change (C := Try.checked) own started (by kernel_rfl) Try.func4
    (ChangeSpec.witness6 (enc := enc) (C := Try.checked) false ⟨#[], #[.int .u64 0, .slice none 0 0], []⟩ 8 (by kernel_rfl) (by kernel_rfl) (by kernel_rfl) (by kernel_rfl)) ?_
  intro W base args ds gs before hval0 hW hcnd _
  have hval : ∀ (j : Nat) t v, Try.f4.params[j]? = some t → args[j]? = some v → Value.okWide Try.prog W .any base t v := hval0
  have hW' := hW
  obtain ⟨p, q, hA0, hV, rfl, hfz, hnd⟩ := hW
  have hA : DataW.TrodAll enc Try.prog W 0 (fun _ => true) true Try.f4.params.toList args.toList ds p := hA0
  rw [Try.params4] at hA hval
  obtain ⟨v0, vs0, d0, ds0, p0, q0, hargs, rfl, rfl, h0, r0⟩ := trodAll_cons hA
  obtain ⟨v1, vs1, d1, ds1, p1, q1, rfl, rfl, rfl, h1, r1⟩ := trodAll_cons r0
  obtain ⟨rfl, rfl, rfl⟩ := trodAll_nil r1
  obtain rfl : args = #[v0, v1] := by cases args; simp_all
  obtain ⟨rfl, rfl⟩ := trodVars_none hV
  obtain ⟨a0, rfl, rfl, rfl, w0⟩ := open_int Try.underlying22 (hval 0 22 v0 rfl rfl) h0
  obtain ⟨A1, len1, cap1, rfl⟩ := okWide_slice Try.underlying31 (hval 1 31 v1 rfl rfl)
  have k1 := h1
  obtain ⟨b1, off1, zs1, hl1, hm1, hA1, hc1, hw1⟩ := open_slice Try.underlying31 Try.underlying3 cells3 h1
  clear hA0 hval0
  simp only [List.append_nil, List.nil_append] at hW'
  have hlt1 : ∀ x ∈ p1, x.block < W.heap.size := fun x hx => by simpa using hW'.lt x (by simp [hx])
  refine (walk W a0 w0 A1 len1 cap1 b1 off1 zs1 hl1 hm1 hA1 hc1 hw1).mono fun e W' ⟨he, hg⟩ => ?_
  subst he
  exact ⟨_, rfl, post_of_below2 (pv := []) hW' (fun _ _ _ => (trodAll_cons_mk (shut_bool Try.underlying4 _) trodAll_mk0)) (trodAll_cons_mk (shut_int Try.underlying22 w0) (trodAll_cons_mk (Below.trod laidOut (by kernel_rfl) (of_decide_eq_true (by kernel_rfl)) k1 hg hlt1) trodAll_mk0)) rfl (by simp) (hg.frame _)⟩

theorem over : Rows.hwordTurnsRow.holds Try.pinned (OpenSpec.ofChange Rows.hwordTurnsSpec) :=
  OpenClaim.holds_of_wide 4 Try.f4 rfl rfl rfl rfl rfl rfl rfl ⟨rfl, rfl, rfl, rfl, rfl⟩ rfl rfl rfl rfl rfl (by kernel_rfl) Try.func4 (by kernel_rfl)
    (of_decide_eq_true (by kernel_rfl)) (by unfold Func.isWrapper; first | (rw [if_pos (by decide +kernel)]; kernel_rfl) | (rw [if_neg (by decide +kernel)]; exact ⟨rfl, rfl⟩))
    (fun os started H enc _ => lifted os started H enc)

theorem proved : Rows.HwordTurnsSaid :=
  over

#print axioms proved
end Go.Proofs.Ytlaafljigmflkaa.hwordTurns
