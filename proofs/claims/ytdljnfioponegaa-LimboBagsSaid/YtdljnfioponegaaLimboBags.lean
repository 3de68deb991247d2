/- gleaninglaw16.LimboBags: for every input the law returns true, and leaves its arguments as they were. No condition. -/
import Derived.Test.YtdljnfioponegaaRows
import Derived.WalkKit
import Derived.Deep.LoopGhost
import Derived.Test.YtdljnfioponegaaLim5
import Derived.Test.YtdljnfioponegaaTail
import Derived.Test.YtdljnfioponegaaFrame
import Derived.ProofKit
import Derived.OpenShut
namespace Go.Proofs.Ytdljnfioponegaa.limboBags
open Go.ChangeShapes Go.WideShapes Go.ChangeAt Go.RowKit
set_option linter.unusedVariables false

theorem own : ownKnob Try.prog.godebug = none := by kernel_rfl
theorem laidOut : laidOutB Try.prog = true := by kernel_rfl
structure KB (w : World) (g : Nat) (rs : List (Nat × Nat)) (A0 A1 A2 : Option Addr) (p0 p1 p2 b0 b1 b2 : Nat) (W : World) : Prop where
  c0 : W.cell? ⟨g, 0, none⟩ = some (.slice A0 (rs.filter (m3 0)).length p0)
  c1 : W.cell? ⟨g, 1, none⟩ = some (.slice A1 (rs.filter (m3 1)).length p1)
  c2 : W.cell? ⟨g, 2, none⟩ = some (.slice A2 (rs.filter (m3 2)).length p2)
  R0 : RdR W A0 b0 0 (rs.filter (m3 0))
  R1 : RdR W A1 b1 0 (rs.filter (m3 1))
  R2 : RdR W A2 b2 0 (rs.filter (m3 2))
  bl : Below w.heap.size w W
theorem KB.next {w : World} {g : Nat} {rs : List (Nat × Nat)} {A0 A1 A2 : Option Addr} {p0 p1 p2 b0 b1 b2 : Nat} {W W' : World} (h : KB w g rs A0 A1 A2 p0 p1 p2 b0 b1 b2 W) (hn : Below W.heap.size W W') : KB w g rs A0 A1 A2 p0 p1 p2 b0 b1 b2 W' :=
  ⟨(hn.cell (p := ⟨g, 0, none⟩) (World.block_lt_of_cell? W _ h.c0)).trans h.c0, (hn.cell (p := ⟨g, 1, none⟩) (World.block_lt_of_cell? W _ h.c1)).trans h.c1, (hn.cell (p := ⟨g, 2, none⟩) (World.block_lt_of_cell? W _ h.c2)).trans h.c2, h.R0.next hn, h.R1.next hn, h.R2.next hn, h.bl.trans (hn.mono h.bl.size)⟩

set_option maxHeartbeats 4000000 in
theorem walk (w : World) (A0 : Option Addr) (len0 cap0 b0 off0 : Nat) (rs0 : List (Nat × Nat)) (hl0 : rs0.length = len0) (hm0 : len0 ≤ cap0 ∧ len0 ≤ maxLen) (hR0 : RdR w A0 b0 off0 rs0) (hb0 : ∀ r ∈ rs0, r.1 < 18446744073709551616 ∧ r.2 < 18446744073709551616) :
    Calls Try.prog 5 #[.slice A0 len0 cap0] w fun e w' => e = .returned (.bool true) ∧ Below w.heap.size w w' := by
  have AW := Lib.hid awake16_any
  by_cases hlen : (len0 : Int) ≤ 100
  · have hln : len0 ≤ 100 := by omega
    obtain ⟨i0, hi, hz0, hz1, hz2⟩ := info_parts infoR
    have HI := Lib.hid (And.intro hi (And.intro hz0 (And.intro hz1 hz2)))
    clear hi hz0 hz1 hz2
    subst hl0
    have hbg := bags_any rs0 (by omega) hb0 A0 b0 off0 cap0 w hR0
    have B := Lib.hid hbg
    have H1 := Lib.hid hR0
    have BD := Lib.hid hb0
    clear hbg hR0 hb0
    obtain ⟨len0, hN⟩ : ∃ n, n = rs0.length := ⟨_, rfl⟩
    rw [← hN] at hlen hln hm0 B ⊢
    have HN := Lib.hid hN
    clear hN
    go_enter Try.func5, Try.ntmps5
    go_wp2_with (go_at_call 20; refine B.out.mono ?_; rintro e w1 ⟨v0, v1, v2, rfl, o0, o1, o2, hn⟩; obtain ⟨A1, p1, b1, rfl, R1⟩ := RdR.of_own (rs := rs0.filter (m3 0)) o0; obtain ⟨A2, p2, b2, rfl, R2⟩ := RdR.of_own (rs := rs0.filter (m3 1)) o1; obtain ⟨A3, p3, b3, rfl, R3⟩ := RdR.of_own (rs := rs0.filter (m3 2)) o2; have Q1 := Lib.hid R1; have Q2 := Lib.hid R2; have Q3 := Lib.hid R3; have HN1 := Lib.hid hn; clear o0 o1 o2 R1 R2 R3 hn)
    obtain ⟨wl, hwl⟩ : ∃ wl : World, wl = w1.alloc (.cells #[.slice A1 (rs0.filter (m3 0)).length p1, .slice A2 (rs0.filter (m3 1)).length p2, .slice A3 (rs0.filter (m3 2)).length p3] 43) := ⟨_, rfl⟩
    have hk : KB w w1.heap.size rs0 A1 A2 A3 p1 p2 p3 b1 b2 b3 wl := by rw [hwl]; exact ⟨by simp, by simp, by simp, Q1.out.next (bel1 _ _), Q2.out.next (bel1 _ _), Q3.out.next (bel1 _ _), HN1.out.trans ((bel1 _ _).mono HN1.out.size)⟩
    rw [← hwl]
    have HK := Lib.hid hk
    clear hk hwl HN1 B Q1 Q2 Q3
    generalize w1.heap.size = g at HK ⊢
    go_loopg [4] 4 (fun gk i wr => ∃ k : Nat, k ≤ 3 ∧ gk = 4 - k ∧ i = .int .i64 k ∧ KB w g rs0 A1 A2 A3 p1 p2 p3 b1 b2 b3 wr)
    case atStart => exact ⟨0, by omega, by omega, rfl, HK.out⟩
    case round =>
      clear HK
      obtain ⟨k, hk, hgk, rfl, hr⟩ := hrel
      have HR := Lib.hid hr
      clear hr
      rename World => wo
      rcases (by omega : k = 0 ∨ k = 1 ∨ k = 2 ∨ k = 3) with rfl | rfl | rfl | rfl
      · go_wp2
        go_loopg [5, 6] len0 (fun gm v i wr => ∃ m : Nat, m ≤ len0 ∧ gm = len0 - m ∧ i = .int .i64 m ∧ OR wo.heap.size wo v ((rs0.take m).filter (m3 0)) wr)
        case atStart => exact ⟨0, by omega, by omega, rfl, OR.start wo⟩
        case round =>
          obtain ⟨m, hm, hgm, rfl, hr⟩ := hrel
          by_cases hlt : m < len0
          · have hjl : m < rs0.length := by rw [← HN.out]; exact hlt
            obtain rfl := H1.out.a (by omega)
            have hbw := HR.out.bl.trans (hr.bl.mono HR.out.bl.size)
            have k1 := H1.out.next hbw
            have hc0 := k1.c0 m hjl
            have hc1 := k1.c1 m hjl
            have HY := Lib.hid (take_filter_yes (m3 0) rs0 m hjl)
            have HNo := Lib.hid (take_filter_no (m3 0) rs0 m hjl)
            have HF := Lib.hid (filter_le (m3 0) rs0 m)
            clear k1 hjl hbw
            generalize hx : rs0.getD m (0, 0) = r at hc0 hc1 HY HNo
            have HRI := Lib.hid hr
            clear hr hx
            by_cases hq : r.2 % 3 = 0
            · have hyes : ((r.2 : Int) % 3 == 0) = true := by simp; omega
              have HT := Lib.hid (HY.out (by simp [hq]))
              have HU := Lib.hid (HRI.out.alloc HRI.out.size (.cells #[.int .u64 (r.1 : Nat), .int .u64 (r.2 : Nat)] 32))
              clear HY HNo hq HRI
              go_wp2_with (at_builtin; refine wpList_append_own_at _ rfl _ _ 22 rfl wo.heap.size 32 i0 (.agg #[.int .u64 0, .int .u64 0]) 2 16 sliceR HI.out.1 HI.out.2.1 HI.out.2.2.1 HI.out.2.2.2 rfl (by decide) _ _ _ rfl HU.out.own ⟨wr.heap.size, 0, none⟩ 1 1 (recL r) rfl rfl (World.news_of_block (heap_alloc_new wr _)) (by simp [Value.oneCell']) (by have := HF.out; unfold maxLen; omega) (by have := HF.out; omega) HU.out.size ?_; intro v' w2 hown' hgrow hnil hloc; have HR2 := Lib.hid (OR.add HU.out HU.out.size r hown' hgrow); clear hown' hgrow hnil hloc HU)
              go_roundg (len0 - (m + 1))
              case rel => exact ⟨m + 1, by omega, rfl, by go_num, by rw [HT.out]; exact HR2.out⟩
              case measure => omega
            · have hyes : ((r.2 : Int) % 3 == 0) = false := by simp; omega
              have HT := Lib.hid (HNo.out (by simp [hq]))
              clear HY HNo hq
              go_wp2
              go_roundg (len0 - (m + 1))
              case rel => exact ⟨m + 1, by omega, rfl, by go_num, by rw [HT.out]; exact HRI.out⟩
              case measure => omega
          · obtain rfl : m = len0 := by omega
            rw [HN.out, List.take_length] at hr
            have hk2 := HR.out.next hr.bl
            have ck := hk2.c0
            obtain ⟨A4, p4, b4, rfl, R4⟩ := RdR.of_own (rs := rs0.filter (m3 0)) hr.own
            have hs := rsame_any (rs0.filter (m3 0)) (by have := List.length_filter_le (m3 0) rs0; have := HN.out; omega) _ _ _ _ _ _ p1 p4 _ hk2.R0 R4
            have S := Lib.hid hs
            have HK2 := Lib.hid hk2
            clear hs hk2 R4 hr
            go_wp2_with (go_at_call 12; refine S.out.mono ?_; rintro e w3 ⟨rfl, hn⟩; have HK3 := Lib.hid (HK2.out.next hn); clear hn ck)
            go_roundg (4 - (0 + 1))
            case rel => exact ⟨0 + 1, by omega, rfl, by go_num, HK3.out⟩
            case measure => omega
      · go_wp2
        go_loopg [5, 6] len0 (fun gm v i wr => ∃ m : Nat, m ≤ len0 ∧ gm = len0 - m ∧ i = .int .i64 m ∧ OR wo.heap.size wo v ((rs0.take m).filter (m3 1)) wr)
        case atStart => exact ⟨0, by omega, by omega, rfl, OR.start wo⟩
        case round =>
          obtain ⟨m, hm, hgm, rfl, hr⟩ := hrel
          by_cases hlt : m < len0
          · have hjl : m < rs0.length := by rw [← HN.out]; exact hlt
            obtain rfl := H1.out.a (by omega)
            have hbw := HR.out.bl.trans (hr.bl.mono HR.out.bl.size)
            have k1 := H1.out.next hbw
            have hc0 := k1.c0 m hjl
            have hc1 := k1.c1 m hjl
            have HY := Lib.hid (take_filter_yes (m3 1) rs0 m hjl)
            have HNo := Lib.hid (take_filter_no (m3 1) rs0 m hjl)
            have HF := Lib.hid (filter_le (m3 1) rs0 m)
            clear k1 hjl hbw
            generalize hx : rs0.getD m (0, 0) = r at hc0 hc1 HY HNo
            have HRI := Lib.hid hr
            clear hr hx
            by_cases hq : r.2 % 3 = 1
            · have hyes : ((r.2 : Int) % 3 == 1) = true := by simp; omega
              have HT := Lib.hid (HY.out (by simp [hq]))
              have HU := Lib.hid (HRI.out.alloc HRI.out.size (.cells #[.int .u64 (r.1 : Nat), .int .u64 (r.2 : Nat)] 32))
              clear HY HNo hq HRI
              go_wp2_with (at_builtin; refine wpList_append_own_at _ rfl _ _ 22 rfl wo.heap.size 32 i0 (.agg #[.int .u64 0, .int .u64 0]) 2 16 sliceR HI.out.1 HI.out.2.1 HI.out.2.2.1 HI.out.2.2.2 rfl (by decide) _ _ _ rfl HU.out.own ⟨wr.heap.size, 0, none⟩ 1 1 (recL r) rfl rfl (World.news_of_block (heap_alloc_new wr _)) (by simp [Value.oneCell']) (by have := HF.out; unfold maxLen; omega) (by have := HF.out; omega) HU.out.size ?_; intro v' w2 hown' hgrow hnil hloc; have HR2 := Lib.hid (OR.add HU.out HU.out.size r hown' hgrow); clear hown' hgrow hnil hloc HU)
              go_roundg (len0 - (m + 1))
              case rel => exact ⟨m + 1, by omega, rfl, by go_num, by rw [HT.out]; exact HR2.out⟩
              case measure => omega
            · have hyes : ((r.2 : Int) % 3 == 1) = false := by simp; omega
              have HT := Lib.hid (HNo.out (by simp [hq]))
              clear HY HNo hq
              go_wp2
              go_roundg (len0 - (m + 1))
              case rel => exact ⟨m + 1, by omega, rfl, by go_num, by rw [HT.out]; exact HRI.out⟩
              case measure => omega
          · obtain rfl : m = len0 := by omega
            rw [HN.out, List.take_length] at hr
            have hk2 := HR.out.next hr.bl
            have ck := hk2.c1
            obtain ⟨A4, p4, b4, rfl, R4⟩ := RdR.of_own (rs := rs0.filter (m3 1)) hr.own
            have hs := rsame_any (rs0.filter (m3 1)) (by have := List.length_filter_le (m3 1) rs0; have := HN.out; omega) _ _ _ _ _ _ p2 p4 _ hk2.R1 R4
            have S := Lib.hid hs
            have HK2 := Lib.hid hk2
            clear hs hk2 R4 hr
            go_wp2_with (go_at_call 12; refine S.out.mono ?_; rintro e w3 ⟨rfl, hn⟩; have HK3 := Lib.hid (HK2.out.next hn); clear hn ck)
            go_roundg (4 - (1 + 1))
            case rel => exact ⟨1 + 1, by omega, rfl, by go_num, HK3.out⟩
            case measure => omega
      · go_wp2
        go_loopg [5, 6] len0 (fun gm v i wr => ∃ m : Nat, m ≤ len0 ∧ gm = len0 - m ∧ i = .int .i64 m ∧ OR wo.heap.size wo v ((rs0.take m).filter (m3 2)) wr)
        case atStart => exact ⟨0, by omega, by omega, rfl, OR.start wo⟩
        case round =>
          obtain ⟨m, hm, hgm, rfl, hr⟩ := hrel
          by_cases hlt : m < len0
          · have hjl : m < rs0.length := by rw [← HN.out]; exact hlt
            obtain rfl := H1.out.a (by omega)
            have hbw := HR.out.bl.trans (hr.bl.mono HR.out.bl.size)
            have k1 := H1.out.next hbw
            have hc0 := k1.c0 m hjl
            have hc1 := k1.c1 m hjl
            have HY := Lib.hid (take_filter_yes (m3 2) rs0 m hjl)
            have HNo := Lib.hid (take_filter_no (m3 2) rs0 m hjl)
            have HF := Lib.hid (filter_le (m3 2) rs0 m)
            clear k1 hjl hbw
            generalize hx : rs0.getD m (0, 0) = r at hc0 hc1 HY HNo
            have HRI := Lib.hid hr
            clear hr hx
            by_cases hq : r.2 % 3 = 2
            · have hyes : ((r.2 : Int) % 3 == 2) = true := by simp; omega
              have HT := Lib.hid (HY.out (by simp [hq]))
              have HU := Lib.hid (HRI.out.alloc HRI.out.size (.cells #[.int .u64 (r.1 : Nat), .int .u64 (r.2 : Nat)] 32))
              clear HY HNo hq HRI
              go_wp2_with (at_builtin; refine wpList_append_own_at _ rfl _ _ 22 rfl wo.heap.size 32 i0 (.agg #[.int .u64 0, .int .u64 0]) 2 16 sliceR HI.out.1 HI.out.2.1 HI.out.2.2.1 HI.out.2.2.2 rfl (by decide) _ _ _ rfl HU.out.own ⟨wr.heap.size, 0, none⟩ 1 1 (recL r) rfl rfl (World.news_of_block (heap_alloc_new wr _)) (by simp [Value.oneCell']) (by have := HF.out; unfold maxLen; omega) (by have := HF.out; omega) HU.out.size ?_; intro v' w2 hown' hgrow hnil hloc; have HR2 := Lib.hid (OR.add HU.out HU.out.size r hown' hgrow); clear hown' hgrow hnil hloc HU)
              go_roundg (len0 - (m + 1))
              case rel => exact ⟨m + 1, by omega, rfl, by go_num, by rw [HT.out]; exact HR2.out⟩
              case measure => omega
            · have hyes : ((r.2 : Int) % 3 == 2) = false := by simp; omega
              have HT := Lib.hid (HNo.out (by simp [hq]))
              clear HY HNo hq
              go_wp2
              go_roundg (len0 - (m + 1))
              case rel => exact ⟨m + 1, by omega, rfl, by go_num, by rw [HT.out]; exact HRI.out⟩
              case measure => omega
          · obtain rfl : m = len0 := by omega
            rw [HN.out, List.take_length] at hr
            have hk2 := HR.out.next hr.bl
            have ck := hk2.c2
            obtain ⟨A4, p4, b4, rfl, R4⟩ := RdR.of_own (rs := rs0.filter (m3 2)) hr.own
            have hs := rsame_any (rs0.filter (m3 2)) (by have := List.length_filter_le (m3 2) rs0; have := HN.out; omega) _ _ _ _ _ _ p3 p4 _ hk2.R2 R4
            have S := Lib.hid hs
            have HK2 := Lib.hid hk2
            clear hs hk2 R4 hr
            go_wp2_with (go_at_call 12; refine S.out.mono ?_; rintro e w3 ⟨rfl, hn⟩; have HK3 := Lib.hid (HK2.out.next hn); clear hn ck)
            go_roundg (4 - (2 + 1))
            case rel => exact ⟨2 + 1, by omega, rfl, by go_num, HK3.out⟩
            case measure => omega
      · go_wp2_with (go_at_call 7; refine (AW.out _).mono ?_; rintro e w4 ⟨rfl, hn⟩)
        go_ret
        exact ⟨rfl, HR.out.bl.trans (hn.mono HR.out.bl.size)⟩
  · have h20 : 100 < (len0 : Int) := by omega
    clear hlen hR0 hb0
    go_enter Try.func5, Try.ntmps5
    go_wp2_with (go_at_call 7; refine (AW.out _).mono ?_; rintro e un ⟨rfl, hn⟩)
    go_ret
    exact ⟨rfl, hn⟩

set_option maxRecDepth 100000 in
theorem lifted (os : Os) (started : os.Started) (H : Type) (enc : TypeId × Value → H) :
    ReturnsInHanded {} Try.checked os 5 .any (Rows.limboBagsSpec.pre6 enc Try.prog Try.f5 Rows.limboBagsRow.domain false) (Rows.limboBagsSpec.post enc Try.prog Try.f5 false true false false) := by
  refine returnsInHanded_of_change (C := Try.checked) own started (by kernel_rfl) Try.func5
    (ChangeSpec.witness6 (enc := enc) (C := Try.checked) false ⟨#[], #[.slice none 0 0], []⟩ 8 (by kernel_rfl) (by kernel_rfl) (by kernel_rfl) (by kernel_rfl)) ?_
  intro W base args ds gs before hval0 hW hcnd _
  have hval : ∀ (j : Nat) t v, Try.f5.params[j]? = some t → args[j]? = some v → Value.okWide Try.prog W .any base t v := hval0
  have hW' := hW
  obtain ⟨p, q, hA0, hV, rfl, hfz, hnd⟩ := hW
  have hA : DataW.TrodAll enc Try.prog W 0 (fun _ => true) true Try.f5.params.toList args.toList ds p := hA0
  rw [Try.params5] at hA hval
  obtain ⟨v0, vs0, d0, ds0, p0, q0, hargs, rfl, rfl, h0, r0⟩ := trodAll_cons hA
  obtain ⟨rfl, rfl, rfl⟩ := trodAll_nil r0
  obtain rfl : args = #[v0] := by cases args; simp_all
  obtain ⟨rfl, rfl⟩ := trodVars_none hV
  obtain ⟨A0, len0, cap0, rfl⟩ := okWide_slice Try.underlying22 (hval 0 22 v0 rfl rfl)
  have k0 := h0
  obtain ⟨b0, off0, rs0, hl0, hm0, hR0, hb0⟩ := open_pairs Try.underlying22 Try.underlying32 (by kernel_rfl) rfl rfl (by kernel_rfl) (by kernel_rfl) Try.underlying23 Try.underlying23 h0
  clear hA0 hval0
  simp only [List.append_nil] at hW'
  have hlt0 : ∀ x ∈ p0, x.block < W.heap.size := fun x hx => by simpa using hW'.lt x (by simp [hx])
  refine (walk W A0 len0 cap0 b0 off0 rs0 hl0 hm0 hR0 hb0).mono fun e W' ⟨he, hg⟩ => ?_
  subst he
  exact ⟨_, rfl, post_of_below2 (pv := []) hW' (fun _ _ _ => (trodAll_cons_mk (shut_bool Try.underlying4 _) trodAll_mk0)) (trodAll_cons_mk (Below.trod laidOut (by kernel_rfl) (of_decide_eq_true (by kernel_rfl)) k0 hg hlt0) trodAll_mk0) rfl (by simp) (hg.frame _)⟩

theorem over : Rows.limboBagsRow.holds Try.pinned (OpenSpec.ofChange Rows.limboBagsSpec) :=
  OpenClaim.holds_of_wide 5 Try.f5 rfl rfl rfl rfl rfl rfl rfl ⟨rfl, rfl, rfl, rfl, rfl⟩ rfl rfl rfl rfl rfl (by kernel_rfl) Try.func5 (by kernel_rfl)
    (of_decide_eq_true (by kernel_rfl)) (by unfold Func.isWrapper; first | (rw [if_pos (by decide +kernel)]; kernel_rfl) | (rw [if_neg (by decide +kernel)]; exact ⟨rfl, rfl⟩))
    (fun os started H enc _ => lifted os started H enc)

theorem proved : Rows.LimboBagsSaid :=
  over

#print axioms proved
end Go.Proofs.Ytdljnfioponegaa.limboBags
