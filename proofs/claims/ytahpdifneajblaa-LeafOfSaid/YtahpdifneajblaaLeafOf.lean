/- gleaninglaw12.LeafOf: for every input the law returns true, and leaves its arguments as they were. No condition. -/
import Derived.Test.YtahpdifneajblaaRows
import Derived.WalkKit
import Derived.Deep.LoopGhost
import Derived.Deep.RegionHeld3
import Derived.Test.YtahpdifneajblaaLeaf6
import Derived.Test.YtahpdifneajblaaTail
import Derived.Test.YtahpdifneajblaaFrame
import Derived.ProofKit
import Derived.OpenShut
namespace Go.Proofs.Ytahpdifneajblaa.leafOf
open Go.ChangeShapes Go.WideShapes Go.ChangeAt Go.RowKit
set_option linter.unusedVariables false

theorem own : ownKnob Try.prog.godebug = none := by kernel_rfl
theorem laidOut : laidOutB Try.prog = true := by kernel_rfl
attribute [local go_sem ↓] Go.wp_at_zero Go.wp_at_succ

set_option maxHeartbeats 4000000 in
theorem walk (w : World) (a0 : Int) (w0 : (Lit.int .u64 a0).wf = true) (A1 : Option Addr) (len1 cap1 b1 off1 : Nat) (rs1 : List (Nat × Nat)) (hl1 : rs1.length = len1) (hm1 : len1 ≤ cap1 ∧ len1 ≤ maxLen) (hR1 : RdR w A1 b1 off1 rs1) (hb1 : ∀ r ∈ rs1, r.1 < 18446744073709551616 ∧ r.2 < 18446744073709551616) :
    Calls Try.prog 7 #[.int .u64 a0, .slice A1 len1 cap1] w fun e w' => e = .returned (.bool true) ∧ Below w.heap.size w w' := by
  have AW := Lib.hid awake12_any
  obtain ⟨link, rfl⟩ : ∃ x : Nat, a0 = x := ⟨a0.toNat, by have := u64_lo w0; omega⟩
  clear w0 hb1
  by_cases hlen : (len1 : Int) ≤ 60
  · have hln : len1 ≤ 60 := by omega
    obtain ⟨i0, hi, hz0, hz1, hz2⟩ := info_parts infoW
    have HI := Lib.hid (And.intro hi (And.intro hz0 (And.intro hz1 hz2)))
    clear hi hz0 hz1 hz2
    obtain ⟨ks0, hks⟩ : ∃ l, rs1.map Prod.fst = l := ⟨_, rfl⟩
    obtain ⟨vs0, hvs⟩ : ∃ l, rs1.map Prod.snd = l := ⟨_, rfl⟩
    have L1 := Lib.hid (show ks0.length = rs1.length by rw [← hks]; simp)
    have L2 := Lib.hid (show vs0.length = rs1.length by rw [← hvs]; simp)
    have HKS := Lib.hid hks
    have HVS := Lib.hid hvs
    obtain ⟨r, hr⟩ := ris_of ks0
    have HRR := Lib.hid hr
    have OF := Lib.hid (fun W' h => of_any link rs1 (by omega) ks0 vs0 hks hvs r hr A1 b1 off1 cap1 W' h)
    rw [hl1] at OF
    have HN := Lib.hid hl1
    have H1 := Lib.hid hR1
    have H0 := Lib.hid (show GM (w.heap.size + 1) w.heap.size w link [] [] (.slice none 0 0) (.slice none 0 0) (w.alloc (.cells #[.bool false, .slice none 0 0, .slice none 0 0, .int .u64 (link : Nat)] 25)) from ⟨by simp, by simp, by simp, by simp, fun i => by simp, World.ownsRow_nil _ _ _ _, World.ownsRow_nil _ _ _ _, nl1 _ _, by omega, by simp, by omega, fun k e => by simp [Value.ownBlock] at e⟩)
    clear hR1 hr hl1 hks hvs
    go_enter Try.func7, Try.ntmps7
    go_wp2
    go_loopg [6] len1 (fun g i wr => ∃ (j : Nat) (v1 v2 : Value), j ≤ len1 ∧ g = len1 - j ∧ i = .int .i64 j ∧ GM (w.heap.size + 1) w.heap.size w link ((rs1.take j).map Prod.fst) ((rs1.take j).map Prod.snd) v1 v2 wr)
    case atStart => exact ⟨0, _, _, by omega, by omega, rfl, H0.out⟩
    case round =>
      clear H0
      obtain ⟨j, v1, v2, hj, hg, rfl, hr⟩ := hrel
      by_cases hlt : j < len1
      · have hjl : j < rs1.length := by rw [HN.out]; exact hlt
        obtain rfl := H1.out.a (by omega)
        have T1 := Lib.hid (map_take (f := Prod.fst) rs1 j hjl)
        have T2 := Lib.hid (map_take (f := Prod.snd) rs1 j hjl)
        have F1 := Lib.hid (show ((rs1.take j).map Prod.fst).length ≤ 100 by simp; omega)
        have F2 := Lib.hid (show ((rs1.take j).map Prod.snd).length ≤ 100 by simp; omega)
        have p0 := (H1.out.next hr.bl).c0 j hjl
        have PQ := Lib.hid (fun W' h => (H1.out.next (W' := W') h).c1 j hjl)
        clear hjl
        generalize rs1.getD j (0, 0) = r1 at p0 PQ T1 T2
        obtain ⟨x, y⟩ := r1
        generalize ((rs1.take j).map Prod.fst) = ks at hr T1 F1
        generalize ((rs1.take j).map Prod.snd) = vs at hr T2 F2
        have cka := hr.c1
        have fka := hr.fz 1
        have sza := hr.sz
        have gba := hr.gB
        have HGa := Lib.hid (hr.drew.next (nl1 wr.drew (.cells #[.int .u64 (x : Nat)] 23)))
        have HWa : RowKit.Hid ((wr.drew.alloc (.cells #[.int .u64 (x : Nat)] 23)).heap[wr.heap.size]? = some (.cells #[.int .u64 (x : Nat)] 23)) := Lib.hid (heap_alloc_new wr.drew (.cells #[.int .u64 (x : Nat)] 23))
        have e1a : wr.heap.size ≠ w.heap.size := by omega
        have e2a : w.heap.size ≠ wr.heap.size := by omega
        have e3a : w.heap.size < wr.heap.size := by omega
        have e4a := World.new_ne wr _ cka
        have n0a := World.new_ne wr _ p0
        clear hr sza gba
        go_wp2
        go_region_law
          ((refine step_append_lies _ (by rfl) _ _ 22 (by rfl) (w.heap.size + 1) 23 i0 (.int .u64 0) 1 8 sliceW HI.out.1 HI.out.2.1 HI.out.2.2.1 HI.out.2.2.2 rfl (by omega) v1 _ _ (by rfl) (HGa.out.o1) ⟨wr.heap.size, 0, none⟩ 1 1 [.int .u64 (x : Nat)] (by rfl) (by rfl) (World.news_of_block HWa.out) (by simp [Value.oneCell']) (by omega) (by have := F1.out; unfold maxLen; omega) (by have := F1.out; omega) HGa.out.sz (wr.heap.size + 1) (by simp) ?_; intro gg cap w1 hown hgrow hat hlt; have hG := GM.add1 HGa.out x hown hgrow (by rcases hat with e | e; exact .inl (show some gg = _ from e.symm); exact .inr (show some gg = some _ by rw [e]; simp)); have caa := hG.1; have cba := hG.2.1; have fca := hG.2.2.1; have HXa := Lib.hid hG.2.2.2; clear hG hown hgrow hat hlt))
        all_goals (
          obtain ⟨wm, hwa⟩ : ∃ z : World, z = w1.setCell ⟨w.heap.size, 1, none⟩ (.slice (some ⟨gg, 0, none⟩) (ks.length + 1) cap) := ⟨_, rfl⟩
          have hwm := HXa.out
          rw [← hwa] at hwm ⊢
          clear hwa HXa caa cba fca
          clear p0 n0a cka fka e1a e2a e3a e4a HGa HWa
          generalize (Value.slice (some ⟨gg, 0, none⟩) (ks.length + 1) cap) = v3 at hwm
          have p1 := PQ.out _ hwm.bl
          clear PQ
          have ckb := hwm.c2
          have fkb := hwm.fz 2
          have szb := hwm.sz
          have gbb := hwm.gB
          have HGb := Lib.hid (hwm.drew.next (nl1 wm.drew (.cells #[.int .u64 (y : Nat)] 23)))
          have HWb : RowKit.Hid ((wm.drew.alloc (.cells #[.int .u64 (y : Nat)] 23)).heap[wm.heap.size]? = some (.cells #[.int .u64 (y : Nat)] 23)) := Lib.hid (heap_alloc_new wm.drew (.cells #[.int .u64 (y : Nat)] 23))
          have e1b : wm.heap.size ≠ w.heap.size := by omega
          have e2b : w.heap.size ≠ wm.heap.size := by omega
          have e3b : w.heap.size < wm.heap.size := by omega
          have e4b := World.new_ne wm _ ckb
          have n0b := World.new_ne wm _ p1
          clear hwm szb gbb
          go_wp2
          go_region_law
            ((refine step_append_lies _ (by rfl) _ _ 22 (by rfl) (w.heap.size + 1) 23 i0 (.int .u64 0) 1 8 sliceW HI.out.1 HI.out.2.1 HI.out.2.2.1 HI.out.2.2.2 rfl (by omega) v2 _ _ (by rfl) (HGb.out.o2) ⟨wm.heap.size, 0, none⟩ 1 1 [.int .u64 (y : Nat)] (by rfl) (by rfl) (World.news_of_block HWb.out) (by simp [Value.oneCell']) (by omega) (by have := F2.out; unfold maxLen; omega) (by have := F2.out; omega) HGb.out.sz (wm.heap.size + 1) (by simp) ?_; intro gg2 cap2 w2 hown hgrow hat hlt; have hG := GM.add2 HGb.out y hown hgrow (by rcases hat with e | e; exact .inl (show some gg2 = _ from e.symm); exact .inr (show some gg2 = some _ by rw [e]; simp)); have cab := hG.1; have cbb := hG.2.1; have fcb := hG.2.2.1; have HXb := Lib.hid hG.2.2.2; clear hG hown hgrow hat hlt))
          all_goals (
            obtain ⟨wn, hwb⟩ : ∃ z : World, z = w2.setCell ⟨w.heap.size, 2, none⟩ (.slice (some ⟨gg2, 0, none⟩) (vs.length + 1) cap2) := ⟨_, rfl⟩
            have hwn := HXb.out
            rw [← hwb] at hwn ⊢
            clear hwb HXb cab cbb fcb
            have HWN := Lib.hid hwn
            clear hwn
            go_wp2
            go_roundg (len1 - (j + 1))
            case rel => exact ⟨j + 1, _, _, by omega, rfl, by go_num, by rw [T1.out, T2.out]; exact HWN.out⟩
            case measure => omega))
      · obtain rfl : j = len1 := by omega
        rw [← HN.out, List.take_length, HKS.out, HVS.out] at hr
        obtain ⟨B1, d1, rfl, Q1⟩ := RL.of_own hr.o1
        obtain ⟨B2, d2, rfl, Q2⟩ := RL.of_own hr.o2
        have c0 := hr.c0
        have c1 := hr.c1
        have c2 := hr.c2
        have c3 := hr.c3
        have S0 := Lib.hid (show NS w ⟨false, ks0, vs0, link, B1, d1, B2, d2⟩ rs1 A1 b1 off1 wr from ⟨⟨c0, c1, c2, c3, hr.fz⟩, ⟨Q1, Q2⟩, H1.out.next hr.bl, hr.bl⟩)
        have RT := Lib.hid (rright_any ⟨false, ks0, vs0, link, B1, d1, B2, d2⟩ (by have := L1.out; have := HN.out; show ks0.length ≤ _; omega) r (by rw [HRR.out]; exact ⟨fun h => ⟨rfl, by show ks0.length = vs0.length; rw [L1.out, L2.out], h⟩, fun h => h.2.2⟩) wr ⟨Q1, Q2⟩)
        clear hr Q1 Q2 HRR
        cases r with
        | true =>
          go_wp2_with (go_at_call 13; refine RT.out.mono ?_; rintro e w1 ⟨rfl, hn⟩; have HS := Lib.hid (S0.out.next hn); clear hn c0 c1 c2 c3 S0 RT)
          have hs := NS.all (w := w) (rs := rs1) (A := A1) (b := b1) (off := off1) HS.out.drew
          go_region_held3 (fun w' => w'.cell? ⟨w.heap.size, 0, none⟩ = some (.bool (⟨false, ks0, vs0, link, B1, d1, B2, d2⟩ : Nd).inner) ∧ w'.cell? ⟨w.heap.size, 1, none⟩ = some (.slice (⟨false, ks0, vs0, link, B1, d1, B2, d2⟩ : Nd).A1 (⟨false, ks0, vs0, link, B1, d1, B2, d2⟩ : Nd).ks.length (⟨false, ks0, vs0, link, B1, d1, B2, d2⟩ : Nd).c1) ∧ w'.cell? ⟨w.heap.size, 2, none⟩ = some (.slice (⟨false, ks0, vs0, link, B1, d1, B2, d2⟩ : Nd).A2 (⟨false, ks0, vs0, link, B1, d1, B2, d2⟩ : Nd).vs.length (⟨false, ks0, vs0, link, B1, d1, B2, d2⟩ : Nd).c2) ∧ w'.cell? ⟨w.heap.size, 3, none⟩ = some (.int .u64 ((⟨false, ks0, vs0, link, B1, d1, B2, d2⟩ : Nd).link : Nat)) ∧ NS w (⟨false, ks0, vs0, link, B1, d1, B2, d2⟩ : Nd) rs1 A1 b1 off1 w') (first | with_reducible exact hs | exact hs)
            (first
              | (go_at_call 25; refine (OF.out _ (NS.of (w := w) (x := (⟨false, ks0, vs0, link, B1, d1, B2, d2⟩ : Nd)) (rs := rs1) (A := A1) (b := b1) (off := off1) (by assumption)).l).mono ?_; rintro e k1 ⟨y, rfl, hy, hn, p1, p2, p3⟩; have hs := NS.all ((NS.of (w := w) (x := (⟨false, ks0, vs0, link, B1, d1, B2, d2⟩ : Nd)) (rs := rs1) (A := A1) (b := b1) (off := off1) (by assumption)).next hn); have hp := p2 (by first | rfl | trivial); have P1 := Lib.hid p1; have P2 := Lib.hid hp; clear hn p1 p2 p3 hp)
              | (go_at_call 15; refine (same_any y (⟨false, ks0, vs0, link, B1, d1, B2, d2⟩ : Nd) (by have e := P2.out.1; have := L1.out; have := HN.out; rw [e]; omega) (by have e := P2.out.2.1; have := L2.out; have := HN.out; rw [e]; omega) P1.out P2.out.1 P2.out.2.1 P2.out.2.2 _ hy (NS.of (w := w) (x := (⟨false, ks0, vs0, link, B1, d1, B2, d2⟩ : Nd)) (rs := rs1) (A := A1) (b := b1) (off := off1) (by assumption)).r).mono ?_; rintro e k2 ⟨rfl, hn⟩; have hs := NS.all ((NS.of (w := w) (x := (⟨false, ks0, vs0, link, B1, d1, B2, d2⟩ : Nd)) (rs := rs1) (A := A1) (b := b1) (off := off1) (by assumption)).next hn); clear hn)
              | (go_at_call 9; refine (AW.out _).mono ?_; rintro e k3 ⟨rfl, hn⟩; have hs := NS.all ((NS.of (w := w) (x := (⟨false, ks0, vs0, link, B1, d1, B2, d2⟩ : Nd)) (rs := rs1) (A := A1) (b := b1) (off := off1) (by assumption)).next hn); clear hn))
          all_goals (
            have BL := Lib.hid (NS.of (w := w) (x := (⟨false, ks0, vs0, link, B1, d1, B2, d2⟩ : Nd)) (rs := rs1) (A := A1) (b := b1) (off := off1) hs).bl
            clear hs
            go_wp2
            go_ret
            exact ⟨rfl, BL.out⟩)
        | false =>
          go_wp2_with (go_at_call 13; refine RT.out.mono ?_; rintro e w1 ⟨rfl, hn⟩; have HS0 := Lib.hid (S0.out.next hn); clear hn c0 c1 c2 c3 S0 RT; have c0 := HS0.out.n.c0; have c1 := HS0.out.n.c1; have c2 := HS0.out.n.c2; have c3 := HS0.out.n.c3; have fz := HS0.out.n.fz)
          obtain ⟨w2, hw2⟩ : ∃ z : World, z = (((w1.setCell ⟨w.heap.size, 0, none⟩ (.bool false)).setCell ⟨w.heap.size, 1, none⟩ (.slice none 0 0)).setCell ⟨w.heap.size, 2, none⟩ (.slice none 0 0)).setCell ⟨w.heap.size, 3, none⟩ (.int .u64 0) := ⟨_, rfl⟩
          have hs2 : NS w Nd.zero rs1 A1 b1 off1 w2 := by rw [hw2]; exact HS0.out.zeroed H1.out
          rw [← hw2]
          have HS := Lib.hid hs2
          clear hs2 hw2 HS0 c0 c1 c2 c3 fz
          have hs := NS.all (w := w) (rs := rs1) (A := A1) (b := b1) (off := off1) HS.out.drew
          go_region_held3 (fun w' => w'.cell? ⟨w.heap.size, 0, none⟩ = some (.bool Nd.zero.inner) ∧ w'.cell? ⟨w.heap.size, 1, none⟩ = some (.slice Nd.zero.A1 Nd.zero.ks.length Nd.zero.c1) ∧ w'.cell? ⟨w.heap.size, 2, none⟩ = some (.slice Nd.zero.A2 Nd.zero.vs.length Nd.zero.c2) ∧ w'.cell? ⟨w.heap.size, 3, none⟩ = some (.int .u64 (Nd.zero.link : Nat)) ∧ NS w Nd.zero rs1 A1 b1 off1 w') (first | with_reducible exact hs | exact hs)
            (first
              | (go_at_call 25; refine (OF.out _ (NS.of (w := w) (x := Nd.zero) (rs := rs1) (A := A1) (b := b1) (off := off1) (by assumption)).l).mono ?_; rintro e k1 ⟨y, rfl, hy, hn, p1, p2, p3⟩; have hs := NS.all ((NS.of (w := w) (x := Nd.zero) (rs := rs1) (A := A1) (b := b1) (off := off1) (by assumption)).next hn); have hp := p3 (by first | rfl | trivial); have P1 := Lib.hid p1; have P2 := Lib.hid hp; clear hn p1 p2 p3 hp)
              | (go_at_call 15; refine (same_any y Nd.zero (by have e := P2.out.1; rw [e]; simp) (by have e := P2.out.2.1; rw [e]; simp) P1.out P2.out.1 P2.out.2.1 P2.out.2.2 _ hy (NS.of (w := w) (x := Nd.zero) (rs := rs1) (A := A1) (b := b1) (off := off1) (by assumption)).r).mono ?_; rintro e k2 ⟨rfl, hn⟩; have hs := NS.all ((NS.of (w := w) (x := Nd.zero) (rs := rs1) (A := A1) (b := b1) (off := off1) (by assumption)).next hn); clear hn)
              | (go_at_call 9; refine (AW.out _).mono ?_; rintro e k3 ⟨rfl, hn⟩; have hs := NS.all ((NS.of (w := w) (x := Nd.zero) (rs := rs1) (A := A1) (b := b1) (off := off1) (by assumption)).next hn); clear hn))
          all_goals (
            have BL := Lib.hid (NS.of (w := w) (x := Nd.zero) (rs := rs1) (A := A1) (b := b1) (off := off1) hs).bl
            clear hs
            go_wp2
            go_ret
            exact ⟨rfl, BL.out⟩)
  · have h20 : 60 < (len1 : Int) := by omega
    have B1 := Lib.hid (Below.refl w.heap.size w)
    go_enter Try.func7, Try.ntmps7
    go_wp2_with (go_at_call 9; refine (AW.out _).mono ?_; rintro e un ⟨rfl, hn⟩)
    go_ret
    exact ⟨rfl, hn⟩

set_option maxRecDepth 100000 in
theorem lifted (os : Os) (started : os.Started) (H : Type) (enc : TypeId × Value → H) :
    ReturnsInHanded {} Try.checked os 7 .any (Rows.leafOfSpec.pre6 enc Try.prog Try.f7 Rows.leafOfRow.domain false) (Rows.leafOfSpec.post enc Try.prog Try.f7 false true false false) := by
  refine returnsInHanded_of_change (C := Try.checked) own started (by kernel_rfl) Try.func7
    (ChangeSpec.witness6 (enc := enc) (C := Try.checked) false ⟨#[], #[.int .u64 0, .slice none 0 0], []⟩ 8 (by kernel_rfl) (by kernel_rfl) (by kernel_rfl) (by kernel_rfl)) ?_
  intro W base args ds gs before hval0 hW hcnd _
  have hval : ∀ (j : Nat) t v, Try.f7.params[j]? = some t → args[j]? = some v → Value.okWide Try.prog W .any base t v := hval0
  have hW' := hW
  obtain ⟨p, q, hA0, hV, rfl, hfz, hnd⟩ := hW
  have hA : DataW.TrodAll enc Try.prog W 0 (fun _ => true) true Try.f7.params.toList args.toList ds p := hA0
  rw [Try.params7] at hA hval
  obtain ⟨v0, vs0, d0, ds0, p0, q0, hargs, rfl, rfl, h0, r0⟩ := trodAll_cons hA
  obtain ⟨v1, vs1, d1, ds1, p1, q1, rfl, rfl, rfl, h1, r1⟩ := trodAll_cons r0
  obtain ⟨rfl, rfl, rfl⟩ := trodAll_nil r1
  obtain rfl : args = #[v0, v1] := by cases args; simp_all
  obtain ⟨rfl, rfl⟩ := trodVars_none hV
  obtain ⟨a0, rfl, rfl, rfl, w0⟩ := open_int Try.underlying23 (hval 0 23 v0 rfl rfl) h0
  obtain ⟨A1, len1, cap1, rfl⟩ := okWide_slice Try.underlying43 (hval 1 43 v1 rfl rfl)
  have k1 := h1
  obtain ⟨b1, off1, rs1, hl1, hm1, hR1, hb1⟩ := open_pairs Try.underlying43 Try.underlying46 (by kernel_rfl) rfl rfl (by kernel_rfl) (by kernel_rfl) Try.underlying23 Try.underlying23 h1
  clear hA0 hval0
  simp only [List.append_nil, List.nil_append] at hW'
  have hlt1 : ∀ x ∈ p1, x.block < W.heap.size := fun x hx => by simpa using hW'.lt x (by simp [hx])
  refine (walk W a0 w0 A1 len1 cap1 b1 off1 rs1 hl1 hm1 hR1 hb1).mono fun e W' ⟨he, hg⟩ => ?_
  subst he
  exact ⟨_, rfl, post_of_below2 (pv := []) hW' (fun _ _ _ => (trodAll_cons_mk (shut_bool Try.underlying4 _) trodAll_mk0)) (trodAll_cons_mk (shut_int Try.underlying23 w0) (trodAll_cons_mk (Below.trod laidOut (by kernel_rfl) (of_decide_eq_true (by kernel_rfl)) k1 hg hlt1) trodAll_mk0)) rfl (by simp) (hg.frame _)⟩

theorem over : Rows.leafOfRow.holds Try.pinned (OpenSpec.ofChange Rows.leafOfSpec) :=
  OpenClaim.holds_of_wide 7 Try.f7 rfl rfl rfl rfl rfl rfl rfl ⟨rfl, rfl, rfl, rfl, rfl⟩ rfl rfl rfl rfl rfl (by kernel_rfl) Try.func7 (by kernel_rfl)
    (of_decide_eq_true (by kernel_rfl)) (by unfold Func.isWrapper; first | (rw [if_pos (by decide +kernel)]; kernel_rfl) | (rw [if_neg (by decide +kernel)]; exact ⟨rfl, rfl⟩))
    (fun os started H enc _ => lifted os started H enc)

theorem proved : Rows.LeafOfSaid :=
  over

#print axioms proved
end Go.Proofs.Ytahpdifneajblaa.leafOf
