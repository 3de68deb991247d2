/- gleaningref18.Took where a thread is evicted (s). -/
import Derived.Test.YthcmgagmbioofaaDoorAdv6
namespace Go.Proofs.YthcmgagmbioofaaDoor
set_option linter.unusedVariables false
open Go.RowKit Go.Extern.Stop Go.Stop Go.Extern
set_option maxRecDepth 100000 in
set_option maxHeartbeats 6000000 in
theorem rtook_4s (s t f l p : Int) (own oc ep wd ju : Int) (th : Nat) (cap g : Nat) (L : List Int) (h1 : th < 64) (hL : L.length ≤ 64) (hne : 0 < L.length) (W : World) (hc : ∀ j, j < L.length → W.cell? ⟨g, j, none⟩ = some (.int .i64 (L.getD j 0))) :
    Calls Tryd.prog 18 #[cfgV s t f l p, rdV ⟨own, 4, oc, ep, (th : Nat), wd, (some ⟨g, 0, none⟩), cap, L, ju⟩, .int .u64 1] W fun e w' => ∃ A' c', e = .returned (rdV (Rd.next t ⟨own, 4, oc, ep, (th : Nat), wd, A', c', (L ++ [((th : Nat) : Int)]), (th : Nat)⟩ (th + 1))) ∧ w'.ownsRow W.heap.size 3 1 (.slice A' (L ++ [((th : Nat) : Int)]).length c') (L ++ [((th : Nat) : Int)]).length (ivs (L ++ [((th : Nat) : Int)])) ∧ Below W.heap.size W w' := by
  obtain ⟨i0, hi, hz0, hz1, hz2⟩ := info_parts infoI
  have HI := Lib.hid (And.intro hi (And.intro hz0 (And.intro hz1 hz2)))
  have HK := Lib.hid (KT.start W s t f l p ⟨own, 4, oc, ep, (th : Nat), wd, (some ⟨g, 0, none⟩), cap, L, -1⟩)
  have T := Lib.hid (fun (y : Rd) (W : World) => rnext_any s t f l p y (th + 1) (by omega) (by omega) W)
  have HC := Lib.hid hc
  have hwr : wrap64 ((th : Int) + 1) = th + 1 := IntWalk.wrap64_in _ ⟨by omega, by omega⟩
  clear hi hz0 hz1 hz2 hc
  go_enter Tryd.func18, Tryd.ntmps18
  go_upto_region 20 with fail
  obtain ⟨wq, hwq⟩ : ∃ z : World, z = (((W.alloc (.cells #[.int .i64 s, .int .i64 t, .int .i64 f, .int .i64 l, .int .i64 p] 23)).alloc (.cells #[.int .i64 own, .int .i64 4, .int .i64 oc, .int .u64 ep, .int .i64 (th : Nat), .int .u64 wd, .slice (some ⟨g, 0, none⟩) L.length cap, .int .i64 (-1)] 35)).alloc (.cells #[.int .i64 0, .int .i64 0, .int .i64 0, .int .u64 0, .int .i64 0, .int .u64 0, .slice none 0 0, .int .i64 0] 35)) := ⟨_, rfl⟩
  have hkt : KT W.heap.size W W.heap.size s t f l p (W.heap.size + 1) ⟨own, 4, oc, ep, (th : Nat), wd, (some ⟨g, 0, none⟩), cap, L, -1⟩ (W.heap.size + 1 + 1) wq := by rw [hwq]; exact HK.out
  have hsz : wq.heap.size = W.heap.size + 3 := by rw [hwq]; simp
  rw [← hwq]
  clear hwq HK
  have HKT := Lib.hid hkt
  have ck := hkt.yc.c6
  have c4 := hkt.yc.c4
  have fk := hkt.yc.fz 6
  have hbq := hkt.bl
  have HBQ := Lib.hid hbq
  generalize hq : W.heap.size + 1 = q at hkt HKT ck c4 fk ⊢
  have e1 : wq.heap.size ≠ q := by omega
  have e2 : q ≠ wq.heap.size := by omega
  have e3 : q < wq.heap.size := by omega
  have e5 : q ≠ wq.heap.size + 1 := by omega
  have e6 : wq.heap.size + 1 ≠ q := by omega
  have e7 : q < wq.heap.size + 1 := by omega
  have HSZ := Lib.hid hsz
  have HQ := Lib.hid hq
  have bD : Below wq.heap.size wq wq.drew := (Below.refl _ wq).drew
  have b1 : Below wq.heap.size wq (wq.drew.alloc (.cells #[] 3)) := bD.alloc (Nat.le_refl _) _
  have b2 : Below wq.heap.size wq ((wq.drew.alloc (.cells #[] 3)).alloc (.cells #[.int .i64 (th : Nat)] 3)) := b1.alloc b1.size _
  have b0 : Below wq.heap.size wq (wq.drew.alloc (.cells #[.int .i64 (th : Nat)] 3)) := bD.alloc (Nat.le_refl _) _
  have b3 : Below wq.heap.size wq ((wq.drew.alloc (.cells #[.int .i64 (th : Nat)] 3)).alloc (.cells #[] 3)) := b0.alloc b0.size _
  have OA1 := Lib.hid (own0 wq.drew)
  have OA2 := Lib.hid (rowNx (own0 wq.drew) (tl1 (wq.drew.alloc (.cells #[] 3)) (.cells #[.int .i64 (th : Nat)] 3)))
  have oa3 := own0 (wq.drew.alloc (.cells #[.int .i64 (th : Nat)] 3))
  simp only [World.size_alloc] at oa3
  have OA3 := Lib.hid (rowLw oa3 (Nat.le_succ wq.drew.heap.size))
  have B1 := Lib.hid b1
  have B2 := Lib.hid b2
  have B3 := Lib.hid b3
  have KB2 := Lib.hid (show ((wq.drew.alloc (.cells #[] 3)).alloc (.cells #[.int .i64 (th : Nat)] 3)).heap[wq.heap.size + 1]? = some (.cells #[.int .i64 (th : Nat)] 3) from by have h := blkA (wq.drew.alloc (.cells #[] 3)) (.cells #[.int .i64 (th : Nat)] 3); simp only [World.size_alloc] at h; exact h)
  have KB3 := Lib.hid (show ((wq.drew.alloc (.cells #[.int .i64 (th : Nat)] 3)).alloc (.cells #[] 3)).heap[wq.heap.size]? = some (.cells #[.int .i64 (th : Nat)] 3) from blkN (blkA wq.drew (.cells #[.int .i64 (th : Nat)] 3)) (tl1 _ _))
  have nl : ∀ w' : World, Below wq.heap.size wq w' → ∀ j u, (ivs L)[j]? = some u → w'.cell? ((⟨g, 0, none⟩ : Addr).add j) = some u := fun w' hb => newsL (fun j hj => by
    have h0 := HC.out j hj
    have h1 := (HBQ.out.cell (p := ⟨g, j, none⟩) (World.block_lt_of_cell? W _ h0)).trans h0
    exact (hb.cell (p := ⟨g, j, none⟩) (World.block_lt_of_cell? wq _ h1)).trans h1)
  have NL := Lib.hid nl
  clear nl
  have C4 := Lib.hid (show ∀ w' : World, Below wq.heap.size wq w' → w'.cell? ⟨q, 4, none⟩ = some (.int .i64 (th : Nat)) from fun w' hb => (hb.cell (p := ⟨q, 4, none⟩) e3).trans c4)
  have B0 := Lib.hid b0
  have na : True := trivial
  clear hkt hbq hsz hq bD b1 b2 b0 b3 oa3
  go_cut [] from 59 to 67 (fun wx => ∃ (g2 c2 : Nat), KT W.heap.size W W.heap.size s t f l p q ⟨own, 4, oc, ep, (th : Nat), wd, some ⟨g2, 0, none⟩, c2, (L ++ [((th : Nat) : Int)]), -1⟩ (q + 1) wx ∧ wx.ownsRow W.heap.size 3 1 (.slice (some ⟨g2, 0, none⟩) (L ++ [((th : Nat) : Int)]).length c2) (L ++ [((th : Nat) : Int)]).length (ivs (L ++ [((th : Nat) : Int)])) ∧ W.heap.size + 3 ≤ g2)
  case first =>
    go_region_law
      (first
        | (have _t := na; refine step_append_lies _ (by rfl) _ _ 33 (by rfl) wq.heap.size 3 i0 (.int .i64 0) 1 8 sliceI HI.out.1 HI.out.2.1 HI.out.2.2.1 HI.out.2.2.2 rfl (by omega) (.slice (some ⟨wq.heap.size, 0, none⟩) 0 0) 0 [] ?hs ?ho ⟨g, 0, none⟩ L.length cap (ivs L) ?hx ?hl ?hn (ivs_one L) hne ?h63 ?hby ?hb _ rfl ?_; (case hs => rfl); (case hx => rfl); (case ho => exact OA1.out); (case hl => simp [ivs]); (case hn => exact NL.out _ B1.out); (case h63 => unfold maxLen; omega); (case hby => omega); (case hb => exact B1.out.size); intro gg cg w1 hown1 hgrow1 hat1 hlt1; have HO1 := Lib.hid hown1; have HG1 := Lib.hid hgrow1; have bb1 := Lib.hid (belowG B1.out B1.out.size OA1.out hgrow1); have kt1 := HKT.out.next bb1.out; have ck1 := kt1.yc.c6; have c41 := kt1.yc.c4; have fk1 := kt1.yc.fz 6; have bs1 := Lib.hid bb1.out.size; clear kt1 hown1 hgrow1 hat1 na; have kc : True := trivial)
        | (have _t := na; refine step_append_lies _ (by rfl) _ _ 33 (by rfl) wq.heap.size 3 i0 (.int .i64 0) 1 8 sliceI HI.out.1 HI.out.2.1 HI.out.2.2.1 HI.out.2.2.2 rfl (by omega) (.slice (some ⟨wq.heap.size, 0, none⟩) 0 0) 0 [] ?hs ?ho ⟨g, 0, none⟩ L.length cap (ivs L) ?hx ?hl ?hn (ivs_one L) hne ?h63 ?hby ?hb _ rfl ?_; (case hs => rfl); (case hx => rfl); (case ho => exact OA2.out); (case hl => simp [ivs]); (case hn => exact NL.out _ B2.out); (case h63 => unfold maxLen; omega); (case hby => omega); (case hb => exact B2.out.size); intro gg cg w1 hown1 hgrow1 hat1 hlt1; have HO1 := Lib.hid hown1; have HG1 := Lib.hid hgrow1; have bb1 := Lib.hid (belowG B2.out B2.out.size OA2.out hgrow1); have kt1 := HKT.out.next bb1.out; have ck1 := kt1.yc.c6; have c41 := kt1.yc.c4; have fk1 := kt1.yc.fz 6; have bs1 := Lib.hid bb1.out.size; clear kt1 hown1 hgrow1 hat1 na; have ka : True := trivial)
        | (have _t := na; refine step_append_lies _ (by rfl) _ _ 33 (by rfl) wq.heap.size 3 i0 (.int .i64 0) 1 8 sliceI HI.out.1 HI.out.2.1 HI.out.2.2.1 HI.out.2.2.2 rfl (by omega) (.slice (some ⟨wq.heap.size + 1, 0, none⟩) 0 0) 0 [] ?hs ?ho ⟨g, 0, none⟩ L.length cap (ivs L) ?hx ?hl ?hn (ivs_one L) hne ?h63 ?hby ?hb _ rfl ?_; (case hs => rfl); (case hx => rfl); (case ho => exact OA3.out); (case hl => simp [ivs]); (case hn => exact NL.out _ B3.out); (case h63 => unfold maxLen; omega); (case hby => omega); (case hb => exact B3.out.size); intro gg cg w1 hown1 hgrow1 hat1 hlt1; have HO1 := Lib.hid hown1; have HG1 := Lib.hid hgrow1; have bb1 := Lib.hid (belowG B3.out B3.out.size OA3.out hgrow1); have kt1 := HKT.out.next bb1.out; have ck1 := kt1.yc.c6; have c41 := kt1.yc.c4; have fk1 := kt1.yc.fz 6; have bs1 := Lib.hid bb1.out.size; clear kt1 hown1 hgrow1 hat1 na; have kb : True := trivial)
        | (have _t := ka; have a1 := HO1.out; have a2 := news1 ((HG1.out.block (wq.heap.size + 1) (Array.getElem?_eq_some_iff.1 KB2.out).1 (by simp [Value.ownBlock])).trans KB2.out); have a3 := bb1.out.size; refine step_append_lies _ (by rfl) _ _ 33 (by rfl) wq.heap.size 3 i0 (.int .i64 0) 1 8 sliceI HI.out.1 HI.out.2.1 HI.out.2.2.1 HI.out.2.2.2 rfl (by omega) (.slice (some ⟨gg, 0, none⟩) (0 + L.length) cg) (0 + L.length) ([] ++ ivs L) ?hs a1 ⟨wq.heap.size + 1, 0, none⟩ 1 1 [.int .i64 (th : Nat)] ?hx ?hl ?hn ?h1 ?hm ?h63 ?hby a3 _ rfl ?_; (case hs => simp [Act.eval]); (case hx => rfl); (case hl => rfl); (case hn => exact a2); (case h1 => simp [Value.oneCell']); (case hm => omega); (case h63 => unfold maxLen; omega); (case hby => omega); intro g2 c2 w2 hown2 hgrow2 hat2 hlt2; have HO2 := Lib.hid hown2; have bb2 := Lib.hid (belowG bb1.out a3 a1 hgrow2); have kt2 := Lib.hid (HKT.out.next bb2.out); have ck2 := kt2.out.yc.c6; have fk2 := kt2.out.yc.fz 6; clear a1 a2 a3 hown2 hgrow2 hat2)
        | (have _t := kb; have a1 := HO1.out; have a2 := news1 ((HG1.out.block wq.heap.size (Array.getElem?_eq_some_iff.1 KB3.out).1 (by simp [Value.ownBlock])).trans KB3.out); have a3 := bb1.out.size; refine step_append_lies _ (by rfl) _ _ 33 (by rfl) wq.heap.size 3 i0 (.int .i64 0) 1 8 sliceI HI.out.1 HI.out.2.1 HI.out.2.2.1 HI.out.2.2.2 rfl (by omega) (.slice (some ⟨gg, 0, none⟩) (0 + L.length) cg) (0 + L.length) ([] ++ ivs L) ?hs a1 ⟨wq.heap.size, 0, none⟩ 1 1 [.int .i64 (th : Nat)] ?hx ?hl ?hn ?h1 ?hm ?h63 ?hby a3 _ rfl ?_; (case hs => simp [Act.eval]); (case hx => rfl); (case hl => rfl); (case hn => exact a2); (case h1 => simp [Value.oneCell']); (case hm => omega); (case h63 => unfold maxLen; omega); (case hby => omega); intro g2 c2 w2 hown2 hgrow2 hat2 hlt2; have HO2 := Lib.hid hown2; have bb2 := Lib.hid (belowG bb1.out a3 a1 hgrow2); have kt2 := Lib.hid (HKT.out.next bb2.out); have ck2 := kt2.out.yc.c6; have fk2 := kt2.out.yc.fz 6; clear a1 a2 a3 hown2 hgrow2 hat2)
        | (have _t := kc; have a1 := rowNx HO1.out (tl1 w1 (.cells #[.int .i64 (th : Nat)] 3)); have a2 := news1 (blkA w1 (.cells #[.int .i64 (th : Nat)] 3)); have a3 := (bb1.out.alloc bb1.out.size (.cells #[.int .i64 (th : Nat)] 3)).size; refine step_append_lies _ (by rfl) _ _ 33 (by rfl) wq.heap.size 3 i0 (.int .i64 0) 1 8 sliceI HI.out.1 HI.out.2.1 HI.out.2.2.1 HI.out.2.2.2 rfl (by omega) (.slice (some ⟨gg, 0, none⟩) (0 + L.length) cg) (0 + L.length) ([] ++ ivs L) ?hs a1 ⟨w1.heap.size, 0, none⟩ 1 1 [.int .i64 (th : Nat)] ?hx ?hl ?hn ?h1 ?hm ?h63 ?hby a3 _ rfl ?_; (case hs => simp [Act.eval]); (case hx => rfl); (case hl => rfl); (case hn => exact a2); (case h1 => simp [Value.oneCell']); (case hm => omega); (case h63 => unfold maxLen; omega); (case hby => omega); intro g2 c2 w2 hown2 hgrow2 hat2 hlt2; have HO2 := Lib.hid hown2; have bb2 := Lib.hid (belowG (bb1.out.alloc bb1.out.size (.cells #[.int .i64 (th : Nat)] 3)) a3 a1 hgrow2); have kt2 := Lib.hid (HKT.out.next bb2.out); have ck2 := kt2.out.yc.c6; have fk2 := kt2.out.yc.fz 6; clear a1 a2 a3 hown2 hgrow2 hat2)
        | fail)
    all_goals (
      have hlen : (L ++ [((th : Nat) : Int)]).length = L.length + 1 := by simp
      have hkz := kt2.out.put6 (by have := HQ.out; omega) (by have := HQ.out; omega) (by have := HQ.out; omega) (some ⟨g2, 0, none⟩) c2 (L ++ [((th : Nat) : Int)])
      have hrz := (rowLw (b2 := W.heap.size) HO2.out (by have := HSZ.out; omega)).kept (grown_set w2 ⟨q, 6, none⟩ (.slice (some ⟨g2, 0, none⟩) (L ++ [((th : Nat) : Int)]).length c2)) (.inr (fun e => by have h0 := (HO2.out.lt g2 rfl).1; have h2 := HSZ.out; have h4 := HQ.out; simp [Value.ownBlock] at e; omega))
      have hgz : W.heap.size + 3 ≤ g2 := by have h0 := (HO2.out.lt g2 rfl).1; have h2 := HSZ.out; omega
      rw [hlen] at hkz hrz
      have HKZ := Lib.hid hkz
      have HRZ := Lib.hid hrz
      clear hkz hrz kt2 HO2 bb2 hlen ck c4 fk T
      go_wp2_with fail
      go_meet
      exact ⟨g2, c2, HKZ.out, by simpa [ivs] using HRZ.out, hgz⟩)
  case rest =>
    obtain ⟨g2, c2, hkz, hrz, hg2⟩ := hcut
    have HG2 := Lib.hid hg2
    obtain ⟨y', hy'⟩ : ∃ y', y' = Rd.next t ⟨own, 4, oc, ep, (th : Nat), wd, some ⟨g2, 0, none⟩, c2, (L ++ [((th : Nat) : Int)]), (th : Nat)⟩ (th + 1) := ⟨_, rfl⟩
    have HY' := Lib.hid hy'
    have hlen : (L ++ [((th : Nat) : Int)]).length = L.length + 1 := by simp
    have T' : RowKit.Hid (∀ W : World, Calls Tryd.prog 39 #[cfgV s t f l p, .agg #[.int .i64 own, .int .i64 4, .int .i64 oc, .int .u64 ep, .int .i64 (th : Nat), .int .u64 wd, .slice (some ⟨g2, 0, none⟩) (L.length + 1) c2, .int .i64 (th : Nat)], .int .i64 (th + 1)] W fun e w' => e = .returned (rdV y') ∧ Below W.heap.size W w') := Lib.hid (fun W => by
      have h := T.out ⟨own, 4, oc, ep, (th : Nat), wd, some ⟨g2, 0, none⟩, c2, (L ++ [((th : Nat) : Int)]), (th : Nat)⟩ W
      rw [← hy'] at h
      simp only [rdV, hlen] at h
      exact h)
    clear hlen
    have HK7 := Lib.hid (hkz.put7 (by have := HQ.out; omega) (by have := HQ.out; omega) (by have := HQ.out; omega) (th : Nat))
    have HR7 := Lib.hid (hrz.kept (grown_set wc ⟨q, 7, none⟩ (.int .i64 (th : Nat))) (.inr (fun e => by have h0 := HG2.out; have h4 := HQ.out; simp [Value.ownBlock] at e; omega)))
    have z0 := hkz.c0; have z1 := hkz.c1; have z2 := hkz.c2; have z3 := hkz.c3; have z4 := hkz.c4
    have y0 := hkz.yc.c0; have y1 := hkz.yc.c1; have y2 := hkz.yc.c2; have y3 := hkz.yc.c3; have y4 := hkz.yc.c4; have y5 := hkz.yc.c5; have y6 := hkz.yc.c6; have y7 := hkz.yc.c7
    have yf := hkz.yc.fz
    clear hkz hrz hy' ck c4 fk e1 e2 e3 e5 e6 e7 T hg2
    go_wp2_with (go_at_call 39; refine (T'.out _).mono ?_; rintro e w3 ⟨rfl, hn⟩; have h1 := HK7.out.next hn; have hr1 := Lib.hid (rowNx HR7.out hn); clear hn; have e0 := h1.rc.c0; have e1 := h1.rc.c1; have e2 := h1.rc.c2; have e3 := h1.rc.c3; have e4 := h1.rc.c4; have e5 := h1.rc.c5; have e6 := h1.rc.c6; have e7 := h1.rc.c7; have fz := h1.rc.fz)
    exact bodyPost_ret (v := rdV y') (by simp [results, Tryd.results18, go_sem, e0, e1, e2, e3, e4, e5, e6, e7]) rfl ⟨some ⟨g2, 0, none⟩, c2, congrArg (fun z => Ending.returned (rdV z)) HY'.out, rowPutR hr1.out (fun e => by have h0 := HG2.out; have h4 := HQ.out; simp [Value.ownBlock] at e; omega) y', belowR h1.bl h1.lr y'⟩
end Go.Proofs.YthcmgagmbioofaaDoor
