/- gleaningref12.Cut. -/
import Derived.Test.YtahpdifneajblaaLeaf7
namespace Go.Proofs.Ytahpdifneajblaa
set_option linter.unusedVariables false
open Go.RowKit
attribute [local go_sem ↓] Go.wp_at_zero Go.wp_at_succ
theorem cut_snoc (us : List Nat) (f j : Nat) (hf : f ≤ j) (hj : j < us.length) : cutL us f (j + 1) = cutL us f j ++ [us.getD j 0] := by
  have e : us.getD j 0 = us[j] := by simp [List.getD, hj]
  rw [e]
  show (us.drop f).take (j + 1 - f) = _
  rw [show j + 1 - f = (j - f) + 1 by omega, List.take_succ_eq_append_getElem (by simp; omega), List.getElem_drop]
  simp only [show f + (j - f) = j by omega]
theorem GM.start (w0 W : World) (link : Nat) (h : Below w0.heap.size w0 W) : GM (W.heap.size + 1) W.heap.size w0 link [] [] (.slice none 0 0) (.slice none 0 0) (W.alloc (.cells #[.bool false, .slice none 0 0, .slice none 0 0, .int .u64 (link : Nat)] 25)) :=
  ⟨by simp, by simp, by simp, by simp, fun i => by simp, World.ownsRow_nil _ _ _ _, World.ownsRow_nil _ _ _ _, h.alloc h.size _, by omega, by simp, h.size, fun k e => by simp [Value.ownBlock] at e⟩
theorem cutL_nil (us : List Nat) (f : Nat) : cutL us f f = [] := by simp
theorem NR.at1 {W : World} {x : Nd} (h : NR W x) (j : Nat) (hj : j < x.ks.length) : ∃ b o, x.A1 = some ⟨b, o, none⟩ ∧ W.cell? ⟨b, o + j, none⟩ = some (.int .u64 ((x.ks.getD j 0 : Nat))) := by
  obtain ⟨b, o, e, _, _, h3⟩ := h.k.at (by omega)
  exact ⟨b, o, e, h3 j hj⟩
theorem NR.at2 {W : World} {x : Nd} (h : NR W x) (j : Nat) (hj : j < x.vs.length) : ∃ b o, x.A2 = some ⟨b, o, none⟩ ∧ W.cell? ⟨b, o + j, none⟩ = some (.int .u64 ((x.vs.getD j 0 : Nat))) := by
  obtain ⟨b, o, e, _, _, h3⟩ := h.v.at (by omega)
  exact ⟨b, o, e, h3 j hj⟩
set_option maxHeartbeats 4000000 in
theorem rcut_ne (x : Nd) (f t link : Nat) (hf : f ≤ t) (h1 : t ≤ x.ks.length) (h2 : t ≤ x.vs.length) (hl : x.ks.length ≤ 1000) (W : World) (hx : NR W x) :
    Calls Try.prog 20 #[ndV x, .int .i64 f, .int .i64 t, .int .u64 (link : Nat)] W fun e w' => ∃ y : Nd, e = .returned (ndV y) ∧ y.inner = false ∧ y.link = link ∧ y.ks = cutL x.ks f t ∧ y.vs = cutL x.vs f t ∧ ON W.heap.size y w' ∧ Below W.heap.size W w' ∧ ∀ k, (Value.slice y.A1 y.ks.length y.c1).ownBlock = some k → (Value.slice y.A2 y.vs.length y.c2).ownBlock ≠ some k := by
  obtain ⟨i0, hi, hz0, hz1, hz2⟩ := info_parts infoW
  have HI := Lib.hid (And.intro hi (And.intro hz0 (And.intro hz1 hz2)))
  clear hi hz0 hz1 hz2
  obtain ⟨inner, ks0, vs0, lk, A1, c1, A2, c2⟩ := x
  simp only at h1 h2 hl
  have NX := Lib.hid hx
  have hmx : ks0.length ≤ maxLen := by unfold maxLen; omega
  have TM : t ≤ 1000 := by omega
  have HL1 := Lib.hid h1
  have HL2 := Lib.hid h2
  have X0 := (NC.alloc W ⟨inner, ks0, vs0, lk, A1, c1, A2, c2⟩).next (nl2 _ (ndRow Nd.zero) (.cells #[.bool false, .slice none 0 0, .slice none 0 0, .int .u64 (link : Nat)] 25))
  have Z0 := (NC.alloc (W.alloc (ndRow ⟨inner, ks0, vs0, lk, A1, c1, A2, c2⟩)) Nd.zero).next (nl1 _ (.cells #[.bool false, .slice none 0 0, .slice none 0 0, .int .u64 (link : Nat)] 25))
  simp only [World.size_alloc] at Z0
  have X1 := Lib.hid X0
  have Z1 := Lib.hid Z0
  have G0 := GM.start W ((W.alloc (ndRow ⟨inner, ks0, vs0, lk, A1, c1, A2, c2⟩)).alloc (ndRow Nd.zero)) link (nl2 _ _ _)
  simp only [World.size_alloc] at G0
  have G1 := Lib.hid G0
  clear X0 Z0 G0 hx h1 h2
  go_enter Try.func20, Try.ntmps20
  go_wp2
  go_loopg [10] (t - f) (fun g i wr => ∃ (j : Nat) (v1 v2 : Value), f ≤ j ∧ j ≤ t ∧ g = t - j ∧ i = .int .i64 j ∧ GM (W.heap.size + 1 + 1 + 1) (W.heap.size + 1 + 1) W link (cutL ks0 f j) (cutL vs0 f j) v1 v2 wr ∧ NC W.heap.size ⟨inner, ks0, vs0, lk, A1, c1, A2, c2⟩ wr ∧ NC (W.heap.size + 1) Nd.zero wr)
  case atStart => exact ⟨f, _, _, by omega, by omega, by omega, rfl, by rw [cutL_nil, cutL_nil]; exact G1.out, X1.out, Z1.out⟩
  case round =>
    clear G1 X1 Z1
    obtain ⟨j, v1, v2, hfj, hj, hg, rfl, hr, hx, hz⟩ := hrel
    by_cases hlt : j < t
    · have hjk : j < ks0.length := Nat.lt_of_lt_of_le hlt HL1.out
      have hjv : j < vs0.length := Nat.lt_of_lt_of_le hlt HL2.out
      have T1 := Lib.hid (cut_snoc ks0 f j hfj hjk)
      have T2 := Lib.hid (cut_snoc vs0 f j hfj hjv)
      have F1 := Lib.hid (show (cutL ks0 f j).length ≤ 1000 by rw [cutL_len _ _ _ (by omega)]; omega)
      have F2 := Lib.hid (show (cutL vs0 f j).length ≤ 1000 by rw [cutL_len _ _ _ (by omega)]; omega)
      obtain ⟨b1, o1, rfl, q1⟩ := NX.out.at1 j hjk
      obtain ⟨b2, o2, rfl, q2⟩ := NX.out.at2 j hjv
      have P1 := Lib.hid (fun W' (h : Below W.heap.size W W') => (h.cell (p := ⟨b1, o1 + j, none⟩) (World.block_lt_of_cell? W _ q1)).trans q1)
      have P2 := Lib.hid (fun W' (h : Below W.heap.size W W') => (h.cell (p := ⟨b2, o2 + j, none⟩) (World.block_lt_of_cell? W _ q2)).trans q2)
      clear q1 q2
      simp only at P1 P2
      generalize ks0.getD j 0 = x at P1 T1
      generalize vs0.getD j 0 = y at P2 T2
      generalize cutL ks0 f j = ks at hr T1 F1
      generalize cutL vs0 f j = vs at hr T2 F2
      have p0 := P1.out _ hr.bl
      have x1 := hx.c1
      have hmk : (j : Int) < (ks0.length : Int) := by omega
      have hmv : (j : Int) < (vs0.length : Int) := by omega
      have hm0 : (0 : Int) ≤ (j : Int) := by omega
      have cka := hr.c1
      have fka := hr.fz 1
      have sza := hr.sz
      have gba := hr.gB
      have HGa := Lib.hid (hr.drew.next (nl1 wr.drew (.cells #[.int .u64 (x : Nat)] 23)))
      have HK0a := Lib.hid (hx.drew.next (nl1 wr.drew (.cells #[.int .u64 (x : Nat)] 23)))
      have HK1a := Lib.hid (hz.drew.next (nl1 wr.drew (.cells #[.int .u64 (x : Nat)] 23)))
      have HWa : RowKit.Hid ((wr.drew.alloc (.cells #[.int .u64 (x : Nat)] 23)).heap[wr.heap.size]? = some (.cells #[.int .u64 (x : Nat)] 23)) := Lib.hid (heap_alloc_new wr.drew (.cells #[.int .u64 (x : Nat)] 23))
      have e1a : wr.heap.size ≠ W.heap.size + 1 + 1 := by omega
      have e2a : W.heap.size + 1 + 1 ≠ wr.heap.size := by omega
      have e3a : W.heap.size + 1 + 1 < wr.heap.size := by omega
      have e4a := World.new_ne wr _ cka
      have n0a := World.new_ne wr _ p0
      have n1a := World.new_ne wr _ x1
      clear hr sza gba hx hz
      go_wp2
      go_region_law
        ((refine step_append_lies _ (by rfl) _ _ 22 (by rfl) (W.heap.size + 1 + 1 + 1) 23 i0 (.int .u64 0) 1 8 sliceW HI.out.1 HI.out.2.1 HI.out.2.2.1 HI.out.2.2.2 rfl (by omega) v1 _ _ (by rfl) (HGa.out.o1) ⟨wr.heap.size, 0, none⟩ 1 1 [.int .u64 (x : Nat)] (by rfl) (by rfl) (World.news_of_block HWa.out) (by simp [Value.oneCell']) (by omega) (by have := F1.out; unfold maxLen; omega) (by have := F1.out; omega) HGa.out.sz (wr.heap.size + 1) (by simp) ?_; intro gg1 cap1 w1 hown hgrow hat hlt; have hG := GM.add1 HGa.out x hown hgrow (by rcases hat with e | e; exact .inl (show some gg1 = _ from e.symm); exact .inr (show some gg1 = some _ by rw [e]; simp)); have hk0a := (HK0a.out.grown hgrow (fun e => by have := (HGa.out.o1.lt _ e.symm).1; omega)).set (g' := W.heap.size + 1 + 1) (i := 1) (by omega) (.slice (some ⟨gg1, 0, none⟩) (ks.length + 1) cap1); have HK0ab := Lib.hid hk0a; clear hk0a; have hk1a := (HK1a.out.grown hgrow (fun e => by have := (HGa.out.o1.lt _ e.symm).1; omega)).set (g' := W.heap.size + 1 + 1) (i := 1) (by omega) (.slice (some ⟨gg1, 0, none⟩) (ks.length + 1) cap1); have HK1ab := Lib.hid hk1a; clear hk1a; have caa := hG.1; have cba := hG.2.1; have fca := hG.2.2.1; have HXa := Lib.hid hG.2.2.2; clear hG hown hgrow hat hlt))
      all_goals (
        obtain ⟨wm, hwa⟩ : ∃ z : World, z = w1.setCell ⟨W.heap.size + 1 + 1, 1, none⟩ (.slice (some ⟨gg1, 0, none⟩) (ks.length + 1) cap1) := ⟨_, rfl⟩
        have hwm := HXa.out
        have hx := HK0ab.out
        have hz := HK1ab.out
        rw [← hwa] at hwm hx hz ⊢
        clear hwa HXa caa cba fca cka fka e1a e2a e3a e4a HGa HWa n0a n1a HK0a HK0ab HK1a HK1ab
        clear p0 x1
        generalize (Value.slice (some ⟨gg1, 0, none⟩) (ks.length + 1) cap1) = v3 at hwm
        have p1 := P2.out _ hwm.bl
        have x2 := hx.c2
        have ckb := hwm.c2
        have fkb := hwm.fz 2
        have szb := hwm.sz
        have gbb := hwm.gB
        have HGb := Lib.hid (hwm.drew.next (nl1 wm.drew (.cells #[.int .u64 (y : Nat)] 23)))
        have HK0b := Lib.hid (hx.drew.next (nl1 wm.drew (.cells #[.int .u64 (y : Nat)] 23)))
        have HK1b := Lib.hid (hz.drew.next (nl1 wm.drew (.cells #[.int .u64 (y : Nat)] 23)))
        have HWb : RowKit.Hid ((wm.drew.alloc (.cells #[.int .u64 (y : Nat)] 23)).heap[wm.heap.size]? = some (.cells #[.int .u64 (y : Nat)] 23)) := Lib.hid (heap_alloc_new wm.drew (.cells #[.int .u64 (y : Nat)] 23))
        have e1b : wm.heap.size ≠ W.heap.size + 1 + 1 := by omega
        have e2b : W.heap.size + 1 + 1 ≠ wm.heap.size := by omega
        have e3b : W.heap.size + 1 + 1 < wm.heap.size := by omega
        have e4b := World.new_ne wm _ ckb
        have n0b := World.new_ne wm _ p1
        have n1b := World.new_ne wm _ x2
        clear hwm szb gbb hx hz
        go_wp2
        go_region_law
          ((refine step_append_lies _ (by rfl) _ _ 22 (by rfl) (W.heap.size + 1 + 1 + 1) 23 i0 (.int .u64 0) 1 8 sliceW HI.out.1 HI.out.2.1 HI.out.2.2.1 HI.out.2.2.2 rfl (by omega) v2 _ _ (by rfl) (HGb.out.o2) ⟨wm.heap.size, 0, none⟩ 1 1 [.int .u64 (y : Nat)] (by rfl) (by rfl) (World.news_of_block HWb.out) (by simp [Value.oneCell']) (by omega) (by have := F2.out; unfold maxLen; omega) (by have := F2.out; omega) HGb.out.sz (wm.heap.size + 1) (by simp) ?_; intro gg2 cap2 w2 hown hgrow hat hlt; have hG := GM.add2 HGb.out y hown hgrow (by rcases hat with e | e; exact .inl (show some gg2 = _ from e.symm); exact .inr (show some gg2 = some _ by rw [e]; simp)); have hk0b := (HK0b.out.grown hgrow (fun e => by have := (HGb.out.o2.lt _ e.symm).1; omega)).set (g' := W.heap.size + 1 + 1) (i := 2) (by omega) (.slice (some ⟨gg2, 0, none⟩) (vs.length + 1) cap2); have HK0bb := Lib.hid hk0b; clear hk0b; have hk1b := (HK1b.out.grown hgrow (fun e => by have := (HGb.out.o2.lt _ e.symm).1; omega)).set (g' := W.heap.size + 1 + 1) (i := 2) (by omega) (.slice (some ⟨gg2, 0, none⟩) (vs.length + 1) cap2); have HK1bb := Lib.hid hk1b; clear hk1b; have cab := hG.1; have cbb := hG.2.1; have fcb := hG.2.2.1; have HXb := Lib.hid hG.2.2.2; clear hG hown hgrow hat hlt))
        all_goals (
          obtain ⟨wn, hwb⟩ : ∃ z : World, z = w2.setCell ⟨W.heap.size + 1 + 1, 2, none⟩ (.slice (some ⟨gg2, 0, none⟩) (vs.length + 1) cap2) := ⟨_, rfl⟩
          have hwn := HXb.out
          have hx := HK0bb.out
          have hz := HK1bb.out
          rw [← hwb] at hwn hx hz ⊢
          clear hwb HXb cab cbb fcb ckb fkb e1b e2b e3b e4b HGb HWb n0b n1b HK0b HK0bb HK1b HK1bb
          clear p1 x2
          generalize (Value.slice (some ⟨gg2, 0, none⟩) (vs.length + 1) cap2) = v4 at hwn
          have HWN := Lib.hid hwn
          have HXN := Lib.hid hx
          have HZN := Lib.hid hz
          clear hwn hx hz
          go_wp2
          go_roundg (t - (j + 1))
          case rel => exact ⟨j + 1, _, _, by omega, by omega, rfl, by go_num, by rw [T1.out, T2.out]; exact HWN.out, HXN.out, HZN.out⟩
          case measure => omega))
    · obtain rfl : j = t := by omega
      obtain ⟨B1, d1, rfl, Q1⟩ := RL.of_own hr.o1
      obtain ⟨B2, d2, rfl, Q2⟩ := RL.of_own hr.o2
      generalize hks : cutL ks0 f j = ks at hr Q1
      generalize hvs : cutL vs0 f j = vs at hr Q2
      have HKS := Lib.hid hks
      have HVS := Lib.hid hvs
      clear hks hvs
      have c0 := hr.c0
      have c1 := hr.c1
      have c2 := hr.c2
      have c3 := hr.c3
      have z0 := hz.c0
      have z1 := hz.c1
      have z2 := hz.c2
      have z3 := hz.c3
      have fz := hz.fz
      have HR := Lib.hid hr
      clear hr hx hz Q1 Q2
      go_wp2
      have hbl := HR.out.bl
      have o1 := HR.out.o1
      have o2 := HR.out.o2
      exact bodyPost_ret (v := ndV ⟨false, ks, vs, link, B1, d1, B2, d2⟩) (by simp [results, Try.results20, go_sem, z0, z1, z2, z3]) rfl ⟨⟨false, ks, vs, link, B1, d1, B2, d2⟩, rfl, rfl, rfl, HKS.out.symm, HVS.out.symm, ⟨nLe (set4Own o1 (by omega)) (by omega), nLe (set4Own o2 (by omega)) (by omega)⟩, below_put4 hbl (by omega) _ _ _ _, HR.out.ne⟩
theorem rcut_any (x : Nd) (f t link : Nat) (hf : f ≤ t) (h1 : t ≤ x.ks.length) (h2 : t ≤ x.vs.length) (hl : x.ks.length ≤ 1000) (W : World) (hx : NR W x) :
    Calls Try.prog 20 #[ndV x, .int .i64 f, .int .i64 t, .int .u64 (link : Nat)] W fun e w' => ∃ y : Nd, e = .returned (ndV y) ∧ y.inner = false ∧ y.link = link ∧ y.ks = cutL x.ks f t ∧ y.vs = cutL x.vs f t ∧ ON W.heap.size y w' ∧ Below W.heap.size W w' := by
  refine (rcut_ne x f t link hf h1 h2 hl W hx).mono ?_
  rintro e w' ⟨y, h1, h2, h3, h4, h5, h6, h7, _⟩
  exact ⟨y, h1, h2, h3, h4, h5, h6, h7⟩
end Go.Proofs.Ytahpdifneajblaa
