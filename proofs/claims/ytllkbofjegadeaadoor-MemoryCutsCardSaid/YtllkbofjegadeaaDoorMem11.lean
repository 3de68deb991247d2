/- Copy; parts of words: what the law MemoryCuts holds. -/
import Derived.Test.YtllkbofjegadeaaDoorMem10
import Derived.Deep.RegionHeld3
namespace Go.Proofs.YtllkbofjegadeaaDoor
set_option linter.unusedVariables false
open Go.RowKit
theorem config_any (s t f l p : Int) (W : World) :
    Calls Tryd.prog 17 #[layV s t f l p] W fun e w' => e = .returned (cfgV s t f l p) ∧ Below W.heap.size W w' := by
  have HB := Lib.hid (((ml1 W (.cells #[.int .i64 s, .int .i64 t, .int .i64 f, .int .i64 l, .int .i64 p] 46)).alloc (by simp) (.cells #[.int .i64 0, .int .i64 0, .int .i64 0, .int .i64 0, .int .i64 0] 23)))
  go_enter Tryd.func17, Tryd.ntmps17
  go_wp2
  exact bodyPost_ret (v := cfgV s t f l p) (by simp [results, Tryd.results17, go_sem]) rfl ⟨rfl, by repeat (first | exact HB.out | exact Nat.le_refl _ | (refine Below.setCell ?_ (by simp) _) | (refine Below.alloc ?_ (by simp) _) | exact Below.refl _ _)⟩
theorem LB.of_mb {g gw : Nat} {s t f l p : Int} {us : List Nat} {W : World} (h : MB g gw s t f l p us W) : LB W g s t f l p W := ⟨h.r.c0, h.r.c1, h.r.c2, h.r.c3, h.r.c4, Below.refl _ _⟩
abbrev mrRow (s t f l p : Int) (b n c : Nat) : Obj := .cells #[.int .i64 s, .int .i64 t, .int .i64 f, .int .i64 l, .int .i64 p, .slice (some ⟨b, 0, none⟩) n c] 48
theorem WB.of_own {W : World} {B : Nat} {v : Value} {us : List Nat} (h : W.ownsRow B 31 1 v us.length (wvs us)) (h0 : 0 < us.length) : ∃ b q, v = .slice (some ⟨b, 0, none⟩) us.length q ∧ us.length ≤ q ∧ q ≤ maxLen ∧ B ≤ b ∧ WB b us W := by
  have hs := SR.of_own h
  rcases h.2 with ⟨rfl, h1⟩ | ⟨g, cap, cur, rfl, hb, hh, hle, hm, _⟩
  · omega
  · refine ⟨g, cap, rfl, hle, hm, hb, fun i hi => ?_, fun i => ?_, ?_⟩
    · obtain ⟨A, c, b, e, hr, _⟩ := hs
      injection e with e1 e2 e3
      have := hr.a h0
      rw [← e1] at this
      injection this with e4
      injection e4 with e5
      subst e5
      have := hr.c i hi
      rw [Nat.zero_add] at this; exact this
    · exact h.frozenAt i
    · rcases Nat.lt_or_ge g W.heap.size with hlt | hge
      · exact hlt
      · rw [Array.getElem?_eq_none hge] at hh; cases hh
theorem mwords_full (g gw : Nat) (s t f l p : Int) (us : List Nat) (n : Nat) (hn : us.length = n) (h0 : 0 < n) (hl : n ≤ 100000) (W : World) (hok : okL s t f l p) (hs : sizeL s t f = n) (h : MB g gw s t f l p us W) :
    Calls Tryd.prog 14 #[.pointer (some ⟨g, 0, none⟩), .int .i64 0, .int .i64 n] W fun e w' => ∃ b q, e = .returned (.slice (some ⟨b, 0, none⟩) us.length q) ∧ us.length ≤ q ∧ q ≤ maxLen ∧ W.heap.size ≤ b ∧ WB b us w' ∧ Below W.heap.size W w' := by
  subst hn
  refine (mwords_yes g gw s t f l p us 0 us.length 0 us.length hl W hok hs h (by omega) (by omega) h0).mono ?_
  rintro e w' ⟨v, he, ho, hn⟩
  rw [subL_all] at ho
  obtain ⟨b, q, rfl, hq1, hq2, hb, hw⟩ := WB.of_own ho h0
  exact ⟨b, q, he, hq1, hq2, hb, hw, hn⟩
set_option maxHeartbeats 1000000 in
theorem mcopy_any (g gw : Nat) (s t f l p : Int) (us : List Nat) (n : Nat) (hn : us.length = n) (h0 : 0 < n) (hl : n ≤ 100000) (W : World) (hok : okL s t f l p) (hs : sizeL s t f = n) (h : MB g gw s t f l p us W) :
    Calls Tryd.prog 16 #[.pointer (some ⟨g, 0, none⟩)] W fun e w' => ∃ g2 h2, e = .returned (.pointer (some ⟨g2, 0, none⟩)) ∧ W.heap.size ≤ g2 ∧ W.heap.size ≤ h2 ∧ MB g2 h2 s t f l p us w' ∧ Below W.heap.size W w' := by
  have SZ0 := fun W' => size_any s t f l p hok W'
  rw [hs] at SZ0
  have SZ := Lib.hid SZ0
  have HW := Lib.hid (fun W' h' => mwords_full g gw s t f l p us n hn h0 hl W' hok hs h')
  have hne : ((n : Int) == 0) = false := by simp; omega
  have K0 := Lib.hid (LB.of_mb h)
  have HM := Lib.hid h
  have HN := Lib.hid hn
  obtain ⟨c0, c1, c2, c3, c4, -⟩ := h.r
  clear SZ0 hs hok h hn
  have t1 : True := trivial
  go_enter Tryd.func16, Tryd.ntmps16
  go_wp2_with (go_at_call 19; have _t := t1; refine (SZ.out _).mono ?_; rintro e w2 ⟨rfl, hn⟩; clear t1; have K2 := Lib.hid ((K0.out.next hn).next (Below.refl _ _).drew); clear hn)
  clear c0 c1 c2 c3 c4
  have hs : (fun w' => w'.cell? ⟨g, 0, none⟩ = some (.int .i64 s) ∧ w'.cell? ⟨g, 1, none⟩ = some (.int .i64 t) ∧ w'.cell? ⟨g, 2, none⟩ = some (.int .i64 f) ∧ w'.cell? ⟨g, 3, none⟩ = some (.int .i64 l) ∧ w'.cell? ⟨g, 4, none⟩ = some (.int .i64 p) ∧ LB W g s t f l p w') _ := K2.out.all
  go_region_held3 (fun w' => w'.cell? ⟨g, 0, none⟩ = some (.int .i64 s) ∧ w'.cell? ⟨g, 1, none⟩ = some (.int .i64 t) ∧ w'.cell? ⟨g, 2, none⟩ = some (.int .i64 f) ∧ w'.cell? ⟨g, 3, none⟩ = some (.int .i64 l) ∧ w'.cell? ⟨g, 4, none⟩ = some (.int .i64 p) ∧ LB W g s t f l p w') (first | with_reducible exact hs | with_reducible exact LB.all (LB.next (LB.of (by assumption)) (ml1 _ _)))
    (first
    | (go_at_call 19; refine (SZ.out _).mono ?_; rintro e w3 ⟨rfl, hn⟩; have K3 := Lib.hid (K2.out.next hn); have hs := K3.out.all; clear hn)
    | (go_at_call 14; refine (HW.out _ (HM.out.next K3.out.bl)).mono ?_; rintro e w4 ⟨b, q, rfl, hq1, hq2, hbb, hw, hn⟩; have K4 := Lib.hid (K3.out.next hn); have hs := K4.out.all; have HO := Lib.hid (And.intro hq1 (And.intro hq2 hw)); have HS2 := Lib.hid (Nat.le_trans K3.out.bl.size hbb); clear hn hw hq1 hq2 hbb))
  all_goals (
    clear hs
    have KB := Lib.hid K4.out.bl
    have HX := Lib.hid (show MB w4.heap.size b s t f l p us (w4.alloc (mrRow s t f l p b us.length q)) from ⟨⟨q, ⟨by simp, by simp, by simp, by simp, by simp, by simp⟩, HO.out.1, HO.out.2.1⟩, HO.out.2.2.next (ml1 _ _), Nat.ne_of_gt HO.out.2.2.lt⟩)
    go_wp2
    go_ret
    exact ⟨w4.heap.size, b, rfl, KB.out.size, HS2.out, HX.out, KB.out.trans ((ml1 w4 _).mono KB.out.size)⟩)
theorem mwords_sub (g gw : Nat) (s t f l p : Int) (us : List Nat) (a b : Int) (hl : us.length ≤ 100000) (W : World) (hok : okL s t f l p) (hs : sizeL s t f = us.length) (h : MB g gw s t f l p us W) :
    Calls Tryd.prog 14 #[.pointer (some ⟨g, 0, none⟩), .int .i64 a, .int .i64 b] W fun e w' => ∃ A c bb, e = .returned (.slice A (subL us (max a 0).toNat (min b us.length).toNat).length c) ∧ SR w' A c bb 0 (subL us (max a 0).toNat (min b us.length).toNat) ∧ Below W.heap.size W w' := by
  by_cases hxy : (max a 0).toNat < (min b us.length).toNat
  · refine (mwords_yes g gw s t f l p us a b _ _ hl W hok hs h (by omega) (by omega) hxy).mono ?_
    rintro e w' ⟨v, he, ho, hn⟩
    obtain ⟨A, c, bb, rfl, hsr, _⟩ := SR.of_own ho
    exact ⟨A, c, bb, he, hsr, hn⟩
  · have e : subL us (max a 0).toNat (min b us.length).toNat = [] := by unfold subL; rw [show (min b us.length).toNat - (max a 0).toNat = 0 by omega, List.take_zero]
    rw [e]
    refine (mwords_no g s t f l p _ _ _ a b us.length W hok hs (by omega) (by omega) h.r (by omega)).mono ?_
    rintro e w' ⟨he, hn⟩
    exact ⟨none, 0, 0, he, SR.nil _ _ _, hn⟩
theorem doF_store (us : List Nat) (a : Int) (v : Nat) : doF us 2 a 0 v = (0, wr1 us (a, v)) := by
  unfold doF wr1
  by_cases h : 0 ≤ a ∧ a < us.length
  · rw [if_pos h, if_neg (by omega), if_pos rfl, if_pos h]
  · rw [if_neg h, if_neg h]
theorem doF_load (us : List Nat) (a : Int) : doF us 1 a 0 0 = (wordF us a, us) := by
  unfold doF wordF
  by_cases h : 0 ≤ a ∧ a < us.length
  · rw [if_pos h, if_pos rfl, if_pos h]
  · rw [if_neg h, if_neg h]
theorem sub_step (us : List Nat) (x y j : Nat) (hj : j < us.length) (h1 : x ≤ j) (h2 : j < y) : subL us x (min y (j + 1)) = subL us x (min y j) ++ [us.getD j 0] := by
  unfold subL
  rw [show min y (j + 1) - x = (min y j - x) + 1 by omega]
  have e : us.getD j 0 = us[j] := by simp [List.getD, hj]
  have hd : min y j - x < (us.drop x).length := by rw [List.length_drop]; omega
  rw [List.take_succ_eq_append_getElem hd, e]
  congr 2
  rw [List.getElem_drop]
  congr 1; omega
theorem sub_stay (us : List Nat) (x y j : Nat) (h : ¬ (x ≤ j ∧ j < y)) : subL us x (min y (j + 1)) = subL us x (min y j) := by
  unfold subL
  congr 1; omega
theorem sub_tail (us : List Nat) (n v : Nat) (hn : 0 < us.length) : subL (wr1 us (0, v)) 1 n = subL us 1 n := by
  have e : wr1 us (0, v) = us.set 0 v := by unfold wr1; simp only; rw [if_pos (by omega)]; rfl
  rw [e]
  unfold subL
  cases us with
  | nil => simp at hn
  | cons u us => rfl
theorem word_zero (us : List Nat) (v : Nat) (hn : 0 < us.length) : wordF (wr1 us (0, v)) 0 = v := by
  have e : wr1 us (0, v) = us.set 0 v := by unfold wr1; simp only; rw [if_pos (by omega)]; rfl
  rw [e]
  unfold wordF
  rw [List.length_set, if_pos (by omega), set_getD _ _ _ _ (by simpa using hn), if_pos (by simp)]
theorem word_first (us : List Nat) (hn : 0 < us.length) : wordF us 0 = us.getD 0 0 := by
  unfold wordF; rw [if_pos (by omega)]; rfl
theorem wrs_lt (us : List Nat) (ws : List (Int × Nat)) (hu : ∀ u ∈ us, u < 18446744073709551616) (hw : ∀ r ∈ ws, r.2 < 18446744073709551616) : ∀ u ∈ wrs us ws, u < 18446744073709551616 := by
  induction ws generalizing us with
  | nil => exact hu
  | cons w ws ih =>
    refine ih (wr1 us w) (fun u hu2 => ?_) (fun r hr => hw r (List.mem_cons_of_mem _ hr))
    unfold wr1 at hu2
    split at hu2
    · rcases List.mem_or_eq_of_mem_set hu2 with h | h
      · exact hu u h
      · rw [h]; exact hw w List.mem_cons_self
    · exact hu u hu2
/-- What the law holds: the configuration's box, the memory, the words. -/
structure PN (w : World) (g gw gr : Nat) (s t f l p : Int) (us vs : List Nat) (W : World) : Prop where
  q : CB w s t f l p W
  m : MB g gw s t f l p us W
  r : WB gr vs W
  sw : w.heap.size < gw
  sr : w.heap.size < gr
  n1 : g ≠ gr
  n2 : gw ≠ gr
structure PO (w : World) (g gw gr g2 h2 : Nat) (s t f l p : Int) (us vs ns : List Nat) (W : World) : Prop extends PN w g gw gr s t f l p us vs W where
  n : MB g2 h2 s t f l p ns W
  s2 : w.heap.size < h2
  d1 : g ≠ h2
  d2 : gw ≠ h2
  d3 : gr ≠ h2
section
variable {w : World} {g gw gr g2 h2 : Nat} {s t f l p : Int} {us vs ns : List Nat} {W W' : World}
theorem PN.bl (h : PN w g gw gr s t f l p us vs W) : Below w.heap.size w W := h.q.bl
theorem PN.next (h : PN w g gw gr s t f l p us vs W) (hn : Below W.heap.size W W') : PN w g gw gr s t f l p us vs W' := ⟨h.q.next hn, h.m.next hn, h.r.next hn, h.sw, h.sr, h.n1, h.n2⟩
theorem CB.but {x : Nat} (h : CB w s t f l p W) (hn : But x W W') (hx : w.heap.size < x) : CB w s t f l p W' := by
  have hg : w.heap.size < W.heap.size := World.block_lt_of_cell? W _ h.c0
  have e : ∀ i, W'.cell? ⟨w.heap.size, i, none⟩ = W.cell? ⟨w.heap.size, i, none⟩ := fun i => hn.cell (p := ⟨w.heap.size, i, none⟩) hg (by show w.heap.size ≠ x; omega)
  exact ⟨(e _).trans h.c0, (e _).trans h.c1, (e _).trans h.c2, (e _).trans h.c3, (e _).trans h.c4, h.bl.trans (hn.below (by omega) h.bl.size)⟩
theorem PN.butm (h : PN w g gw gr s t f l p us vs W) {us' : List Nat} (hm : MB g gw s t f l p us' W') (hn : But gw W W') : PN w g gw gr s t f l p us' vs W' := ⟨h.q.but hn h.sw, hm, h.r.but hn (Ne.symm h.n2), h.sw, h.sr, h.n1, h.n2⟩
theorem PN.butr (h : PN w g gw gr s t f l p us vs W) {vs' : List Nat} (hr : WB gr vs' W') (hn : But gr W W') : PN w g gw gr s t f l p us vs' W' := ⟨h.q.but hn h.sr, h.m.but hn h.n1 h.n2, hr, h.sw, h.sr, h.n1, h.n2⟩
theorem PO.next (h : PO w g gw gr g2 h2 s t f l p us vs ns W) (hn : Below W.heap.size W W') : PO w g gw gr g2 h2 s t f l p us vs ns W' := ⟨h.toPN.next hn, h.n.next hn, h.s2, h.d1, h.d2, h.d3⟩
theorem PO.butn (h : PO w g gw gr g2 h2 s t f l p us vs ns W) {ns' : List Nat} (hm : MB g2 h2 s t f l p ns' W') (hn : But h2 W W') : PO w g gw gr g2 h2 s t f l p us vs ns' W' :=
  ⟨⟨h.q.but hn h.s2, h.m.but hn h.d1 h.d2, h.r.but hn h.d3, h.sw, h.sr, h.n1, h.n2⟩, hm, h.s2, h.d1, h.d2, h.d3⟩
theorem PO.butr (h : PO w g gw gr g2 h2 s t f l p us vs ns W) {vs' : List Nat} (hr : WB gr vs' W') (hn : But gr W W') (hg2 : g2 ≠ gr) : PO w g gw gr g2 h2 s t f l p us vs' ns W' :=
  ⟨h.toPN.butr hr hn, h.n.but hn hg2 (Ne.symm h.d3), h.s2, h.d1, h.d2, h.d3⟩
end
/-- A round of the list of writes. -/
structure QL (w : World) (g gw gr : Nat) (s t f l p : Int) (us vs : List Nat) (b o : Nat) (a : Int) (x : Nat) (W : World) : Prop extends PN w g gw gr s t f l p us vs W where
  k0 : W.cell? ⟨b, o, none⟩ = some (.int .i64 a)
  k1 : W.cell? ⟨b, o + 1, none⟩ = some (.int .u64 (x : Nat))
/-- The layouts that are compared. -/
structure QC (w : World) (g2 : Nat) (s t f l p : Int) (wr W : World) : Prop extends CB w s t f l p W where
  e0 : W.cell? ⟨g2, 0, none⟩ = some (.int .i64 s)
  e1 : W.cell? ⟨g2, 1, none⟩ = some (.int .i64 t)
  e2 : W.cell? ⟨g2, 2, none⟩ = some (.int .i64 f)
  e3 : W.cell? ⟨g2, 3, none⟩ = some (.int .i64 l)
  e4 : W.cell? ⟨g2, 4, none⟩ = some (.int .i64 p)
  br : Below wr.heap.size wr W
theorem QC.next {w : World} {g2 : Nat} {s t f l p : Int} {wr W W' : World} (h : QC w g2 s t f l p wr W) (hn : Below W.heap.size W W') : QC w g2 s t f l p wr W' := by
  have hg : g2 < W.heap.size := World.block_lt_of_cell? W _ h.e0
  have e : ∀ i, W'.cell? ⟨g2, i, none⟩ = W.cell? ⟨g2, i, none⟩ := fun i => hn.cell (p := ⟨g2, i, none⟩) hg
  exact ⟨h.toCB.next hn, (e _).trans h.e0, (e _).trans h.e1, (e _).trans h.e2, (e _).trans h.e3, (e _).trans h.e4, h.br.trans (hn.mono h.br.size)⟩
theorem wrap_nat (x : Nat) (hx : x < 18446744073709551616) : ∃ v : Nat, IntKind.u64.wrap ((x : Int) + 1) = (v : Int) := by
  by_cases h : x + 1 < 18446744073709551616
  · exact ⟨x + 1, by rw [IntWalk.u64_in _ (by omega)]; omega⟩
  · refine ⟨0, ?_⟩
    have e : (x : Int) + 1 = 18446744073709551616 := by omega
    rw [e]; rfl
theorem mwords_one (g gw : Nat) (s t f l p : Int) (us vs : List Nat) (n v : Nat) (hn : us.length = n) (hl : n ≤ 100000) (h1 : 1 < n) (hv : vs = wr1 us (0, v)) (W : World) (hok : okL s t f l p) (hs : sizeL s t f = n) (h : MB g gw s t f l p vs W) :
    Calls Tryd.prog 14 #[.pointer (some ⟨g, 0, none⟩), .int .i64 1, .int .i64 n] W fun e w' => ∃ A c bb, e = .returned (.slice A (n - 1) c) ∧ SR w' A c bb 0 (subL us 1 n) ∧ Below W.heap.size W w' := by
  have hvl : vs.length = n := by rw [hv, wr1_len]; exact hn
  refine (mwords_sub g gw s t f l p vs 1 n (by omega) W hok (by rw [hs, hvl]) h).mono ?_
  rintro e w' ⟨A, c, bb, he, hsr, hb⟩
  rw [hvl, show (max (1 : Int) 0).toNat = 1 by omega, show (min (n : Int) (n : Int)).toNat = n by omega, hv, sub_tail us n v (by omega)] at he hsr
  refine ⟨A, c, bb, ?_, hsr, hb⟩
  rw [he, subL_len _ _ _ (by omega)]
theorem SR.tail {W : World} {gr n : Nat} {us : List Nat} (h : WB gr us W) (hn : us.length = n) (hl : n ≤ 100000) (h1 : 1 ≤ n) : SR W (some ⟨gr, 1, none⟩) (n - 1) gr 1 (subL us 1 n) := by
  subst hn
  have := (SR.of_wb h hl).sub 1 us.length h1 (Nat.le_refl _)
  rw [Nat.zero_add] at this; exact this
theorem rows_lt (rows : List (List Int)) (hw : ∀ r ∈ rows, wfRow [.i64, .u64] r) : ∀ r ∈ rows.map wqOf, r.2 < 18446744073709551616 := by
  intro r hr
  obtain ⟨x, hx, rfl⟩ := List.mem_map.1 hr
  have h := hw x hx
  have hl : 1 < x.length := by rw [h.1]; decide
  have h1 := u64_hi (h.2 1 .u64 x[1] rfl (List.getElem?_eq_getElem hl))
  have e : x.getD 1 0 = x[1] := by simp [List.getD, hl]
  show (x.getD 1 0).toNat < _
  rw [e]; omega
theorem CB.under {w : World} {s t f l p : Int} {B : Nat} {W W' : World} (h : CB w s t f l p W) (hn : Below B W W') (hw : w.heap.size < B) : CB w s t f l p W' := by
  have e : ∀ i, W'.cell? ⟨w.heap.size, i, none⟩ = W.cell? ⟨w.heap.size, i, none⟩ := fun i => hn.cell (p := ⟨w.heap.size, i, none⟩) hw
  exact ⟨(e _).trans h.c0, (e _).trans h.c1, (e _).trans h.c2, (e _).trans h.c3, (e _).trans h.c4, h.bl.trans (hn.mono (by omega))⟩
structure LTS (w : World) (g gw gr g2 h2 B : Nat) : Prop where
  x0 : w.heap.size < B
  x1 : g < B
  x2 : gw < B
  x3 : gr < B
  x4 : g2 < B
  x5 : h2 < B
theorem PO.lts {w : World} {g gw gr g2 h2 : Nat} {s t f l p : Int} {us vs ns : List Nat} {W : World} (h : PO w g gw gr g2 h2 s t f l p us vs ns W) : LTS w g gw gr g2 h2 W.heap.size :=
  ⟨World.block_lt_of_cell? W _ h.q.c0, h.m.r.lt, h.m.b.lt, h.r.lt, h.n.r.lt, h.n.b.lt⟩
theorem PO.under {w : World} {g gw gr g2 h2 B : Nat} {s t f l p : Int} {us vs ns : List Nat} {W W' : World} (h : PO w g gw gr g2 h2 s t f l p us vs ns W) (hn : Below B W W') (hl : LTS w g gw gr g2 h2 B) : PO w g gw gr g2 h2 s t f l p us vs ns W' :=
  ⟨⟨h.q.under hn hl.x0, h.m.under hn hl.x1 hl.x2, h.r.under hn hl.x3, h.sw, h.sr, h.n1, h.n2⟩, h.n.under hn hl.x4 hl.x5, h.s2, h.d1, h.d2, h.d3⟩
theorem subL_le (us : List Nat) (x y : Nat) : (subL us x y).length ≤ us.length := by
  unfold subL; rw [List.length_take, List.length_drop]; omega
end Go.Proofs.YtllkbofjegadeaaDoor
