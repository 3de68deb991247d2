/- advance.Advance: Just, Evicted. -/
import Derived.Test.YthcmgagmbioofaaDoorBits
import Derived.Test.YthcmgagmbioofaaDoorAdv
namespace Go.Proofs.YthcmgagmbioofaaDoor
set_option linter.unusedVariables false
open Go.RowKit Go.Shelf
attribute [local go_sem] Oper.semAt_some
abbrev ivs (zs : List Int) : List Value := zs.map fun z => .int .i64 z
theorem infoI : (Tryd.prog.info? 3).map (fun i => (i.zero, i.size, i.bytes)) = some (some (.int .i64 0), 1, 8) := by kernel_rfl
theorem sliceI : Tryd.prog.underlying 33 = some (.slice 3) := by kernel_rfl
set_option maxRecDepth 100000 in
set_option maxHeartbeats 1000000 in
theorem appendSeq_thr (Bw wd : Nat) (hw : wd < 18446744073709551616) (w : World) (hl : Bw < w.heap.size) (hBw : w.cell? ⟨Bw, 0, none⟩ = some (.int .u64 (wd : Nat))) :
    Calls Tryd.prog 56 #[.slice none 0 0, thV Bw] w fun e W' => ∃ v, e = .returned v ∧ W'.ownsRow w.heap.size 3 1 v (bitsTo wd 64).length (ivs (bitsTo wd 64)) ∧ Below w.heap.size w W' := by
  obtain ⟨i0, hi, hz0, hz1, hz2⟩ := info_parts infoI
  refine (callsIn_wide (n := 5)).1 ?_
  refine callsIn_of_wp_marks Tryd.func56 rfl trivial ?_ rfl
  simp only [Tryd.ntmps56, List.size_toArray, List.length_cons, List.length_nil, Nat.reduceAdd, Nat.reduceSub, Array.replicate_succ, Array.replicate_zero, List.push_toArray, List.append_toArray, List.nil_append, List.cons_append]
  gi_wp2
  have bO := Boxed.new w 33 (.slice none 0 0)
  have hB0 : Below w.heap.size w (w.alloc (.cells #[.slice none 0 0] 33)) := (Below.refl _ w).alloc (Nat.le_refl _) _
  have hBx : (w.alloc (.cells #[.slice none 0 0] 33)).cell? ⟨Bw, 0, none⟩ = some (.int .u64 (wd : Nat)) := (hB0.cell (p := ⟨Bw, 0, none⟩) hl).trans hBw
  refine wpIn_rangeFunc_ownG rfl (by omega) (gf := 55) (lb := #[.pointer (some ⟨Bw, 0, none⟩)]) rfl trivial (enters_of Tryd.func55 (by kernel_rfl) rfl)
    (threads_stops 4 (by omega) Bw wd hw _ (by simp; omega) hBx) kpW_t (kpW_b (by simp; omega)) (Below.refl _ _) (fun _ => rfl)
    (fun pre W => (∃ v, Boxed W w.heap.size 33 v ∧ W.ownsRow w.heap.size 3 1 v pre.length (ivs pre) ∧ True) ∧ Below w.heap.size w W)
    (fun _ _ _ => False)
    (OwnFrom.and (Own.from (holdsRow_own w.heap.size w.heap.size 33 3 1 (fun pre => pre.length) (fun pre => ivs pre) (fun pre v => True)) _) (ownFrom_below (Nat.le_refl _) (by simp)))
    (fun _ _ _ _ _ hs _ _ => hs)
    ⟨⟨_, bO, World.ownsRow_nil _ _ _ _, trivial⟩, hB0⟩ ?a1 ?assign ?body ?done ?stop
  case assign =>
    intro l x W K hK
    gi_wp2
    exact hK
  case body =>
    rintro l pre x W ⟨⟨v, hv, hrow, _⟩, hB⟩ hlt
    have hc := hv.cell
    clear hBx hB0 bO hBw
    gi_wp2_with (gi_at_builtin; refine wpListIn_append_own _ rfl _ _ 33 rfl w.heap.size 3 i0 (.int .i64 0) 1 8 sliceI hi hz0 hz1 hz2 rfl (by decide) _ _ _ rfl (hrow.alloc _) ⟨W.heap.size, 0, none⟩ 1 1 [.int .i64 x] rfl rfl (cell_one_new _ _ _) (by simp [Value.oneCell']) (by simp [maxLen]; omega) (by omega) (by have := hB.size; simp; omega) ?_; intro v' w1 hown' hgrow _; obtain ⟨g', cap', rfl⟩ := ownsRow_succ hown'; obtain ⟨hv1, hv2, hr2, hk2, hb2⟩ := hv.appended (by decide) hrow hB.size (Nat.le_refl _) hown' hgrow; have hc1 := hv1.cell; have hf1 := hv1.frozen)
    all_goals first
      | exact ⟨hk2.from _, hb2.block _ hl, ⟨_, hv2, by simpa [ivs] using hr2, trivial⟩, hB.trans hb2⟩
      | (exfalso; omega)
  case done =>
    rintro D ys W hD rfl ⟨⟨v, hv, hrow, _⟩, hB⟩ hK
    have hc := hv.cell
    clear hBx hB0 bO hBw
    gi_wp2
    refine ⟨by simp, .inl ⟨_, _, rfl, run_takeDeferred hK, ?_⟩⟩
    exact ⟨_, results_tmp rfl _ _ _, v, rfl, ownsRow_putObj hrow _ hK rfl, hB.trans (belowK_b (w := w) (Nat.le_refl _) W D _ _ (by simp at hD; omega) hK rfl rfl)⟩
  case stop =>
    rintro D c pre W _ _ h _
    exact h.elim
theorem collect_thr (Bw wd : Nat) (hw : wd < 18446744073709551616) (w : World) (hl : Bw < w.heap.size) (hBw : w.cell? ⟨Bw, 0, none⟩ = some (.int .u64 (wd : Nat))) :
    Calls Tryd.prog 34 #[thV Bw] w fun e W' => ∃ v, e = .returned v ∧ W'.ownsRow w.heap.size 3 1 v (bitsTo wd 64).length (ivs (bitsTo wd 64)) ∧ Below w.heap.size w W' := by
  have A := Lib.hid (appendSeq_thr Bw wd hw w hl hBw)
  clear hBw
  go_enter Tryd.func34, Tryd.ntmps34
  go_wp2_with (go_at_call 56; refine A.out.mono ?_; rintro e w' ⟨v, rfl, hrow, hb⟩; have HR := Lib.hid hrow; clear hrow)
  go_ret
  exact ⟨v, rfl, HR.out, hb⟩
theorem rowLw {b1 b2 n sz : Nat} {e : TypeId} {v : Value} {xs : List Value} {W : World} (h : W.ownsRow b1 e sz v n xs) (hb : b2 ≤ b1) : W.ownsRow b2 e sz v n xs := by
  obtain ⟨h1, h2⟩ := h
  refine ⟨h1, ?_⟩
  rcases h2 with h2 | ⟨g, cap, cur, hv, hg, hh, h3⟩
  · exact .inl h2
  · exact .inr ⟨g, cap, cur, hv, Nat.le_trans hb hg, hh, h3⟩
set_option maxHeartbeats 1000000 in
/-- Who was evicted: the bits, rising. -/
theorem evicted_any (s t f l p th st oc ep ot wd ju : Int) (ev : Nat) (hw : ev < 18446744073709551616) (W : World) :
    Calls Tryd.prog 16 #[adV ⟨s, t, f, l, p, th, st, oc, ep, ot, wd, (ev : Nat), ju⟩] W fun e W' => ∃ v, e = .returned v ∧ W'.ownsRow W.heap.size 3 1 v (bitsTo ev 64).length (ivs (bitsTo ev 64)) ∧ Below W.heap.size W W' := by
  have b1 := below1 W (adRow ⟨s, t, f, l, p, th, st, oc, ep, ot, wd, (ev : Nat), ju⟩)
  have b2 := b1.alloc b1.size (.cells #[.int .u64 (ev : Nat)] 28)
  have C := Lib.hid (collect_thr (W.heap.size + 1) ev hw ((W.alloc (adRow ⟨s, t, f, l, p, th, st, oc, ep, ot, wd, (ev : Nat), ju⟩)).alloc (.cells #[.int .u64 (ev : Nat)] 28)) (by simp) (by simp))
  have B2 := Lib.hid b2
  have T := Lib.hid (threads_any ev)
  clear b1 b2
  go_enter Tryd.func16, Tryd.ntmps16
  go_wp2_with (first | (go_at_call 33; refine (T.out _).mono ?_; rintro e w' ⟨rfl, rfl⟩) | (go_at_call 34; (with_reducible refine C.out.mono ?_); rintro e w' ⟨v, rfl, hrow, hb⟩; have HR := Lib.hid hrow; clear hrow))
  go_ret
  exact ⟨v, rfl, rowLw HR.out (by simp; omega), B2.out.trans (hb.mono B2.out.size)⟩
theorem bits_last {w k : Nat} {x : Int} (h : [x] = bitsTo w k ++ [(k : Int)]) : x = (k : Int) := by
  cases hq : bitsTo w k with
  | nil => rw [hq] at h; simpa using h
  | cons y ys => rw [hq] at h; simp at h
set_option maxRecDepth 100000 in
set_option maxHeartbeats 1000000 in
theorem just_of (s t f l p th st oc ep ot wd ev : Int) (ju : Nat) (j : Int) (hw : ju < 18446744073709551616) (hj : (ju = 0 ∧ j = -1) ∨ ∃ m : Nat, m < 64 ∧ ju = 2 ^ m ∧ j = (m : Nat)) (w : World) :
    Calls Tryd.prog 14 #[adV ⟨s, t, f, l, p, th, st, oc, ep, ot, wd, ev, (ju : Nat)⟩] w fun e W' => e = .returned (.int .i64 j) ∧ Below w.heap.size w W' := by
  have HJ := Lib.hid hj
  clear hj
  have T := Lib.hid (threads_any ju)
  refine (callsIn_wide (n := 5)).1 ?_
  refine callsIn_of_wp_marks Tryd.func14 rfl trivial ?_ rfl
  simp only [Tryd.ntmps14, List.size_toArray, List.length_cons, List.length_nil, Nat.reduceAdd, Nat.reduceSub, Array.replicate_succ, Array.replicate_zero, List.push_toArray, List.append_toArray, List.nil_append, List.cons_append]
  gi_wp2_with (refine ⟨trivial, ?_⟩; gi_at_call 33; refine (callsIn_wide.2 (T.out _)).mono ?_; rintro e w' ⟨rfl, rfl⟩)
  have hB0 : Below w.heap.size w (((w.alloc (adRow ⟨s, t, f, l, p, th, st, oc, ep, ot, wd, ev, (ju : Nat)⟩)).alloc (.cells #[.int .i64 0] 3)).alloc (.cells #[.int .u64 (ju : Nat)] 28)) := (below2 w (adRow ⟨s, t, f, l, p, th, st, oc, ep, ot, wd, ev, (ju : Nat)⟩) (.cells #[.int .i64 0] 3)).alloc (below2 w (adRow ⟨s, t, f, l, p, th, st, oc, ep, ot, wd, ev, (ju : Nat)⟩) (.cells #[.int .i64 0] 3)).size _
  have bR := (Boxed.new (w.alloc (adRow ⟨s, t, f, l, p, th, st, oc, ep, ot, wd, ev, (ju : Nat)⟩)) 3 (.int .i64 0)).alloc (.cells #[.int .u64 (ju : Nat)] 28)
  have bW0 := Boxed.new ((w.alloc (adRow ⟨s, t, f, l, p, th, st, oc, ep, ot, wd, ev, (ju : Nat)⟩)).alloc (.cells #[.int .i64 0] 3)) 28 (.int .u64 (ju : Nat))
  simp only [World.size_alloc] at bW0
  have bW := bW0.cell
  have hsz : (((w.alloc (adRow ⟨s, t, f, l, p, th, st, oc, ep, ot, wd, ev, (ju : Nat)⟩)).alloc (.cells #[.int .i64 0] 3)).alloc (.cells #[.int .u64 (ju : Nat)] 28)).heap.size = w.heap.size + 3 := by simp
  simp only [World.size_alloc] at bR
  refine wpIn_rangeFunc_ownG rfl (by omega) (gf := 55) (lb := #[.pointer (some ⟨w.heap.size + 1 + 1, 0, none⟩)]) rfl trivial (enters_of Tryd.func55 (by kernel_rfl) rfl)
    (threads_stops 4 (by omega) (w.heap.size + 1 + 1) ju hw _ (by rw [hsz]; omega) bW) kpW_t (kpW_b (by rw [hsz]; omega)) (Below.refl _ _) (fun _ => rfl)
    (fun pre W => (pre = [] ∧ Boxed W (w.heap.size + 1) 3 (.int .i64 0)) ∧ Below w.heap.size w W)
    (fun c pre W => (∃ x : Int, c = .ret ∧ pre = [x] ∧ Boxed W (w.heap.size + 1) 3 (.int .i64 x)) ∧ Below w.heap.size w W)
    (OwnFrom.and (Own.from (fun s A B row hs hg hr => ⟨hs.1, boxed_own (w.heap.size + 1) 3 (fun _ => .int .i64 0) s A B row hs.2 hg hr⟩) _) (ownFrom_below (Nat.le_refl _) (by rw [hsz]; omega)))
    (fun c => OwnFrom.and (Own.from (fun s A B row hs hg hr => by obtain ⟨x, h1, h2, h3⟩ := hs; exact ⟨x, h1, h2, boxed_own (w.heap.size + 1) 3 (fun _ => .int .i64 x) s A B row h3 hg hr⟩) _) (ownFrom_below (Nat.le_refl _) (by rw [hsz]; omega)))
    ⟨⟨rfl, bR⟩, hB0⟩ ?a1 ?assign ?body ?done ?stop
  case assign =>
    intro l x W K hK
    gi_wp2
    exact hK
  case body =>
    rintro l pre x W ⟨⟨rfl, hv⟩, hB⟩ hlt
    have hc := hv.cell
    have hf := hv.frozen
    clear bR bW bW0 hB0
    gi_wp2
    exact ⟨(KeepsOthers.setCell _ _ _).from _, ⟨x, rfl, rfl, hv.set _⟩, hB.setCell (p := ⟨w.heap.size + 1, 0, none⟩) (by show w.heap.size ≤ w.heap.size + 1; omega) _⟩
  case done =>
    rintro D ys W hD hys ⟨⟨rfl, hv⟩, hB⟩ hK
    have hc := hv.cell
    have hf := hv.frozen
    obtain rfl : j = -1 := by
      rcases HJ.out with ⟨_, h⟩ | ⟨m, hm, rfl, _⟩
      · exact h
      · rw [bitsTo_pow m hm] at hys; cases hys
    clear bR bW bW0 hB0
    gi_wp2
    have hK' := (KeepsOthers.setCell W ⟨w.heap.size + 1, 0, none⟩ (.int .i64 (-1))).same D _ hK rfl
    refine ⟨by simp, .inl ⟨_, _, rfl, run_takeDeferred hK', ?_⟩⟩
    have hc5 := cell_kept (World.cell?_setCell_same' W ⟨w.heap.size + 1, 0, none⟩ (.int .i64 (-1)) (by rw [hc]; rfl)) (grownBy_putObj' _ D (.deferred none)) (fun r e => by cases e; exact ⟨_, hK', rfl⟩)
    exact ⟨.int .i64 (-1), by simp [results, Tryd.results14, go_sem, hc5], rfl, (hB.setCell (p := ⟨w.heap.size + 1, 0, none⟩) (by show w.heap.size ≤ w.heap.size + 1; omega) _).trans (belowK_b (w := w) (Nat.le_refl _) _ D _ _ (by rw [hsz] at hD; omega) hK' rfl rfl)⟩
  case stop =>
    rintro D c pre W hD hpre ⟨⟨x, rfl, rfl, hv⟩, hB⟩ hK
    have hc := hv.cell
    obtain rfl : x = j := by
      obtain ⟨k, hk, hb, he⟩ := hpre
      have hx := bits_last he
      rcases HJ.out with ⟨rfl, h⟩ | ⟨m, hm, rfl, hjm⟩
      · simp at hb
      · rw [hx, hjm, bits_pow_first m k hb]
    clear bR bW bW0 hB0
    gi_wp2
    refine ⟨by simp, .inl ⟨_, _, rfl, run_takeDeferred hK, ?_⟩⟩
    have hc5 := cell_kept hc (grownBy_putObj' _ D (.deferred none)) (fun r e => by cases e; exact ⟨_, hK, rfl⟩)
    exact ⟨.int .i64 x, by simp [results, Tryd.results14, go_sem, hc5], rfl, hB.trans (belowK_b (w := w) (Nat.le_refl _) W D _ _ (by rw [hsz] at hD; omega) hK rfl rfl)⟩
end Go.Proofs.YthcmgagmbioofaaDoor
