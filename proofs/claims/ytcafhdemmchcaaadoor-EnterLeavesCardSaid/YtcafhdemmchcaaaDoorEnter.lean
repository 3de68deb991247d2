/- enter.Enter: its contracts. -/
import Derived.Test.YtcafhdemmchcaaaDoorTells
import Derived.Test.YtcafhdemmchcaaaDoorAword
namespace Go.Proofs.YtcafhdemmchcaaaDoor
set_option linter.unusedVariables false
open Go.RowKit Go.Extern.Stop Go.Stop Go.Extern
structure En where
  s : Int
  t : Int
  f : Int
  l : Int
  p : Int
  th : Int
  st : Int
  sl : Bool
  ep : Int
  ck : Int
abbrev entV (x : En) : Value := .agg #[.int .i64 x.s, .int .i64 x.t, .int .i64 x.f, .int .i64 x.l, .int .i64 x.p, .int .i64 x.th, .int .i64 x.st, .bool x.sl, .int .u64 x.ep, .int .u64 x.ck]
abbrev rowV (x : En) : Obj := .cells #[.int .i64 x.s, .int .i64 x.t, .int .i64 x.f, .int .i64 x.l, .int .i64 x.p, .int .i64 x.th, .int .i64 x.st, .bool x.sl, .int .u64 x.ep, .int .u64 x.ck] 30
abbrev askV (k a o n : Int) : Value := .agg #[.int .i64 k, .int .i64 a, .int .u64 o, .int .u64 n]
abbrev En.none (b : Bool) : En := ⟨0, 0, 0, 0, 0, 0, 0, b, 0, 0⟩
def En.took (x : En) (n : Int) : En :=
  if x.st = 1 then ⟨x.s, x.t, x.f, x.l, x.p, x.th, 2, x.sl || decide (n % 4 = 2), x.ep, x.ck⟩
  else if x.st = 2 then ⟨x.s, x.t, x.f, x.l, x.p, x.th, 3, x.sl, n, x.ck⟩
  else if x.st = 3 then ⟨x.s, x.t, x.f, x.l, x.p, x.th, 4, x.sl, x.ep, n⟩
  else if x.st = 4 then En.none x.sl else x
/-- What an Enter's block holds. -/
structure EC (g : Nat) (x : En) (W : World) : Prop where
  c0 : W.cell? ⟨g, 0, none⟩ = some (.int .i64 x.s)
  c1 : W.cell? ⟨g, 1, none⟩ = some (.int .i64 x.t)
  c2 : W.cell? ⟨g, 2, none⟩ = some (.int .i64 x.f)
  c3 : W.cell? ⟨g, 3, none⟩ = some (.int .i64 x.l)
  c4 : W.cell? ⟨g, 4, none⟩ = some (.int .i64 x.p)
  c5 : W.cell? ⟨g, 5, none⟩ = some (.int .i64 x.th)
  c6 : W.cell? ⟨g, 6, none⟩ = some (.int .i64 x.st)
  c7 : W.cell? ⟨g, 7, none⟩ = some (.bool x.sl)
  c8 : W.cell? ⟨g, 8, none⟩ = some (.int .u64 x.ep)
  c9 : W.cell? ⟨g, 9, none⟩ = some (.int .u64 x.ck)
  fz : ∀ i, W.frozen? ⟨g, i, none⟩ = false
theorem EC.lt {g : Nat} {x : En} {W : World} (h : EC g x W) : g < W.heap.size := World.block_lt_of_cell? W _ h.c0
theorem EC.next {g : Nat} {x : En} {W W' : World} (h : EC g x W) (hb : Below W.heap.size W W') : EC g x W' := by
  have c : ∀ j, W'.cell? ⟨g, j, none⟩ = W.cell? ⟨g, j, none⟩ := fun j => hb.cell (p := ⟨g, j, none⟩) h.lt
  exact ⟨(c _).trans h.c0, (c _).trans h.c1, (c _).trans h.c2, (c _).trans h.c3, (c _).trans h.c4, (c _).trans h.c5, (c _).trans h.c6, (c _).trans h.c7, (c _).trans h.c8, (c _).trans h.c9, fun i => (hb.frozen (p := ⟨g, i, none⟩) h.lt).trans (h.fz i)⟩
theorem EC.drew {g : Nat} {x : En} {W : World} (h : EC g x W) : EC g x W.drew := ⟨h.c0, h.c1, h.c2, h.c3, h.c4, h.c5, h.c6, h.c7, h.c8, h.c9, h.fz⟩
theorem EC.alloc (W : World) (x : En) : EC W.heap.size x (W.alloc (rowV x)) := ⟨by simp, by simp, by simp, by simp, by simp, by simp, by simp, by simp, by simp, by simp, fun i => by simp⟩
abbrev putE (W : World) (g : Nat) (x : En) : World := (((((((((W.setCell ⟨g, 0, none⟩ (.int .i64 x.s)).setCell ⟨g, 1, none⟩ (.int .i64 x.t)).setCell ⟨g, 2, none⟩ (.int .i64 x.f)).setCell ⟨g, 3, none⟩ (.int .i64 x.l)).setCell ⟨g, 4, none⟩ (.int .i64 x.p)).setCell ⟨g, 5, none⟩ (.int .i64 x.th)).setCell ⟨g, 6, none⟩ (.int .i64 x.st)).setCell ⟨g, 7, none⟩ (.bool x.sl)).setCell ⟨g, 8, none⟩ (.int .u64 x.ep)).setCell ⟨g, 9, none⟩ (.int .u64 x.ck)
theorem EC.store {g : Nat} {y : En} {W : World} (h : EC g y W) (x : En) : EC g x (putE W g x) := by
  obtain ⟨c0, c1, c2, c3, c4, c5, c6, c7, c8, c9, fz⟩ := h
  exact ⟨by unfold putE; simp [go_sem, c0], by unfold putE; simp [go_sem, c1], by unfold putE; simp [go_sem, c2], by unfold putE; simp [go_sem, c3], by unfold putE; simp [go_sem, c4], by unfold putE; simp [go_sem, c5], by unfold putE; simp [go_sem, c6], by unfold putE; simp [go_sem, c7], by unfold putE; simp [go_sem, c8], by unfold putE; simp [go_sem, c9], fun i => by unfold putE; simp [go_sem, fz]⟩
theorem EC.keep {g g' : Nat} {y : En} {W : World} (h : EC g' y W) (hne : g ≠ g') (x : En) : EC g' y (putE W g x) := by
  obtain ⟨c0, c1, c2, c3, c4, c5, c6, c7, c8, c9, fz⟩ := h
  have hne2 : g' ≠ g := fun e => hne e.symm
  exact ⟨by unfold putE; simp [go_sem, c0], by unfold putE; simp [go_sem, c1], by unfold putE; simp [go_sem, c2], by unfold putE; simp [go_sem, c3], by unfold putE; simp [go_sem, c4], by unfold putE; simp [go_sem, c5], by unfold putE; simp [go_sem, c6], by unfold putE; simp [go_sem, c7], by unfold putE; simp [go_sem, c8], by unfold putE; simp [go_sem, c9], fun i => by unfold putE; simp [go_sem, fz]⟩
theorem belowE {B : Nat} {a W : World} (h : Below B a W) {g : Nat} (hg : B ≤ g) (x : En) : Below B a (putE W g x) := by
  exact ((((((((((h.setCell hg _).setCell hg _).setCell hg _).setCell hg _).setCell hg _).setCell hg _).setCell hg _).setCell hg _).setCell hg _).setCell hg _)
set_option maxHeartbeats 1000000 in
theorem took_1t (s t f l p th : Int) (ep ck : Int) (n : Nat) (hn : n < 18446744073709551616) (W : World) :
    Calls Tryd.prog 13 #[.agg #[.int .i64 s, .int .i64 t, .int .i64 f, .int .i64 l, .int .i64 p, .int .i64 th, .int .i64 1, .bool true, .int .u64 ep, .int .u64 ck], .int .u64 n] W fun e w' => e = .returned (.agg #[.int .i64 s, .int .i64 t, .int .i64 f, .int .i64 l, .int .i64 p, .int .i64 th, .int .i64 2, .bool true, .int .u64 ep, .int .u64 ck]) ∧ Below W.heap.size W w' := by
  have hB := Lib.hid (below2 W)
  go_enter Tryd.func13, Tryd.ntmps13
  go_wp2
  exact bodyPost_ret (v := .agg #[.int .i64 s, .int .i64 t, .int .i64 f, .int .i64 l, .int .i64 p, .int .i64 th, .int .i64 2, .bool true, .int .u64 ep, .int .u64 ck]) (by simp [results, Tryd.results13, go_sem]) rfl ⟨rfl, (by repeat (first | (with_reducible refine Below.setCell ?_ (by simp) _) | (with_reducible refine below_drewN7 ?_ _) | exact hB.out _ _ | exact Nat.le_refl _))⟩
set_option maxHeartbeats 1000000 in
theorem took_1y (s t f l p th : Int) (ep ck : Int) (n : Nat) (hn : n < 18446744073709551616) (hv : n % 4 = 2) (W : World) :
    Calls Tryd.prog 13 #[.agg #[.int .i64 s, .int .i64 t, .int .i64 f, .int .i64 l, .int .i64 p, .int .i64 th, .int .i64 1, .bool false, .int .u64 ep, .int .u64 ck], .int .u64 n] W fun e w' => e = .returned (.agg #[.int .i64 s, .int .i64 t, .int .i64 f, .int .i64 l, .int .i64 p, .int .i64 th, .int .i64 2, .bool true, .int .u64 ep, .int .u64 ck]) ∧ Below W.heap.size W w' := by
  have hB := Lib.hid (below2 W)
  have S : RowKit.Hid (∀ W : World, Calls Tryd.prog 31 #[.int .u64 n] W fun e w' => e = .returned (.int .i64 2) ∧ ∃ m, w' = W.drewN m) := Lib.hid (fun W => by have := astate_any n hn W; rw [hv] at this; exact this)
  clear hv
  go_enter Tryd.func13, Tryd.ntmps13
  go_wp2_with (go_at_call 31; refine (S.out _).mono ?_; rintro e w1 ⟨rfl, m, rfl⟩)
  exact bodyPost_ret (v := .agg #[.int .i64 s, .int .i64 t, .int .i64 f, .int .i64 l, .int .i64 p, .int .i64 th, .int .i64 2, .bool true, .int .u64 ep, .int .u64 ck]) (by simp [results, Tryd.results13, go_sem]) rfl ⟨rfl, (by repeat (first | (with_reducible refine Below.setCell ?_ (by simp) _) | (with_reducible refine below_drewN7 ?_ _) | exact hB.out _ _ | exact Nat.le_refl _))⟩
set_option maxHeartbeats 1000000 in
theorem took_1n (s t f l p th : Int) (ep ck : Int) (n : Nat) (hn : n < 18446744073709551616) (hv : n % 4 ≠ 2) (W : World) :
    Calls Tryd.prog 13 #[.agg #[.int .i64 s, .int .i64 t, .int .i64 f, .int .i64 l, .int .i64 p, .int .i64 th, .int .i64 1, .bool false, .int .u64 ep, .int .u64 ck], .int .u64 n] W fun e w' => e = .returned (.agg #[.int .i64 s, .int .i64 t, .int .i64 f, .int .i64 l, .int .i64 p, .int .i64 th, .int .i64 2, .bool false, .int .u64 ep, .int .u64 ck]) ∧ Below W.heap.size W w' := by
  have hB := Lib.hid (below2 W)
  have S : RowKit.Hid (∀ W : World, Calls Tryd.prog 31 #[.int .u64 n] W fun e w' => e = .returned (.int .i64 (n % 4 : Nat)) ∧ ∃ m, w' = W.drewN m) := Lib.hid (astate_any n hn)
  generalize n % 4 = v at S hv
  have hv2 : ((v : Int) == 2) = false := by simp; omega
  clear hv
  go_enter Tryd.func13, Tryd.ntmps13
  go_wp2_with (go_at_call 31; refine (S.out _).mono ?_; rintro e w1 ⟨rfl, m, rfl⟩)
  exact bodyPost_ret (v := .agg #[.int .i64 s, .int .i64 t, .int .i64 f, .int .i64 l, .int .i64 p, .int .i64 th, .int .i64 2, .bool false, .int .u64 ep, .int .u64 ck]) (by simp [results, Tryd.results13, go_sem]) rfl ⟨rfl, (by repeat (first | (with_reducible refine Below.setCell ?_ (by simp) _) | (with_reducible refine below_drewN7 ?_ _) | exact hB.out _ _ | exact Nat.le_refl _))⟩
set_option maxHeartbeats 1000000 in
theorem took_2 (s t f l p th : Int) (sl : Bool) (ep ck : Int) (n : Nat) (hn : n < 18446744073709551616) (W : World) :
    Calls Tryd.prog 13 #[.agg #[.int .i64 s, .int .i64 t, .int .i64 f, .int .i64 l, .int .i64 p, .int .i64 th, .int .i64 2, .bool sl, .int .u64 ep, .int .u64 ck], .int .u64 n] W fun e w' => e = .returned (.agg #[.int .i64 s, .int .i64 t, .int .i64 f, .int .i64 l, .int .i64 p, .int .i64 th, .int .i64 3, .bool sl, .int .u64 n, .int .u64 ck]) ∧ Below W.heap.size W w' := by
  have hB := Lib.hid (below2 W)
  go_enter Tryd.func13, Tryd.ntmps13
  go_wp2
  exact bodyPost_ret (v := .agg #[.int .i64 s, .int .i64 t, .int .i64 f, .int .i64 l, .int .i64 p, .int .i64 th, .int .i64 3, .bool sl, .int .u64 n, .int .u64 ck]) (by simp [results, Tryd.results13, go_sem]) rfl ⟨rfl, (by repeat (first | (with_reducible refine Below.setCell ?_ (by simp) _) | (with_reducible refine below_drewN7 ?_ _) | exact hB.out _ _ | exact Nat.le_refl _))⟩
set_option maxHeartbeats 1000000 in
theorem took_3 (s t f l p th : Int) (sl : Bool) (ep ck : Int) (n : Nat) (hn : n < 18446744073709551616) (W : World) :
    Calls Tryd.prog 13 #[.agg #[.int .i64 s, .int .i64 t, .int .i64 f, .int .i64 l, .int .i64 p, .int .i64 th, .int .i64 3, .bool sl, .int .u64 ep, .int .u64 ck], .int .u64 n] W fun e w' => e = .returned (.agg #[.int .i64 s, .int .i64 t, .int .i64 f, .int .i64 l, .int .i64 p, .int .i64 th, .int .i64 4, .bool sl, .int .u64 ep, .int .u64 n]) ∧ Below W.heap.size W w' := by
  have hB := Lib.hid (below2 W)
  go_enter Tryd.func13, Tryd.ntmps13
  go_wp2
  exact bodyPost_ret (v := .agg #[.int .i64 s, .int .i64 t, .int .i64 f, .int .i64 l, .int .i64 p, .int .i64 th, .int .i64 4, .bool sl, .int .u64 ep, .int .u64 n]) (by simp [results, Tryd.results13, go_sem]) rfl ⟨rfl, (by repeat (first | (with_reducible refine Below.setCell ?_ (by simp) _) | (with_reducible refine below_drewN7 ?_ _) | exact hB.out _ _ | exact Nat.le_refl _))⟩
set_option maxHeartbeats 1000000 in
theorem took_4 (s t f l p th : Int) (sl : Bool) (ep ck : Int) (n : Nat) (hn : n < 18446744073709551616) (W : World) :
    Calls Tryd.prog 13 #[.agg #[.int .i64 s, .int .i64 t, .int .i64 f, .int .i64 l, .int .i64 p, .int .i64 th, .int .i64 4, .bool sl, .int .u64 ep, .int .u64 ck], .int .u64 n] W fun e w' => e = .returned (.agg #[.int .i64 0, .int .i64 0, .int .i64 0, .int .i64 0, .int .i64 0, .int .i64 0, .int .i64 0, .bool sl, .int .u64 0, .int .u64 0]) ∧ Below W.heap.size W w' := by
  have hB := Lib.hid (below2 W)
  go_enter Tryd.func13, Tryd.ntmps13
  go_wp2
  exact bodyPost_ret (v := .agg #[.int .i64 0, .int .i64 0, .int .i64 0, .int .i64 0, .int .i64 0, .int .i64 0, .int .i64 0, .bool sl, .int .u64 0, .int .u64 0]) (by simp [results, Tryd.results13, go_sem]) rfl ⟨rfl, (by repeat (first | (with_reducible refine Below.setCell ?_ (by simp) _) | (with_reducible refine below_drewN7 ?_ _) | exact hB.out _ _ | exact Nat.le_refl _))⟩
set_option maxHeartbeats 1000000 in
theorem took_0 (s t f l p th st : Int) (sl : Bool) (ep ck : Int) (n : Nat) (hn : n < 18446744073709551616) (h1 : (st == 1) = false) (h2 : (st == 2) = false) (h3 : (st == 3) = false) (h4 : (st == 4) = false) (W : World) :
    Calls Tryd.prog 13 #[.agg #[.int .i64 s, .int .i64 t, .int .i64 f, .int .i64 l, .int .i64 p, .int .i64 th, .int .i64 st, .bool sl, .int .u64 ep, .int .u64 ck], .int .u64 n] W fun e w' => e = .returned (.agg #[.int .i64 s, .int .i64 t, .int .i64 f, .int .i64 l, .int .i64 p, .int .i64 th, .int .i64 st, .bool sl, .int .u64 ep, .int .u64 ck]) ∧ Below W.heap.size W w' := by
  have hB := Lib.hid (below2 W)
  go_enter Tryd.func13, Tryd.ntmps13
  go_wp2
  exact bodyPost_ret (v := .agg #[.int .i64 s, .int .i64 t, .int .i64 f, .int .i64 l, .int .i64 p, .int .i64 th, .int .i64 st, .bool sl, .int .u64 ep, .int .u64 ck]) (by simp [results, Tryd.results13, go_sem]) rfl ⟨rfl, (by repeat (first | (with_reducible refine Below.setCell ?_ (by simp) _) | (with_reducible refine below_drewN7 ?_ _) | exact hB.out _ _ | exact Nat.le_refl _))⟩
theorem took_any (x : En) (n : Nat) (hn : n < 18446744073709551616) (W : World) :
    Calls Tryd.prog 13 #[entV x, .int .u64 n] W fun e w' => e = .returned (entV (x.took n)) ∧ Below W.heap.size W w' := by
  obtain ⟨s, t, f, l, p, th, st, sl, ep, ck⟩ := x
  unfold En.took
  by_cases a1 : st = 1
  · subst a1
    rw [if_pos rfl]
    cases sl with
    | true => simp only [Bool.true_or]; exact took_1t s t f l p th ep ck n hn W
    | false =>
      simp only [Bool.false_or]
      by_cases hv : n % 4 = 2
      · rw [decide_eq_true (show ((n : Int) % 4 = 2) by omega)]; exact took_1y s t f l p th ep ck n hn hv W
      · rw [decide_eq_false (show ¬ ((n : Int) % 4 = 2) by omega)]; exact took_1n s t f l p th ep ck n hn hv W
  by_cases a2 : st = 2
  · subst a2; exact took_2 s t f l p th sl ep ck n hn W
  by_cases a3 : st = 3
  · subst a3; exact took_3 s t f l p th sl ep ck n hn W
  by_cases a4 : st = 4
  · subst a4; exact took_4 s t f l p th sl ep ck n hn W
  · simp only [if_neg a1, if_neg a2, if_neg a3, if_neg a4]
    exact took_0 s t f l p th st sl ep ck n hn (by simp; omega) (by simp; omega) (by simp; omega) (by simp; omega) W
theorem done_yes (s t f l p th : Int) (sl : Bool) (ep ck : Int) (W : World) :
    Calls Tryd.prog 10 #[.agg #[.int .i64 s, .int .i64 t, .int .i64 f, .int .i64 l, .int .i64 p, .int .i64 th, .int .i64 0, .bool sl, .int .u64 ep, .int .u64 ck]] W fun e w' => e = .returned (.tuple #[.bool sl, .bool true]) ∧ Below W.heap.size W w' := by
  have hB := Lib.hid (below1 W)
  go_enter Tryd.func10, Tryd.ntmps10
  go_wp2
  go_ret2
  exact ⟨rfl, hB.out _⟩
theorem done_no (s t f l p th st : Int) (sl : Bool) (ep ck : Int) (h : st ≠ 0) (W : World) :
    Calls Tryd.prog 10 #[.agg #[.int .i64 s, .int .i64 t, .int .i64 f, .int .i64 l, .int .i64 p, .int .i64 th, .int .i64 st, .bool sl, .int .u64 ep, .int .u64 ck]] W fun e w' => e = .returned (.tuple #[.bool false, .bool false]) ∧ Below W.heap.size W w' := by
  have hB := Lib.hid (below1 W)
  have h0 : (st == 0) = false := by simp; omega
  clear h
  go_enter Tryd.func10, Tryd.ntmps10
  go_wp2
  go_ret2
  exact ⟨rfl, hB.out _⟩
theorem want_0 (s t f l p th : Int) (sl : Bool) (ep ck : Int) (W : World) :
    Calls Tryd.prog 11 #[.agg #[.int .i64 s, .int .i64 t, .int .i64 f, .int .i64 l, .int .i64 p, .int .i64 th, .int .i64 0, .bool sl, .int .u64 ep, .int .u64 ck]] W fun e w' => e = .returned (askV 0 0 0 0) ∧ Below W.heap.size W w' := by
  have hB := Lib.hid (below2 W)
  go_enter Tryd.func11, Tryd.ntmps11
  go_wp2
  exact bodyPost_ret (v := askV 0 0 0 0) (by simp [results, Tryd.results11, go_sem]) rfl ⟨rfl, (by repeat (first | (with_reducible refine Below.setCell ?_ (by simp) _) | (with_reducible refine below_drewN7 ?_ _) | exact hB.out _ _ | exact Nat.le_refl _))⟩
theorem state_any (s t f l p th st : Int) (sl : Bool) (ep ck : Int) (W : World) :
    Calls Tryd.prog 28 #[.agg #[.int .i64 s, .int .i64 t, .int .i64 f, .int .i64 l, .int .i64 p, .int .i64 th, .int .i64 st, .bool sl, .int .u64 ep, .int .u64 ck]] W fun e w' => e = .returned (.int .i64 (if sl then 3 else 1)) ∧ Below W.heap.size W w' := by
  have hB := Lib.hid (below1 W)
  cases sl
  all_goals
    go_enter Tryd.func28, Tryd.ntmps28
    go_wp2
    go_ret
    exact ⟨rfl, hB.out _⟩
/-- An Enter's block, and that of an answer. -/
structure KE (B : Nat) (w0 : World) (g : Nat) (x : En) (r : Nat) (W : World) : Prop extends EC g x W where
  r0 : W.cell? ⟨r, 0, none⟩ = some (.int .i64 0)
  r1 : W.cell? ⟨r, 1, none⟩ = some (.int .i64 0)
  r2 : W.cell? ⟨r, 2, none⟩ = some (.int .u64 0)
  r3 : W.cell? ⟨r, 3, none⟩ = some (.int .u64 0)
  rz : ∀ i, W.frozen? ⟨r, i, none⟩ = false
  bl : Below B w0 W
  le : B ≤ W.heap.size
theorem KE.next {B : Nat} {w0 : World} {g : Nat} {x : En} {r : Nat} {W W' : World} (h : KE B w0 g x r W) (hb : Below W.heap.size W W') : KE B w0 g x r W' := by
  have hr : r < W.heap.size := World.block_lt_of_cell? W _ h.r0
  have c : ∀ j, W'.cell? ⟨r, j, none⟩ = W.cell? ⟨r, j, none⟩ := fun j => hb.cell (p := ⟨r, j, none⟩) hr
  exact ⟨h.toEC.next hb, (c _).trans h.r0, (c _).trans h.r1, (c _).trans h.r2, (c _).trans h.r3, fun i => (hb.frozen (p := ⟨r, i, none⟩) hr).trans (h.rz i), h.bl.trans (hb.mono h.le), Nat.le_trans h.le hb.size⟩
theorem KE.drew {B : Nat} {w0 : World} {g : Nat} {x : En} {r : Nat} {W : World} (h : KE B w0 g x r W) : KE B w0 g x r W.drew := ⟨h.toEC.drew, h.r0, h.r1, h.r2, h.r3, h.rz, h.bl.drew, h.le⟩
theorem KE.start (W : World) (x : En) : KE W.heap.size W W.heap.size x (W.heap.size + 1) ((W.alloc (rowV x)).alloc (.cells #[.int .i64 0, .int .i64 0, .int .u64 0, .int .u64 0] 39)) :=
  ⟨⟨by simp, by simp, by simp, by simp, by simp, by simp, by simp, by simp, by simp, by simp, fun i => by simp⟩, by simp, by simp, by simp, by simp, fun i => by simp, below2 _ _ _, by simp; omega⟩
theorem belowSets4 {B : Nat} {a w : World} (h : Below B a w) {g : Nat} (hg : B ≤ g) (u v x y : Value) : Below B a ((((w.setCell ⟨g, 0, none⟩ u).setCell ⟨g, 1, none⟩ v).setCell ⟨g, 2, none⟩ x).setCell ⟨g, 3, none⟩ y) := (((h.setCell hg u).setCell hg v).setCell hg x).setCell hg y
set_option maxHeartbeats 1000000 in
theorem want_1 (s t f l p th : Int) (sl : Bool) (ep ck : Int) (h : okL s t f l p) (W : World) :
    Calls Tryd.prog 11 #[.agg #[.int .i64 s, .int .i64 t, .int .i64 f, .int .i64 l, .int .i64 p, .int .i64 th, .int .i64 1, .bool sl, .int .u64 ep, .int .u64 ck]] W fun e w' => e = .returned (askV 1 (atL s t f 4 th 0) 0 0) ∧ Below W.heap.size W w' := by
  have HK := Lib.hid (KE.start W ⟨s, t, f, l, p, th, 1, sl, ep, ck⟩)
  have A := Lib.hid (announce_any s t f l p th h)
  generalize atL s t f 4 th 0 = at' at A ⊢
  clear h
  go_enter Tryd.func11, Tryd.ntmps11
  go_wp2_with (go_at_call 26; refine (A.out _).mono ?_; rintro e w1 ⟨rfl, hn⟩; have h1 := HK.out.next hn; clear hn; have r0 := h1.r0; have r1 := h1.r1; have r2 := h1.r2; have r3 := h1.r3; have rz := h1.rz)
  exact bodyPost_ret (v := askV 1 at' 0 0) (by simp [results, Tryd.results11, go_sem, r0, r1, r2, r3]) rfl ⟨rfl, belowSets4 h1.bl (by omega) _ _ _ _⟩
set_option maxHeartbeats 2000000 in
theorem want_4 (s t f l p th : Int) (sl : Bool) (ep ck : Nat) (hep : ep < 18446744073709551616) (hck : ck < 18446744073709551616) (h : okL s t f l p) (W : World) :
    Calls Tryd.prog 11 #[.agg #[.int .i64 s, .int .i64 t, .int .i64 f, .int .i64 l, .int .i64 p, .int .i64 th, .int .i64 4, .bool sl, .int .u64 (ep : Nat), .int .u64 (ck : Nat)]] W fun e w' => e = .returned (askV 2 (atL s t f 4 th 0) 0 (awMake (if sl then 3 else 1) ep ck)) ∧ Below W.heap.size W w' := by
  have HK := Lib.hid (KE.start W ⟨s, t, f, l, p, th, 4, sl, ep, ck⟩)
  have A := Lib.hid (announce_any s t f l p th h)
  have S := Lib.hid (state_any s t f l p th 4 sl ep ck)
  have M : RowKit.Hid (∀ W : World, Calls Tryd.prog 27 #[.int .i64 (if sl then 3 else 1), .int .u64 ep, .int .u64 ck] W fun e' w' => e' = .returned (.int .u64 (awMake (if sl then 3 else 1) ep ck)) ∧ W = w') := Lib.hid (fun W => by
    cases sl
    · exact amake_in 1 ep ck (by omega) hep hck W
    · exact amake_in 3 ep ck (by omega) hep hck W)
  generalize atL s t f 4 th 0 = at' at A ⊢
  generalize awMake (if sl then 3 else 1) ep ck = mk at M ⊢
  generalize (if sl = true then (3 : Int) else 1) = stt at S M
  clear h
  go_enter Tryd.func11, Tryd.ntmps11
  go_wp2
  have HD := Lib.hid HK.out.drew
  clear HK
  refine wp_region_class_tail (C := KE W.heap.size W W.heap.size ⟨s, t, f, l, p, th, 4, sl, ep, ck⟩ (W.heap.size + 1)) 13 (by kernel_rfl) (by kernel_rfl) (HD.out) ?_
  simp only [List.take_succ_cons, List.take_zero, List.drop_succ_cons, List.drop_zero]
  repeat (first
    | go_big_quiet_skip
    | (go_big_quiet_want; go_big_quiet_op; go_big_quiet_on)
    | (go_big_quiet_want; go_big_quiet_op; refine ⟨_, fun _ _ => rfl, ?_⟩; go_big_quiet_on)
    | (go_big_quiet_want
       apply quiet_mk
       · intro u hu
         have c0 := hu.c0; have c1 := hu.c1; have c2 := hu.c2; have c3 := hu.c3; have c4 := hu.c4; have c5 := hu.c5; have c6 := hu.c6; have c7 := hu.c7; have c8 := hu.c8; have c9 := hu.c9
         have HU := Lib.hid hu
         clear hu
         go_simp
         first
           | with_reducible rfl
           | (go_at_call 26; refine (A.out _).mono ?_; rintro e w' ⟨rfl, hn⟩; exact ⟨rfl, HU.out.next hn⟩) | (go_at_call 28; refine (S.out _).mono ?_; rintro e w' ⟨rfl, hn⟩; exact ⟨rfl, HU.out.next hn⟩) | (go_at_call 27; refine (M.out _).mono ?_; rintro e w' ⟨rfl, rfl⟩; exact ⟨rfl, HU.out⟩)
       simp only [Act.put, List.setIfInBounds_toArray, List.set_cons_zero, List.set_cons_succ]
       go_big_quiet_on))
  refine wpQuiet_nil ?_
  intro u hu
  have r0 := hu.r0
  have r1 := hu.r1
  have r2 := hu.r2
  have r3 := hu.r3
  have rz := hu.rz
  go_wp2
  exact bodyPost_ret (v := askV 2 at' 0 mk) (by simp [results, Tryd.results11, go_sem, r0, r1, r2, r3]) rfl ⟨rfl, belowSets4 hu.bl (by omega) _ _ _ _⟩
end Go.Proofs.YtcafhdemmchcaaaDoor
