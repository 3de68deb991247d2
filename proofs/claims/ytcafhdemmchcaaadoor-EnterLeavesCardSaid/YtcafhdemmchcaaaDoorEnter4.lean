/- gleaningref17: its contracts; Enter.Want at the clock's and the epoch's word; the relation of both. -/
import Derived.Test.YtcafhdemmchcaaaDoorEnter3
namespace Go.Proofs.YtcafhdemmchcaaaDoor
set_option linter.unusedVariables false
open Go.RowKit Go.Extern.Stop Go.Stop Go.Extern
structure Rn where
  th : Int
  a : Int
  sl : Bool
  ep : Int
  ck : Int
abbrev rnV (y : Rn) : Value := .agg #[.int .i64 y.th, .int .i64 y.a, .bool y.sl, .int .u64 y.ep, .int .u64 y.ck]
abbrev rnRow (y : Rn) : Obj := .cells #[.int .i64 y.th, .int .i64 y.a, .bool y.sl, .int .u64 y.ep, .int .u64 y.ck] 34
def Rn.took (y : Rn) (n : Int) : Rn :=
  if y.a = 0 then y
  else if y.a = 1 then ⟨y.th, 2, y.sl || decide (n % 4 = 2), y.ep, y.ck⟩
  else if y.a = 2 then ⟨y.th, 3, y.sl, n, y.ck⟩
  else if y.a = 3 then ⟨y.th, 4, y.sl, y.ep, n⟩
  else ⟨y.th, 0, y.sl, y.ep, y.ck⟩
structure RC (g : Nat) (y : Rn) (W : World) : Prop where
  c0 : W.cell? ⟨g, 0, none⟩ = some (.int .i64 y.th)
  c1 : W.cell? ⟨g, 1, none⟩ = some (.int .i64 y.a)
  c2 : W.cell? ⟨g, 2, none⟩ = some (.bool y.sl)
  c3 : W.cell? ⟨g, 3, none⟩ = some (.int .u64 y.ep)
  c4 : W.cell? ⟨g, 4, none⟩ = some (.int .u64 y.ck)
  fz : ∀ i, W.frozen? ⟨g, i, none⟩ = false
theorem RC.next {g : Nat} {y : Rn} {W W' : World} (h : RC g y W) (hb : Below W.heap.size W W') : RC g y W' := by
  have hl : g < W.heap.size := World.block_lt_of_cell? W _ h.c0
  have c : ∀ j, W'.cell? ⟨g, j, none⟩ = W.cell? ⟨g, j, none⟩ := fun j => hb.cell (p := ⟨g, j, none⟩) hl
  exact ⟨(c _).trans h.c0, (c _).trans h.c1, (c _).trans h.c2, (c _).trans h.c3, (c _).trans h.c4, fun i => (hb.frozen (p := ⟨g, i, none⟩) hl).trans (h.fz i)⟩
theorem RC.drew {g : Nat} {y : Rn} {W : World} (h : RC g y W) : RC g y W.drew := ⟨h.c0, h.c1, h.c2, h.c3, h.c4, h.fz⟩
theorem RC.alloc (W : World) (y : Rn) : RC W.heap.size y (W.alloc (rnRow y)) := ⟨by simp, by simp, by simp, by simp, by simp, fun i => by simp⟩
abbrev putR (W : World) (g : Nat) (y : Rn) : World := ((((W.setCell ⟨g, 0, none⟩ (.int .i64 y.th)).setCell ⟨g, 1, none⟩ (.int .i64 y.a)).setCell ⟨g, 2, none⟩ (.bool y.sl)).setCell ⟨g, 3, none⟩ (.int .u64 y.ep)).setCell ⟨g, 4, none⟩ (.int .u64 y.ck)
theorem RC.store {g : Nat} {z : Rn} {W : World} (h : RC g z W) (y : Rn) : RC g y (putR W g y) := by
  obtain ⟨c0, c1, c2, c3, c4, fz⟩ := h
  exact ⟨by unfold putR; simp [go_sem, c0], by unfold putR; simp [go_sem, c1], by unfold putR; simp [go_sem, c2], by unfold putR; simp [go_sem, c3], by unfold putR; simp [go_sem, c4], fun i => by unfold putR; simp [go_sem, fz]⟩
theorem RC.keep {g g' : Nat} {z : Rn} {W : World} (h : RC g' z W) (hne : g ≠ g') (x : En) : RC g' z (putE W g x) := by
  obtain ⟨c0, c1, c2, c3, c4, fz⟩ := h
  have hne2 : g' ≠ g := fun e => hne e.symm
  exact ⟨by unfold putE; simp [go_sem, c0], by unfold putE; simp [go_sem, c1], by unfold putE; simp [go_sem, c2], by unfold putE; simp [go_sem, c3], by unfold putE; simp [go_sem, c4], fun i => by unfold putE; simp [go_sem, fz]⟩
theorem EC.keepR {g g' : Nat} {x : En} {W : World} (h : EC g' x W) (hne : g ≠ g') (y : Rn) : EC g' x (putR W g y) := by
  obtain ⟨c0, c1, c2, c3, c4, c5, c6, c7, c8, c9, fz⟩ := h
  have hne2 : g' ≠ g := fun e => hne e.symm
  exact ⟨by unfold putR; simp [go_sem, c0], by unfold putR; simp [go_sem, c1], by unfold putR; simp [go_sem, c2], by unfold putR; simp [go_sem, c3], by unfold putR; simp [go_sem, c4], by unfold putR; simp [go_sem, c5], by unfold putR; simp [go_sem, c6], by unfold putR; simp [go_sem, c7], by unfold putR; simp [go_sem, c8], by unfold putR; simp [go_sem, c9], fun i => by unfold putR; simp [go_sem, fz]⟩
theorem belowR {B : Nat} {a W : World} (h : Below B a W) {g : Nat} (hg : B ≤ g) (y : Rn) : Below B a (putR W g y) := by
  exact (((((h.setCell hg _).setCell hg _).setCell hg _).setCell hg _).setCell hg _)
set_option maxHeartbeats 1000000 in
theorem rtook_0 (th : Int) (sl : Bool) (ep ck : Int) (n : Nat) (hn : n < 18446744073709551616) (W : World) :
    Calls Tryd.prog 14 #[.agg #[.int .i64 th, .int .i64 0, .bool sl, .int .u64 ep, .int .u64 ck], .int .u64 n] W fun e w' => e = .returned (.agg #[.int .i64 th, .int .i64 0, .bool sl, .int .u64 ep, .int .u64 ck]) ∧ Below W.heap.size W w' := by
  have hB := Lib.hid (below2 W)
  go_enter Tryd.func14, Tryd.ntmps14
  go_wp2
  exact bodyPost_ret (v := .agg #[.int .i64 th, .int .i64 0, .bool sl, .int .u64 ep, .int .u64 ck]) (by simp [results, Tryd.results14, go_sem]) rfl ⟨rfl, (by repeat (first | (with_reducible refine Below.setCell ?_ (by simp) _) | (with_reducible refine below_drewN7 ?_ _) | exact hB.out _ _ | exact Nat.le_refl _))⟩
set_option maxHeartbeats 1000000 in
theorem rtook_1y (th : Int) (sl : Bool) (ep ck : Int) (n : Nat) (hn : n < 18446744073709551616) (hv : n % 4 = 2) (W : World) :
    Calls Tryd.prog 14 #[.agg #[.int .i64 th, .int .i64 1, .bool sl, .int .u64 ep, .int .u64 ck], .int .u64 n] W fun e w' => e = .returned (.agg #[.int .i64 th, .int .i64 2, .bool true, .int .u64 ep, .int .u64 ck]) ∧ Below W.heap.size W w' := by
  have hB := Lib.hid (below2 W)
  have S : RowKit.Hid (∀ W : World, Calls Tryd.prog 32 #[.int .u64 n] W fun e w' => e = .returned (.int .i64 2) ∧ W = w') := Lib.hid (fun W => by have := rastate_any n hn W; rw [hv] at this; exact this)
  clear hv
  go_enter Tryd.func14, Tryd.ntmps14
  go_wp2_with (go_at_call 32; refine (S.out _).mono ?_; rintro e w1 ⟨rfl, rfl⟩)
  exact bodyPost_ret (v := .agg #[.int .i64 th, .int .i64 2, .bool true, .int .u64 ep, .int .u64 ck]) (by simp [results, Tryd.results14, go_sem]) rfl ⟨rfl, (by repeat (first | (with_reducible refine Below.setCell ?_ (by simp) _) | (with_reducible refine below_drewN7 ?_ _) | exact hB.out _ _ | exact Nat.le_refl _))⟩
set_option maxHeartbeats 1000000 in
theorem rtook_1n (th : Int) (sl : Bool) (ep ck : Int) (n : Nat) (hn : n < 18446744073709551616) (hv : n % 4 ≠ 2) (W : World) :
    Calls Tryd.prog 14 #[.agg #[.int .i64 th, .int .i64 1, .bool sl, .int .u64 ep, .int .u64 ck], .int .u64 n] W fun e w' => e = .returned (.agg #[.int .i64 th, .int .i64 2, .bool sl, .int .u64 ep, .int .u64 ck]) ∧ Below W.heap.size W w' := by
  have hB := Lib.hid (below2 W)
  have S : RowKit.Hid (∀ W : World, Calls Tryd.prog 32 #[.int .u64 n] W fun e w' => e = .returned (.int .i64 (n % 4 : Nat)) ∧ W = w') := Lib.hid (rastate_any n hn)
  generalize n % 4 = v at S hv
  have hv2 : ((v : Int) == 2) = false := by simp; omega
  clear hv
  go_enter Tryd.func14, Tryd.ntmps14
  go_wp2_with (go_at_call 32; refine (S.out _).mono ?_; rintro e w1 ⟨rfl, rfl⟩)
  exact bodyPost_ret (v := .agg #[.int .i64 th, .int .i64 2, .bool sl, .int .u64 ep, .int .u64 ck]) (by simp [results, Tryd.results14, go_sem]) rfl ⟨rfl, (by repeat (first | (with_reducible refine Below.setCell ?_ (by simp) _) | (with_reducible refine below_drewN7 ?_ _) | exact hB.out _ _ | exact Nat.le_refl _))⟩
set_option maxHeartbeats 1000000 in
theorem rtook_2 (th : Int) (sl : Bool) (ep ck : Int) (n : Nat) (hn : n < 18446744073709551616) (W : World) :
    Calls Tryd.prog 14 #[.agg #[.int .i64 th, .int .i64 2, .bool sl, .int .u64 ep, .int .u64 ck], .int .u64 n] W fun e w' => e = .returned (.agg #[.int .i64 th, .int .i64 3, .bool sl, .int .u64 n, .int .u64 ck]) ∧ Below W.heap.size W w' := by
  have hB := Lib.hid (below2 W)
  go_enter Tryd.func14, Tryd.ntmps14
  go_wp2
  exact bodyPost_ret (v := .agg #[.int .i64 th, .int .i64 3, .bool sl, .int .u64 n, .int .u64 ck]) (by simp [results, Tryd.results14, go_sem]) rfl ⟨rfl, (by repeat (first | (with_reducible refine Below.setCell ?_ (by simp) _) | (with_reducible refine below_drewN7 ?_ _) | exact hB.out _ _ | exact Nat.le_refl _))⟩
set_option maxHeartbeats 1000000 in
theorem rtook_3 (th : Int) (sl : Bool) (ep ck : Int) (n : Nat) (hn : n < 18446744073709551616) (W : World) :
    Calls Tryd.prog 14 #[.agg #[.int .i64 th, .int .i64 3, .bool sl, .int .u64 ep, .int .u64 ck], .int .u64 n] W fun e w' => e = .returned (.agg #[.int .i64 th, .int .i64 4, .bool sl, .int .u64 ep, .int .u64 n]) ∧ Below W.heap.size W w' := by
  have hB := Lib.hid (below2 W)
  go_enter Tryd.func14, Tryd.ntmps14
  go_wp2
  exact bodyPost_ret (v := .agg #[.int .i64 th, .int .i64 4, .bool sl, .int .u64 ep, .int .u64 n]) (by simp [results, Tryd.results14, go_sem]) rfl ⟨rfl, (by repeat (first | (with_reducible refine Below.setCell ?_ (by simp) _) | (with_reducible refine below_drewN7 ?_ _) | exact hB.out _ _ | exact Nat.le_refl _))⟩
set_option maxHeartbeats 1000000 in
theorem rtook_4 (th : Int) (sl : Bool) (ep ck : Int) (n : Nat) (hn : n < 18446744073709551616) (W : World) :
    Calls Tryd.prog 14 #[.agg #[.int .i64 th, .int .i64 4, .bool sl, .int .u64 ep, .int .u64 ck], .int .u64 n] W fun e w' => e = .returned (.agg #[.int .i64 th, .int .i64 0, .bool sl, .int .u64 ep, .int .u64 ck]) ∧ Below W.heap.size W w' := by
  have hB := Lib.hid (below2 W)
  go_enter Tryd.func14, Tryd.ntmps14
  go_wp2
  exact bodyPost_ret (v := .agg #[.int .i64 th, .int .i64 0, .bool sl, .int .u64 ep, .int .u64 ck]) (by simp [results, Tryd.results14, go_sem]) rfl ⟨rfl, (by repeat (first | (with_reducible refine Below.setCell ?_ (by simp) _) | (with_reducible refine below_drewN7 ?_ _) | exact hB.out _ _ | exact Nat.le_refl _))⟩
theorem rhas_yes (s t f l p th : Int) (h : okC s t f l p) (h0 : 0 ≤ th) (h1 : th < t) (W : World) :
    Calls Tryd.prog 23 #[cfgV s t f l p, .int .i64 th] W fun e w' => e = .returned (.bool true) ∧ Below W.heap.size W w' := by
  have R := Lib.hid (rwrong_yes s t f l p h)
  have hk : K5 W.heap.size W W.heap.size s t f l p (W.alloc (.cells #[.int .i64 s, .int .i64 t, .int .i64 f, .int .i64 l, .int .i64 p] 23)) := ⟨by simp, by simp, by simp, by simp, by simp, below1 _ _, by simp⟩
  have HK := Lib.hid hk
  clear hk h
  go_enter Tryd.func23, Tryd.ntmps23
  go_wp2_with (go_at_call 37; refine (R.out _).mono ?_; rintro e u1 ⟨rfl, hn⟩; have h9 := HK.out.next hn; clear hn; have c1 := h9.c1)
  go_ret
  exact ⟨rfl, h9.bl⟩
theorem rhas_out (s t f l p th : Int) (h : okC s t f l p) (h0 : th < 0 ∨ t ≤ th) (W : World) :
    Calls Tryd.prog 23 #[cfgV s t f l p, .int .i64 th] W fun e w' => e = .returned (.bool false) ∧ Below W.heap.size W w' := by
  have R := Lib.hid (rwrong_yes s t f l p h)
  have hk : K5 W.heap.size W W.heap.size s t f l p (W.alloc (.cells #[.int .i64 s, .int .i64 t, .int .i64 f, .int .i64 l, .int .i64 p] 23)) := ⟨by simp, by simp, by simp, by simp, by simp, below1 _ _, by simp⟩
  have HK := Lib.hid hk
  clear hk h
  by_cases hx : th < 0
  · clear h0
    go_enter Tryd.func23, Tryd.ntmps23
    go_wp2_with (go_at_call 37; refine (R.out _).mono ?_; rintro e u1 ⟨rfl, hn⟩; have h9 := HK.out.next hn; clear hn; have c1 := h9.c1)
    go_ret
    exact ⟨rfl, h9.bl⟩
  · have h1 : t ≤ th := by omega
    have h2 : 0 ≤ th := by omega
    clear h0 hx
    go_enter Tryd.func23, Tryd.ntmps23
    go_wp2_with (go_at_call 37; refine (R.out _).mono ?_; rintro e u1 ⟨rfl, hn⟩; have h9 := HK.out.next hn; clear hn; have c1 := h9.c1)
    go_ret
    exact ⟨by show Ending.returned (.bool (decide (th < t))) = _; rw [decide_eq_false (by omega)], h9.bl⟩
theorem rhas_no (s t f l p th : Int) (h : ¬ okC s t f l p) (W : World) :
    Calls Tryd.prog 23 #[cfgV s t f l p, .int .i64 th] W fun e w' => e = .returned (.bool false) ∧ Below W.heap.size W w' := by
  obtain ⟨k, _, hk5, R⟩ := rwrong_no s t f l p h
  have R := Lib.hid R
  have HB := Lib.hid (below1 W (.cells #[.int .i64 s, .int .i64 t, .int .i64 f, .int .i64 l, .int .i64 p] 23))
  clear h
  go_enter Tryd.func23, Tryd.ntmps23
  go_wp2_with (go_at_call 37; refine (R.out _).mono ?_; rintro e u1 ⟨rfl, hn⟩)
  go_ret
  exact ⟨rfl, HB.out.trans (hn.mono HB.out.size)⟩
structure KRN (B : Nat) (w0 : World) (g : Nat) (s t f l p : Int) (r : Nat) (y : Rn) (W : World) : Prop extends K5 B w0 g s t f l p W where
  e : RC r y W
theorem KRN.next {B : Nat} {w0 : World} {g : Nat} {s t f l p : Int} {r : Nat} {y : Rn} {W W' : World} (h : KRN B w0 g s t f l p r y W) (hb : Below W.heap.size W W') : KRN B w0 g s t f l p r y W' := ⟨h.toK5.next hb, h.e.next hb⟩
theorem KRN.start (W : World) (s t f l p : Int) (y : Rn) : KRN W.heap.size W W.heap.size s t f l p (W.heap.size + 1) y ((W.alloc (.cells #[.int .i64 s, .int .i64 t, .int .i64 f, .int .i64 l, .int .i64 p] 23)).alloc (rnRow y)) :=
  ⟨⟨by simp, by simp, by simp, by simp, by simp, below2 _ _ _, by simp; omega⟩, ⟨by simp, by simp, by simp, by simp, by simp, fun i => by simp⟩⟩
set_option maxHeartbeats 1000000 in
theorem rnew_yes (s t f l p th : Int) (sl : Bool) (hH : ∀ W : World, Calls Tryd.prog 23 #[cfgV s t f l p, .int .i64 th] W fun e w' => e = .returned (.bool true) ∧ Below W.heap.size W w') (W : World) :
    Calls Tryd.prog 9 #[cfgV s t f l p, .int .i64 th, .bool sl] W fun e w' => e = .returned (rnV ⟨th, 1, sl, 0, 0⟩) ∧ Below W.heap.size W w' := by
  have HK := Lib.hid (KRN.start W s t f l p ⟨0, 0, false, 0, 0⟩)
  have H := Lib.hid hH
  clear hH
  go_enter Tryd.func9, Tryd.ntmps9
  go_wp2_with (go_at_call 23; refine (H.out _).mono ?_; rintro e w1 ⟨rfl, hn⟩; have h1 := HK.out.next hn; clear hn; have e0 := h1.e.c0; have e1 := h1.e.c1; have e2 := h1.e.c2; have e3 := h1.e.c3; have e4 := h1.e.c4; have fz := h1.e.fz)
  exact bodyPost_ret (v := rnV ⟨th, 1, sl, 0, 0⟩) (by simp [results, Tryd.results9, go_sem, e0, e1, e2, e3, e4]) rfl ⟨rfl, belowR h1.bl (by omega) ⟨th, 1, sl, 0, 0⟩⟩
set_option maxHeartbeats 1000000 in
theorem rnew_no (s t f l p th : Int) (sl : Bool) (hH : ∀ W : World, Calls Tryd.prog 23 #[cfgV s t f l p, .int .i64 th] W fun e w' => e = .returned (.bool false) ∧ Below W.heap.size W w') (W : World) :
    Calls Tryd.prog 9 #[cfgV s t f l p, .int .i64 th, .bool sl] W fun e w' => e = .returned (rnV ⟨0, 0, false, 0, 0⟩) ∧ Below W.heap.size W w' := by
  have HK := Lib.hid (KRN.start W s t f l p ⟨0, 0, false, 0, 0⟩)
  have H := Lib.hid hH
  clear hH
  go_enter Tryd.func9, Tryd.ntmps9
  go_wp2_with (go_at_call 23; refine (H.out _).mono ?_; rintro e w1 ⟨rfl, hn⟩; have h1 := HK.out.next hn; clear hn; have e0 := h1.e.c0; have e1 := h1.e.c1; have e2 := h1.e.c2; have e3 := h1.e.c3; have e4 := h1.e.c4; have fz := h1.e.fz)
  exact bodyPost_ret (v := rnV ⟨0, 0, false, 0, 0⟩) (by simp [results, Tryd.results9, go_sem, e0, e1, e2, e3, e4]) rfl ⟨rfl, belowR h1.bl (by omega) ⟨0, 0, false, 0, 0⟩⟩
theorem below3 (W : World) (a b c : Obj) : Below W.heap.size W (((W.alloc a).alloc b).alloc c) := (below2 W a b).alloc (by simp; omega) _
theorem rannounce_any (s t f l p th : Int) (h0 : 0 ≤ th) (h1 : th < 64) (W : World) :
    Calls Tryd.prog 29 #[cfgV s t f l p, .int .i64 th] W fun e w' => e = .returned (.int .i64 (3 + th)) ∧ Below W.heap.size W w' := by
  have HB := Lib.hid (below1 W)
  go_enter Tryd.func29, Tryd.ntmps29
  go_wp2
  go_ret
  exact ⟨ret_i (by omega), HB.out _⟩
/-- A configuration's block, an automaton's, an answer's. -/
structure KR (B : Nat) (w0 : World) (g : Nat) (s t f l p : Int) (q : Nat) (y : Rn) (r : Nat) (W : World) : Prop extends K5 B w0 g s t f l p W where
  y : RC q y W
  r0 : W.cell? ⟨r, 0, none⟩ = some (.int .i64 0)
  r1 : W.cell? ⟨r, 1, none⟩ = some (.int .i64 0)
  r2 : W.cell? ⟨r, 2, none⟩ = some (.int .u64 0)
  r3 : W.cell? ⟨r, 3, none⟩ = some (.int .u64 0)
  rz : ∀ i, W.frozen? ⟨r, i, none⟩ = false
section
variable {B : Nat} {w0 : World} {g : Nat} {s t f l p : Int} {q : Nat} {y : Rn} {r : Nat} {W W' : World}
theorem KR.next (h : KR B w0 g s t f l p q y r W) (hb : Below W.heap.size W W') : KR B w0 g s t f l p q y r W' := by
  have hr : r < W.heap.size := World.block_lt_of_cell? W _ h.r0
  have c : ∀ j, W'.cell? ⟨r, j, none⟩ = W.cell? ⟨r, j, none⟩ := fun j => hb.cell (p := ⟨r, j, none⟩) hr
  exact ⟨h.toK5.next hb, h.y.next hb, (c _).trans h.r0, (c _).trans h.r1, (c _).trans h.r2, (c _).trans h.r3, fun i => (hb.frozen (p := ⟨r, i, none⟩) hr).trans (h.rz i)⟩
theorem KR.drew (h : KR B w0 g s t f l p q y r W) : KR B w0 g s t f l p q y r W.drew := ⟨⟨h.c0, h.c1, h.c2, h.c3, h.c4, h.bl.drew, h.le⟩, h.y.drew, h.r0, h.r1, h.r2, h.r3, h.rz⟩
theorem KR.d0 (h : KR B w0 g s t f l p q y r W) : W.cell? ⟨q, 0, none⟩ = some (.int .i64 y.th) := h.y.c0
theorem KR.d1 (h : KR B w0 g s t f l p q y r W) : W.cell? ⟨q, 1, none⟩ = some (.int .i64 y.a) := h.y.c1
theorem KR.d2 (h : KR B w0 g s t f l p q y r W) : W.cell? ⟨q, 2, none⟩ = some (.bool y.sl) := h.y.c2
theorem KR.d3 (h : KR B w0 g s t f l p q y r W) : W.cell? ⟨q, 3, none⟩ = some (.int .u64 y.ep) := h.y.c3
theorem KR.d4 (h : KR B w0 g s t f l p q y r W) : W.cell? ⟨q, 4, none⟩ = some (.int .u64 y.ck) := h.y.c4
end
theorem KR.start (W : World) (s t f l p : Int) (y : Rn) : KR W.heap.size W W.heap.size s t f l p (W.heap.size + 1) y (W.heap.size + 2) (((W.alloc (.cells #[.int .i64 s, .int .i64 t, .int .i64 f, .int .i64 l, .int .i64 p] 23)).alloc (rnRow y)).alloc (.cells #[.int .i64 0, .int .i64 0, .int .u64 0, .int .u64 0] 39)) := by
  have k := KRN.start W s t f l p y
  have hz : ((W.alloc (.cells #[.int .i64 s, .int .i64 t, .int .i64 f, .int .i64 l, .int .i64 p] 23)).alloc (rnRow y)).heap.size = W.heap.size + 2 := by simp
  generalize (W.alloc (.cells #[.int .i64 s, .int .i64 t, .int .i64 f, .int .i64 l, .int .i64 p] 23)).alloc (rnRow y) = W2 at k hz ⊢
  rw [← hz]
  have h := k.next (below1 W2 (.cells #[.int .i64 0, .int .i64 0, .int .u64 0, .int .u64 0] 39))
  exact ⟨h.toK5, h.e, by simp, by simp, by simp, by simp, fun i => by simp⟩
set_option maxHeartbeats 1000000 in
theorem rwant_1 (s t f l p th : Int) (sl : Bool) (ep ck : Int) (h0 : 0 ≤ th) (h1 : th < 64) (W : World) :
    Calls Tryd.prog 12 #[cfgV s t f l p, .agg #[.int .i64 th, .int .i64 1, .bool sl, .int .u64 ep, .int .u64 ck]] W fun e w' => e = .returned (askV 1 (3 + th) 0 0) ∧ Below W.heap.size W w' := by
  have HK := Lib.hid (KR.start W s t f l p ⟨th, 1, sl, ep, ck⟩)
  have A := Lib.hid (rannounce_any s t f l p th h0 h1)
  go_enter Tryd.func12, Tryd.ntmps12
  go_wp2_with (go_at_call 29; refine (A.out _).mono ?_; rintro e w1 ⟨rfl, hn⟩; have h1 := HK.out.next hn; clear hn; have r0 := h1.r0; have r1 := h1.r1; have r2 := h1.r2; have r3 := h1.r3; have rz := h1.rz)
  exact bodyPost_ret (v := askV 1 (3 + th) 0 0) (by simp [results, Tryd.results12, go_sem, r0, r1, r2, r3]) rfl ⟨rfl, belowSets4 h1.bl (by omega) _ _ _ _⟩
set_option maxHeartbeats 1000000 in
theorem rwant_2 (s t f l p th : Int) (sl : Bool) (ep ck : Int) (W : World) :
    Calls Tryd.prog 12 #[cfgV s t f l p, .agg #[.int .i64 th, .int .i64 2, .bool sl, .int .u64 ep, .int .u64 ck]] W fun e w' => e = .returned (askV 1 0 0 0) ∧ Below W.heap.size W w' := by
  have HK := Lib.hid (KR.start W s t f l p ⟨th, 2, sl, ep, ck⟩)
  go_enter Tryd.func12, Tryd.ntmps12
  go_wp2
  exact bodyPost_ret (v := askV 1 0 0 0) (by simp [results, Tryd.results12, go_sem]) rfl ⟨rfl, below3 _ _ _ _⟩
set_option maxHeartbeats 1000000 in
theorem rwant_3 (s t f l p th : Int) (sl : Bool) (ep ck : Int) (W : World) :
    Calls Tryd.prog 12 #[cfgV s t f l p, .agg #[.int .i64 th, .int .i64 3, .bool sl, .int .u64 ep, .int .u64 ck]] W fun e w' => e = .returned (askV 1 1 0 0) ∧ Below W.heap.size W w' := by
  have HK := Lib.hid (KR.start W s t f l p ⟨th, 3, sl, ep, ck⟩)
  go_enter Tryd.func12, Tryd.ntmps12
  go_wp2
  exact bodyPost_ret (v := askV 1 1 0 0) (by simp [results, Tryd.results12, go_sem]) rfl ⟨rfl, below3 _ _ _ _⟩
set_option maxHeartbeats 1000000 in
theorem rwant_0 (s t f l p th : Int) (sl : Bool) (ep ck : Int) (W : World) :
    Calls Tryd.prog 12 #[cfgV s t f l p, .agg #[.int .i64 th, .int .i64 0, .bool sl, .int .u64 ep, .int .u64 ck]] W fun e w' => e = .returned (askV 0 0 0 0) ∧ Below W.heap.size W w' := by
  have HK := Lib.hid (KR.start W s t f l p ⟨th, 0, sl, ep, ck⟩)
  go_enter Tryd.func12, Tryd.ntmps12
  go_wp2
  exact bodyPost_ret (v := askV 0 0 0 0) (by simp [results, Tryd.results12, go_sem]) rfl ⟨rfl, below3 _ _ _ _⟩
set_option maxHeartbeats 2000000 in
theorem rwant_4 (s t f l p th : Int) (sl : Bool) (ep ck : Nat) (h0 : 0 ≤ th) (h1 : th < 64) (hep : ep < 18446744073709551616) (hck : ck < 18446744073709551616) (W : World) :
    Calls Tryd.prog 12 #[cfgV s t f l p, .agg #[.int .i64 th, .int .i64 4, .bool sl, .int .u64 ep, .int .u64 ck]] W fun e w' => e = .returned (askV 2 (3 + th) 0 (awMake (if sl then 3 else 1) ep ck)) ∧ Below W.heap.size W w' := by
  have HK := Lib.hid (KR.start W s t f l p ⟨th, 4, sl, ep, ck⟩)
  have A := Lib.hid (rannounce_any s t f l p th h0 h1)
  have HKD := Lib.hid HK.out.drew
  have M1 := Lib.hid (fun W => ramake_in 1 ep ck (by omega) hep hck W)
  have M3 := Lib.hid (fun W => ramake_in 3 ep ck (by omega) hep hck W)
  clear HK
  cases sl
  · have hif : awMake (if (false : Bool) = true then 3 else 1) ep ck = awMake 1 ep ck := rfl
    rw [hif]
    clear hif
    generalize awMake 1 ep ck = mk at M1 ⊢
    go_enter Tryd.func12, Tryd.ntmps12
    go_wp2
    refine wp_region_class_tail (C := KR W.heap.size W W.heap.size s t f l p (W.heap.size + 1) ⟨th, 4, false, ep, ck⟩ (W.heap.size + 2)) 11 (by kernel_rfl) (by kernel_rfl) (HKD.out) ?_
    simp only [List.take_succ_cons, List.take_zero, List.drop_succ_cons, List.drop_zero]
    repeat (first
      | go_big_quiet_skip
      | (go_big_quiet_want; go_big_quiet_op; go_big_quiet_on)
      | (go_big_quiet_want; go_big_quiet_op; refine ⟨_, fun _ _ => rfl, ?_⟩; go_big_quiet_on)
      | (go_big_quiet_want
         apply quiet_mk
         · intro u hu
           have c0 := hu.c0; have c1 := hu.c1; have c2 := hu.c2; have c3 := hu.c3; have c4 := hu.c4; have d0 := hu.d0; have d1 := hu.d1; have d2 := hu.d2; have d3 := hu.d3; have d4 := hu.d4
           have HU := Lib.hid hu
           clear hu
           go_simp
           first
             | with_reducible rfl
             | (go_at_call 29; refine (A.out _).mono ?_; rintro e w' ⟨rfl, hn⟩; exact ⟨rfl, HU.out.next hn⟩) | (go_at_call 30; refine (M1.out _).mono ?_; rintro e w' ⟨rfl, rfl⟩; exact ⟨rfl, HU.out⟩)
         simp only [Act.put, List.setIfInBounds_toArray, List.set_cons_zero, List.set_cons_succ]
         go_big_quiet_on))
    refine wpQuiet_nil ?_
    intro u hu
    have r0 := hu.r0
    have r1 := hu.r1
    have r2 := hu.r2
    have r3 := hu.r3
    have rz := hu.rz
    go_wp2
    exact bodyPost_ret (v := askV 2 (3 + th) 0 mk) (by simp [results, Tryd.results12, go_sem, r0, r1, r2, r3]) rfl ⟨rfl, belowSets4 hu.bl (by omega) _ _ _ _⟩
  · have hif : awMake (if (true : Bool) = true then 3 else 1) ep ck = awMake 3 ep ck := rfl
    rw [hif]
    clear hif
    generalize awMake 3 ep ck = mk at M3 ⊢
    go_enter Tryd.func12, Tryd.ntmps12
    go_wp2
    refine wp_region_class_tail (C := KR W.heap.size W W.heap.size s t f l p (W.heap.size + 1) ⟨th, 4, true, ep, ck⟩ (W.heap.size + 2)) 11 (by kernel_rfl) (by kernel_rfl) (HKD.out) ?_
    simp only [List.take_succ_cons, List.take_zero, List.drop_succ_cons, List.drop_zero]
    repeat (first
      | go_big_quiet_skip
      | (go_big_quiet_want; go_big_quiet_op; go_big_quiet_on)
      | (go_big_quiet_want; go_big_quiet_op; refine ⟨_, fun _ _ => rfl, ?_⟩; go_big_quiet_on)
      | (go_big_quiet_want
         apply quiet_mk
         · intro u hu
           have c0 := hu.c0; have c1 := hu.c1; have c2 := hu.c2; have c3 := hu.c3; have c4 := hu.c4; have d0 := hu.d0; have d1 := hu.d1; have d2 := hu.d2; have d3 := hu.d3; have d4 := hu.d4
           have HU := Lib.hid hu
           clear hu
           go_simp
           first
             | with_reducible rfl
             | (go_at_call 29; refine (A.out _).mono ?_; rintro e w' ⟨rfl, hn⟩; exact ⟨rfl, HU.out.next hn⟩) | (go_at_call 30; refine (M3.out _).mono ?_; rintro e w' ⟨rfl, rfl⟩; exact ⟨rfl, HU.out⟩)
         simp only [Act.put, List.setIfInBounds_toArray, List.set_cons_zero, List.set_cons_succ]
         go_big_quiet_on))
    refine wpQuiet_nil ?_
    intro u hu
    have r0 := hu.r0
    have r1 := hu.r1
    have r2 := hu.r2
    have r3 := hu.r3
    have rz := hu.rz
    go_wp2
    exact bodyPost_ret (v := askV 2 (3 + th) 0 mk) (by simp [results, Tryd.results12, go_sem, r0, r1, r2, r3]) rfl ⟨rfl, belowSets4 hu.bl (by omega) _ _ _ _⟩
set_option maxHeartbeats 1000000 in
theorem load_any (s t f l p th st : Int) (sl : Bool) (ep ck : Int) (k : Int) (h : okL s t f l p) (g : Nat) (W : World) (hE : EC g ⟨s, t, f, l, p, th, st, sl, ep, ck⟩ W) :
    Calls Tryd.prog 24 #[.int .i64 k, .pointer (some ⟨g, 0, none⟩)] W fun e w' => e = .returned (askV 1 (atL s t f k 0 0) 0 0) ∧ Below W.heap.size W w' := by
  have A := Lib.hid (at_any s t f l p k 0 0 h)
  have HB := Lib.hid (below1 W (.cells #[.int .i64 0, .int .i64 0, .int .u64 0, .int .u64 0] 39))
  have R := Lib.hid (show ∀ W1 : World, Below (W.alloc (.cells #[.int .i64 0, .int .i64 0, .int .u64 0, .int .u64 0] 39)).heap.size (W.alloc (.cells #[.int .i64 0, .int .i64 0, .int .u64 0, .int .u64 0] 39)) W1 →
      W1.cell? ⟨W.heap.size, 0, none⟩ = some (.int .i64 0) ∧ W1.cell? ⟨W.heap.size, 1, none⟩ = some (.int .i64 0) ∧ W1.cell? ⟨W.heap.size, 2, none⟩ = some (.int .u64 0) ∧ W1.cell? ⟨W.heap.size, 3, none⟩ = some (.int .u64 0) ∧ ∀ i, W1.frozen? ⟨W.heap.size, i, none⟩ = false from fun W1 hn =>
      ⟨(hn.cell (p := ⟨W.heap.size, 0, none⟩) (by simp)).trans (by simp), (hn.cell (p := ⟨W.heap.size, 1, none⟩) (by simp)).trans (by simp), (hn.cell (p := ⟨W.heap.size, 2, none⟩) (by simp)).trans (by simp), (hn.cell (p := ⟨W.heap.size, 3, none⟩) (by simp)).trans (by simp), fun i => (hn.frozen (p := ⟨W.heap.size, i, none⟩) (by simp)).trans (by simp)⟩)
  have hl := hE.lt
  have c0 := hE.c0
  have c1 := hE.c1
  have c2 := hE.c2
  have c3 := hE.c3
  have c4 := hE.c4
  generalize atL s t f k 0 0 = at' at A ⊢
  clear h hE
  go_enter Tryd.func24, Tryd.ntmps24
  go_wp2_with (go_at_call 25; refine (A.out _).mono ?_; rintro e w1 ⟨rfl, hn⟩; have hb1 := Lib.hid (HB.out.trans (hn.mono HB.out.size)); obtain ⟨r0, r1, r2, r3, rz⟩ := R.out _ hn; clear hn)
  exact bodyPost_ret (v := askV 1 at' 0 0) (by simp [results, Tryd.results24, go_sem, r0, r1, r2, r3]) rfl ⟨rfl, belowSets4 hb1.out (Nat.le_refl _) _ _ _ _⟩
set_option maxHeartbeats 1000000 in
theorem want_2 (s t f l p th : Int) (sl : Bool) (ep ck : Int) (h : okL s t f l p) (W : World) :
    Calls Tryd.prog 11 #[.agg #[.int .i64 s, .int .i64 t, .int .i64 f, .int .i64 l, .int .i64 p, .int .i64 th, .int .i64 2, .bool sl, .int .u64 ep, .int .u64 ck]] W fun e w' => e = .returned (askV 1 (atL s t f 1 0 0) 0 0) ∧ Below W.heap.size W w' := by
  have HK := Lib.hid (KE.start W ⟨s, t, f, l, p, th, 2, sl, ep, ck⟩)
  have A := Lib.hid (load_any s t f l p th 2 sl ep ck 1 h W.heap.size _ HK.out.toEC)
  generalize atL s t f 1 0 0 = at' at A ⊢
  clear h
  go_enter Tryd.func11, Tryd.ntmps11
  go_wp2_with (go_at_call 24; refine A.out.mono ?_; rintro e w1 ⟨rfl, hn⟩; have h1 := HK.out.next hn; clear hn; have r0 := h1.r0; have r1 := h1.r1; have r2 := h1.r2; have r3 := h1.r3; have rz := h1.rz)
  exact bodyPost_ret (v := askV 1 at' 0 0) (by simp [results, Tryd.results11, go_sem, r0, r1, r2, r3]) rfl ⟨rfl, belowSets4 h1.bl (by omega) _ _ _ _⟩
set_option maxHeartbeats 1000000 in
theorem want_3 (s t f l p th : Int) (sl : Bool) (ep ck : Int) (h : okL s t f l p) (W : World) :
    Calls Tryd.prog 11 #[.agg #[.int .i64 s, .int .i64 t, .int .i64 f, .int .i64 l, .int .i64 p, .int .i64 th, .int .i64 3, .bool sl, .int .u64 ep, .int .u64 ck]] W fun e w' => e = .returned (askV 1 (atL s t f 2 0 0) 0 0) ∧ Below W.heap.size W w' := by
  have HK := Lib.hid (KE.start W ⟨s, t, f, l, p, th, 3, sl, ep, ck⟩)
  have A := Lib.hid (load_any s t f l p th 3 sl ep ck 2 h W.heap.size _ HK.out.toEC)
  generalize atL s t f 2 0 0 = at' at A ⊢
  clear h
  go_enter Tryd.func11, Tryd.ntmps11
  go_wp2_with (go_at_call 24; refine A.out.mono ?_; rintro e w1 ⟨rfl, hn⟩; have h1 := HK.out.next hn; clear hn; have r0 := h1.r0; have r1 := h1.r1; have r2 := h1.r2; have r3 := h1.r3; have rz := h1.rz)
  exact bodyPost_ret (v := askV 1 at' 0 0) (by simp [results, Tryd.results11, go_sem, r0, r1, r2, r3]) rfl ⟨rfl, belowSets4 h1.bl (by omega) _ _ _ _⟩
def Rel (s t f l p th : Int) (x : En) (y : Rn) : Prop :=
  (∃ (st : Int) (sl : Bool) (ep ck : Nat), x = ⟨s, t, f, l, p, th, st, sl, ep, ck⟩ ∧ y = ⟨th, st, sl, ep, ck⟩ ∧ 1 ≤ st ∧ st ≤ 4 ∧ ep < 18446744073709551616 ∧ ck < 18446744073709551616 ∧ okC s t f l p ∧ 0 ≤ th ∧ th < t) ∨ (x = En.none y.sl ∧ y.a = 0)
theorem rel_done {s t f l p th : Int} {x : En} {y : Rn} (h : Rel s t f l p th x y) :
    (y.a = 0 → ∀ W : World, Calls Tryd.prog 10 #[entV x] W fun e w' => e = .returned (.tuple #[.bool y.sl, .bool true]) ∧ Below W.heap.size W w') ∧
    (y.a ≠ 0 → ∀ W : World, Calls Tryd.prog 10 #[entV x] W fun e w' => e = .returned (.tuple #[.bool false, .bool false]) ∧ Below W.heap.size W w') := by
  rcases h with ⟨st, sl, ep, ck, rfl, rfl, h1, h4, hep, hck, hok, ht⟩ | ⟨rfl, h0⟩
  · exact ⟨fun h => absurd h (by show ¬ st = 0; omega), fun _ W => done_no s t f l p th st sl ep ck (by omega) W⟩
  · exact ⟨fun _ W => done_yes 0 0 0 0 0 0 y.sl 0 0 W, fun h => absurd h0 h⟩
theorem rel_want {s t f l p th : Int} {x : En} {y : Rn} (h : Rel s t f l p th x y) : ∃ k a o m : Int,
    (∀ W : World, Calls Tryd.prog 11 #[entV x] W fun e w' => e = .returned (askV k a o m) ∧ Below W.heap.size W w') ∧
    (∀ W : World, Calls Tryd.prog 12 #[cfgV s t f l p, rnV y] W fun e w' => e = .returned (askV k a o m) ∧ Below W.heap.size W w') := by
  rcases h with ⟨st, sl, ep, ck, rfl, rfl, h1, h4, hep, hck, hok, h0, ht⟩ | ⟨rfl, h0⟩
  · have h64 : th < 64 := by have := hok.2.1.2; omega
    have hs : s ≠ 0 := by have := hok.1.1; omega
    have ha : atL s t f 4 th 0 = 3 + th := by unfold atL; rw [if_neg (by omega), if_pos rfl, if_neg (by omega)]
    have hb : atL s t f 1 0 0 = 0 := by unfold atL; rw [if_pos (by omega), if_neg (by omega)]; rfl
    have hc : atL s t f 2 0 0 = 1 := by unfold atL; rw [if_pos (by omega), if_neg (by omega)]; rfl
    obtain rfl | rfl | rfl | rfl : st = 1 ∨ st = 2 ∨ st = 3 ∨ st = 4 := by omega
    · exact ⟨1, 3 + th, 0, 0, fun W => by have := want_1 s t f l p th sl ep ck (.inl hok) W; rw [ha] at this; exact this, fun W => rwant_1 s t f l p th sl ep ck h0 h64 W⟩
    · exact ⟨1, 0, 0, 0, fun W => by have := want_2 s t f l p th sl ep ck (.inl hok) W; rw [hb] at this; exact this, fun W => rwant_2 s t f l p th sl ep ck W⟩
    · exact ⟨1, 1, 0, 0, fun W => by have := want_3 s t f l p th sl ep ck (.inl hok) W; rw [hc] at this; exact this, fun W => rwant_3 s t f l p th sl ep ck W⟩
    · exact ⟨2, 3 + th, 0, _, fun W => by have := want_4 s t f l p th sl ep ck hep hck (.inl hok) W; rw [ha] at this; exact this, fun W => rwant_4 s t f l p th sl ep ck h0 h64 hep hck W⟩
  · obtain ⟨th', a, sl, ep, ck⟩ := y
    obtain rfl : a = 0 := h0
    exact ⟨0, 0, 0, 0, fun W => want_0 0 0 0 0 0 0 sl 0 0 W, fun W => rwant_0 s t f l p th' sl ep ck W⟩
theorem rel_took {s t f l p th : Int} {x : En} {y : Rn} (h : Rel s t f l p th x y) (n : Nat) (hn : n < 18446744073709551616) : ∃ x' y', Rel s t f l p th x' y' ∧
    (∀ W : World, Calls Tryd.prog 13 #[entV x, .int .u64 n] W fun e w' => e = .returned (entV x') ∧ Below W.heap.size W w') ∧
    (∀ W : World, Calls Tryd.prog 14 #[rnV y, .int .u64 n] W fun e w' => e = .returned (rnV y') ∧ Below W.heap.size W w') := by
  rcases h with ⟨st, sl, ep, ck, rfl, rfl, h1, h4, hep, hck, hok, h0, ht⟩ | ⟨rfl, h0⟩
  · obtain rfl | rfl | rfl | rfl : st = 1 ∨ st = 2 ∨ st = 3 ∨ st = 4 := by omega
    · by_cases hv : n % 4 = 2
      · refine ⟨⟨s, t, f, l, p, th, 2, true, ep, ck⟩, ⟨th, 2, true, ep, ck⟩, .inl ⟨2, true, ep, ck, rfl, rfl, by omega, by omega, hep, hck, hok, h0, ht⟩, fun W => ?_, fun W => rtook_1y th sl ep ck n hn hv W⟩
        cases sl with
        | true => exact took_1t s t f l p th ep ck n hn W
        | false => exact took_1y s t f l p th ep ck n hn hv W
      · refine ⟨⟨s, t, f, l, p, th, 2, sl, ep, ck⟩, ⟨th, 2, sl, ep, ck⟩, .inl ⟨2, sl, ep, ck, rfl, rfl, by omega, by omega, hep, hck, hok, h0, ht⟩, fun W => ?_, fun W => rtook_1n th sl ep ck n hn hv W⟩
        cases sl with
        | true => exact took_1t s t f l p th ep ck n hn W
        | false => exact took_1n s t f l p th ep ck n hn hv W
    · exact ⟨⟨s, t, f, l, p, th, 3, sl, n, ck⟩, ⟨th, 3, sl, n, ck⟩, .inl ⟨3, sl, n, ck, rfl, rfl, by omega, by omega, hn, hck, hok, h0, ht⟩, fun W => took_2 s t f l p th sl ep ck n hn W, fun W => rtook_2 th sl ep ck n hn W⟩
    · exact ⟨⟨s, t, f, l, p, th, 4, sl, ep, n⟩, ⟨th, 4, sl, ep, n⟩, .inl ⟨4, sl, ep, n, rfl, rfl, by omega, by omega, hep, hn, hok, h0, ht⟩, fun W => took_3 s t f l p th sl ep ck n hn W, fun W => rtook_3 th sl ep ck n hn W⟩
    · exact ⟨En.none sl, ⟨th, 0, sl, ep, ck⟩, .inr ⟨rfl, rfl⟩, fun W => took_4 s t f l p th sl ep ck n hn W, fun W => rtook_4 th sl ep ck n hn W⟩
  · obtain ⟨th', a, sl, ep, ck⟩ := y
    obtain rfl : a = 0 := h0
    exact ⟨En.none sl, ⟨th', 0, sl, ep, ck⟩, .inr ⟨rfl, rfl⟩, fun W => took_0 0 0 0 0 0 0 0 sl 0 0 n hn rfl rfl rfl rfl W, fun W => rtook_0 th' sl ep ck n hn W⟩
/-- Both begin alike. -/
theorem rel_new (s t f l p th : Int) (sl : Bool) : ∃ (s' t' f' l' p' : Int) (x : En) (y : Rn), Rel s t f l p th x y ∧
    (∀ W, GL W → Calls Tryd.prog 8 #[cfgV s t f l p] W fun e w' => e = .returned (layV s' t' f' l' p') ∧ Below W.heap.size W w') ∧
    (∀ W : World, Calls Tryd.prog 7 #[layV s' t' f' l' p', .int .i64 th, .bool sl] W fun e w' => e = .returned (entV x) ∧ Below W.heap.size W w') ∧
    (∀ W : World, Calls Tryd.prog 9 #[cfgV s t f l p, .int .i64 th, .bool sl] W fun e w' => e = .returned (rnV y) ∧ Below W.heap.size W w') := by
  by_cases hok : okC s t f l p
  · by_cases ht : 0 ≤ th ∧ th < t
    · exact ⟨s, t, f, l, p, ⟨s, t, f, l, p, th, 1, sl, 0, 0⟩, ⟨th, 1, sl, 0, 0⟩, .inl ⟨1, sl, 0, 0, rfl, rfl, by omega, by omega, by omega, by omega, hok, ht.1, ht.2⟩, fun W hG => new_yes s t f l p W hG hok, fun W => enew_yes s t f l p th sl (fun W => ann_ok hok ht.1 ht.2 W) W, fun W => rnew_yes s t f l p th sl (fun W => rhas_yes s t f l p th hok ht.1 ht.2 W) W⟩
    · exact ⟨s, t, f, l, p, En.none false, ⟨0, 0, false, 0, 0⟩, .inr ⟨rfl, rfl⟩, fun W hG => new_yes s t f l p W hG hok, fun W => enew_no s t f l p th sl (fun W => ann_out hok (by omega) W) W, fun W => rnew_no s t f l p th sl (fun W => rhas_out s t f l p th hok (by omega) W) W⟩
  · exact ⟨0, 0, 0, 0, 0, En.none false, ⟨0, 0, false, 0, 0⟩, .inr ⟨rfl, rfl⟩, fun W hG => new_no s t f l p W hG hok, fun W => enew_no 0 0 0 0 0 th sl (fun W => ann_zero th W) W, fun W => rnew_no s t f l p th sl (fun W => rhas_no s t f l p th hok W) W⟩
/-- The law's three blocks: the configuration, the program's automaton, the document's. -/
structure KY (w : World) (g0 : Nat) (s t f l p : Int) (g1 : Nat) (x : En) (g2 : Nat) (y : Rn) (W : World) : Prop where
  k : K5 w.heap.size w g0 s t f l p W
  e : EC g1 x W
  r : RC g2 y W
  l1 : w.heap.size ≤ g1
  l2 : w.heap.size ≤ g2
  n0 : g1 ≠ g0
  n1 : g2 ≠ g0
  n2 : g1 ≠ g2
section
variable {w : World} {g0 : Nat} {s t f l p : Int} {g1 : Nat} {x : En} {g2 : Nat} {y : Rn} {W W' : World}
theorem KY.next (h : KY w g0 s t f l p g1 x g2 y W) (hn : Below W.heap.size W W') : KY w g0 s t f l p g1 x g2 y W' := ⟨h.k.next hn, h.e.next hn, h.r.next hn, h.l1, h.l2, h.n0, h.n1, h.n2⟩
theorem KY.drew (h : KY w g0 s t f l p g1 x g2 y W) : KY w g0 s t f l p g1 x g2 y W.drew := ⟨⟨h.k.c0, h.k.c1, h.k.c2, h.k.c3, h.k.c4, h.k.bl.drew, h.k.le⟩, h.e.drew, h.r.drew, h.l1, h.l2, h.n0, h.n1, h.n2⟩
theorem K5.keepE {B : Nat} {w0 : World} (h : K5 B w0 g0 s t f l p W) (hne : g1 ≠ g0) (hl : B ≤ g1) (z : En) : K5 B w0 g0 s t f l p (putE W g1 z) := by
  obtain ⟨c0, c1, c2, c3, c4, bl, le⟩ := h
  have hne2 : g0 ≠ g1 := fun e => hne e.symm
  exact ⟨by unfold putE; simp [go_sem, c0], by unfold putE; simp [go_sem, c1], by unfold putE; simp [go_sem, c2], by unfold putE; simp [go_sem, c3], by unfold putE; simp [go_sem, c4], belowE bl hl z, by simpa using le⟩
theorem K5.keepR {B : Nat} {w0 : World} (h : K5 B w0 g0 s t f l p W) (hne : g2 ≠ g0) (hl : B ≤ g2) (z : Rn) : K5 B w0 g0 s t f l p (putR W g2 z) := by
  obtain ⟨c0, c1, c2, c3, c4, bl, le⟩ := h
  have hne2 : g0 ≠ g2 := fun e => hne e.symm
  exact ⟨by unfold putR; simp [go_sem, c0], by unfold putR; simp [go_sem, c1], by unfold putR; simp [go_sem, c2], by unfold putR; simp [go_sem, c3], by unfold putR; simp [go_sem, c4], belowR bl hl z, by simpa using le⟩
theorem KY.store1 (h : KY w g0 s t f l p g1 x g2 y W) (z : En) : KY w g0 s t f l p g1 z g2 y (putE W g1 z) := ⟨h.k.keepE h.n0 h.l1 z, h.e.store z, h.r.keep h.n2 z, h.l1, h.l2, h.n0, h.n1, h.n2⟩
theorem KY.store2 (h : KY w g0 s t f l p g1 x g2 y W) (z : Rn) : KY w g0 s t f l p g1 x g2 z (putR W g2 z) := ⟨h.k.keepR h.n1 h.l2 z, h.e.keepR (fun e => h.n2 e.symm) z, h.r.store z, h.l1, h.l2, h.n0, h.n1, h.n2⟩
structure KYX (w : World) (g0 : Nat) (s t f l p : Int) (g1 : Nat) (x : En) (g2 : Nat) (y : Rn) (a : Addr) (v : Value) (W : World) : Prop extends KY w g0 s t f l p g1 x g2 y W where
  xc : W.cell? a = some v
  xb : a.block < w.heap.size
theorem KYX.next {a : Addr} {v : Value} (h : KYX w g0 s t f l p g1 x g2 y a v W) (hn : Below W.heap.size W W') : KYX w g0 s t f l p g1 x g2 y a v W' :=
  ⟨h.toKY.next hn, (hn.cell (Nat.lt_of_lt_of_le h.xb h.k.bl.size)).trans h.xc, h.xb⟩
theorem KYX.mk' {a : Addr} {v : Value} (h : KY w g0 s t f l p g1 x g2 y W) (hb : a.block < w.heap.size) (hx : w.cell? a = some v) : KYX w g0 s t f l p g1 x g2 y a v W.drew :=
  ⟨h.drew, (h.k.bl.drew.cell hb).trans hx, hb⟩
theorem KY.b0 (h : KY w g0 s t f l p g1 x g2 y W) : W.cell? ⟨g0, 0, none⟩ = some (.int .i64 s) := h.k.c0
theorem KY.d0 (h : KY w g0 s t f l p g1 x g2 y W) : W.cell? ⟨g2, 0, none⟩ = some (.int .i64 y.th) := h.r.c0
theorem KY.b1 (h : KY w g0 s t f l p g1 x g2 y W) : W.cell? ⟨g0, 1, none⟩ = some (.int .i64 t) := h.k.c1
theorem KY.d1 (h : KY w g0 s t f l p g1 x g2 y W) : W.cell? ⟨g2, 1, none⟩ = some (.int .i64 y.a) := h.r.c1
theorem KY.b2 (h : KY w g0 s t f l p g1 x g2 y W) : W.cell? ⟨g0, 2, none⟩ = some (.int .i64 f) := h.k.c2
theorem KY.d2 (h : KY w g0 s t f l p g1 x g2 y W) : W.cell? ⟨g2, 2, none⟩ = some (.bool y.sl) := h.r.c2
theorem KY.b3 (h : KY w g0 s t f l p g1 x g2 y W) : W.cell? ⟨g0, 3, none⟩ = some (.int .i64 l) := h.k.c3
theorem KY.d3 (h : KY w g0 s t f l p g1 x g2 y W) : W.cell? ⟨g2, 3, none⟩ = some (.int .u64 y.ep) := h.r.c3
theorem KY.b4 (h : KY w g0 s t f l p g1 x g2 y W) : W.cell? ⟨g0, 4, none⟩ = some (.int .i64 p) := h.k.c4
theorem KY.d4 (h : KY w g0 s t f l p g1 x g2 y W) : W.cell? ⟨g2, 4, none⟩ = some (.int .u64 y.ck) := h.r.c4
theorem KY.c0 (h : KY w g0 s t f l p g1 x g2 y W) : W.cell? ⟨g1, 0, none⟩ = some (.int .i64 x.s) := h.e.c0
theorem KY.c1 (h : KY w g0 s t f l p g1 x g2 y W) : W.cell? ⟨g1, 1, none⟩ = some (.int .i64 x.t) := h.e.c1
theorem KY.c2 (h : KY w g0 s t f l p g1 x g2 y W) : W.cell? ⟨g1, 2, none⟩ = some (.int .i64 x.f) := h.e.c2
theorem KY.c3 (h : KY w g0 s t f l p g1 x g2 y W) : W.cell? ⟨g1, 3, none⟩ = some (.int .i64 x.l) := h.e.c3
theorem KY.c4 (h : KY w g0 s t f l p g1 x g2 y W) : W.cell? ⟨g1, 4, none⟩ = some (.int .i64 x.p) := h.e.c4
theorem KY.c5 (h : KY w g0 s t f l p g1 x g2 y W) : W.cell? ⟨g1, 5, none⟩ = some (.int .i64 x.th) := h.e.c5
theorem KY.c6 (h : KY w g0 s t f l p g1 x g2 y W) : W.cell? ⟨g1, 6, none⟩ = some (.int .i64 x.st) := h.e.c6
theorem KY.c7 (h : KY w g0 s t f l p g1 x g2 y W) : W.cell? ⟨g1, 7, none⟩ = some (.bool x.sl) := h.e.c7
theorem KY.c8 (h : KY w g0 s t f l p g1 x g2 y W) : W.cell? ⟨g1, 8, none⟩ = some (.int .u64 x.ep) := h.e.c8
theorem KY.c9 (h : KY w g0 s t f l p g1 x g2 y W) : W.cell? ⟨g1, 9, none⟩ = some (.int .u64 x.ck) := h.e.c9
end
end Go.Proofs.YtcafhdemmchcaaaDoor
