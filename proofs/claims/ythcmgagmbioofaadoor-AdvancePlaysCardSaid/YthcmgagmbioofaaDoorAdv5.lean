/- gleaningref18: its contracts; gleaningref10.Ints. -/
import Derived.Test.YthcmgagmbioofaaDoorAdv4
import Derived.Test.YthcmgagmbioofaaDoorTail
namespace Go.Proofs.YthcmgagmbioofaaDoor
set_option linter.unusedVariables false
open Go.RowKit Go.Extern.Stop Go.Stop Go.Extern
structure Rd where
  own : Int
  a : Int
  oc : Int
  ep : Int
  th : Int
  wd : Int
  A : Option Addr
  cap : Nat
  L : List Int
  ju : Int
abbrev rdV (y : Rd) : Value := .agg #[.int .i64 y.own, .int .i64 y.a, .int .i64 y.oc, .int .u64 y.ep, .int .i64 y.th, .int .u64 y.wd, .slice y.A y.L.length y.cap, .int .i64 y.ju]
abbrev rdRow (y : Rd) : Obj := .cells #[.int .i64 y.own, .int .i64 y.a, .int .i64 y.oc, .int .u64 y.ep, .int .i64 y.th, .int .u64 y.wd, .slice y.A y.L.length y.cap, .int .i64 y.ju] 35
abbrev Rd.none : Rd := ⟨0, 0, 0, 0, 0, 0, Option.none, 0, [], 0⟩
structure RC (g : Nat) (y : Rd) (W : World) : Prop where
  c0 : W.cell? ⟨g, 0, none⟩ = some (.int .i64 y.own)
  c1 : W.cell? ⟨g, 1, none⟩ = some (.int .i64 y.a)
  c2 : W.cell? ⟨g, 2, none⟩ = some (.int .i64 y.oc)
  c3 : W.cell? ⟨g, 3, none⟩ = some (.int .u64 y.ep)
  c4 : W.cell? ⟨g, 4, none⟩ = some (.int .i64 y.th)
  c5 : W.cell? ⟨g, 5, none⟩ = some (.int .u64 y.wd)
  c6 : W.cell? ⟨g, 6, none⟩ = some (.slice y.A y.L.length y.cap)
  c7 : W.cell? ⟨g, 7, none⟩ = some (.int .i64 y.ju)
  fz : ∀ i, W.frozen? ⟨g, i, none⟩ = false
theorem RC.lt {g : Nat} {x : Rd} {W : World} (h : RC g x W) : g < W.heap.size := World.block_lt_of_cell? W _ h.c0
theorem RC.next {g : Nat} {y : Rd} {W W' : World} (h : RC g y W) (hb : Below W.heap.size W W') : RC g y W' := by
  have c : ∀ j, W'.cell? ⟨g, j, none⟩ = W.cell? ⟨g, j, none⟩ := fun j => hb.cell (p := ⟨g, j, none⟩) h.lt
  exact ⟨(c _).trans h.c0, (c _).trans h.c1, (c _).trans h.c2, (c _).trans h.c3, (c _).trans h.c4, (c _).trans h.c5, (c _).trans h.c6, (c _).trans h.c7, fun i => (hb.frozen (p := ⟨g, i, none⟩) h.lt).trans (h.fz i)⟩
theorem RC.drew {g : Nat} {y : Rd} {W : World} (h : RC g y W) : RC g y W.drew := ⟨h.c0, h.c1, h.c2, h.c3, h.c4, h.c5, h.c6, h.c7, h.fz⟩
theorem RC.alloc (W : World) (y : Rd) : RC W.heap.size y (W.alloc (rdRow y)) := ⟨by simp, by simp, by simp, by simp, by simp, by simp, by simp, by simp, fun i => by simp⟩
abbrev putR (W : World) (g : Nat) (y : Rd) : World := (((((((W.setCell ⟨g, 0, none⟩ (.int .i64 y.own)).setCell ⟨g, 1, none⟩ (.int .i64 y.a)).setCell ⟨g, 2, none⟩ (.int .i64 y.oc)).setCell ⟨g, 3, none⟩ (.int .u64 y.ep)).setCell ⟨g, 4, none⟩ (.int .i64 y.th)).setCell ⟨g, 5, none⟩ (.int .u64 y.wd)).setCell ⟨g, 6, none⟩ (.slice y.A y.L.length y.cap)).setCell ⟨g, 7, none⟩ (.int .i64 y.ju)
theorem RC.store {g : Nat} {z : Rd} {W : World} (h : RC g z W) (y : Rd) : RC g y (putR W g y) := by
  obtain ⟨c0, c1, c2, c3, c4, c5, c6, c7, fz⟩ := h
  exact ⟨by unfold putR; simp [go_sem, c0], by unfold putR; simp [go_sem, c1], by unfold putR; simp [go_sem, c2], by unfold putR; simp [go_sem, c3], by unfold putR; simp [go_sem, c4], by unfold putR; simp [go_sem, c5], by unfold putR; simp [go_sem, c6], by unfold putR; simp [go_sem, c7], fun i => by unfold putR; simp [go_sem, fz]⟩
theorem RC.keep {g g' : Nat} {z : Rd} {W : World} (h : RC g' z W) (hne : g ≠ g') (x : Ad) : RC g' z (putA W g x) := by
  obtain ⟨c0, c1, c2, c3, c4, c5, c6, c7, fz⟩ := h
  have hne2 : g' ≠ g := fun e => hne e.symm
  exact ⟨by unfold putA; simp [go_sem, c0], by unfold putA; simp [go_sem, c1], by unfold putA; simp [go_sem, c2], by unfold putA; simp [go_sem, c3], by unfold putA; simp [go_sem, c4], by unfold putA; simp [go_sem, c5], by unfold putA; simp [go_sem, c6], by unfold putA; simp [go_sem, c7], fun i => by unfold putA; simp [go_sem, fz]⟩
theorem AC.keepR {g g' : Nat} {x : Ad} {W : World} (h : AC g' x W) (hne : g ≠ g') (y : Rd) : AC g' x (putR W g y) := by
  obtain ⟨c0, c1, c2, c3, c4, c5, c6, c7, c8, c9, c10, c11, c12, fz⟩ := h
  have hne2 : g' ≠ g := fun e => hne e.symm
  exact ⟨by unfold putR; simp [go_sem, c0], by unfold putR; simp [go_sem, c1], by unfold putR; simp [go_sem, c2], by unfold putR; simp [go_sem, c3], by unfold putR; simp [go_sem, c4], by unfold putR; simp [go_sem, c5], by unfold putR; simp [go_sem, c6], by unfold putR; simp [go_sem, c7], by unfold putR; simp [go_sem, c8], by unfold putR; simp [go_sem, c9], by unfold putR; simp [go_sem, c10], by unfold putR; simp [go_sem, c11], by unfold putR; simp [go_sem, c12], fun i => by unfold putR; simp [go_sem, fz]⟩
theorem belowR {B : Nat} {a W : World} (h : Below B a W) {g : Nat} (hg : B ≤ g) (y : Rd) : Below B a (putR W g y) := by
  exact ((((((((h.setCell hg _).setCell hg _).setCell hg _).setCell hg _).setCell hg _).setCell hg _).setCell hg _).setCell hg _)
theorem below3 (W : World) (a b c : Obj) : Below W.heap.size W (((W.alloc a).alloc b).alloc c) := (below2 W a b).alloc (below2 W a b).size _
def Rd.next (t : Int) (y : Rd) (n : Int) : Rd :=
  if t ≤ (if n = y.own then n + 1 else n) then ⟨y.own, 5, y.oc, y.ep, (if n = y.own then n + 1 else n), y.wd, y.A, y.cap, y.L, y.ju⟩
  else ⟨y.own, 2, y.oc, y.ep, (if n = y.own then n + 1 else n), y.wd, y.A, y.cap, y.L, y.ju⟩
set_option maxHeartbeats 600000 in
theorem rnext_nl (s t f l p : Int) (own a oc ep th wd ju : Int) (A : Option Addr) (cap : Nat) (L : List Int) (n : Int) (hne : (n == own) = false) (hn0 : 0 ≤ n) (hn1 : n ≤ 64) (h : n < t) (W : World) :
    Calls Tryd.prog 39 #[cfgV s t f l p, (rdV ⟨own, a, oc, ep, th, wd, A, cap, L, ju⟩), .int .i64 n] W fun e w' => e = .returned (rdV ⟨own, 2, oc, ep, n, wd, A, cap, L, ju⟩) ∧ Below W.heap.size W w' := by
  have hB := Lib.hid (below3 W)
  go_enter Tryd.func39, Tryd.ntmps39
  go_wp2
  exact bodyPost_ret (v := rdV ⟨own, 2, oc, ep, n, wd, A, cap, L, ju⟩) (by simp [results, Tryd.results39, go_sem]) rfl ⟨rfl, (by repeat (first | (with_reducible refine Below.setCell ?_ (by first | omega | (simp; omega) | simp) _) | (with_reducible refine below_drewN7 ?_ _) | exact hB.out _ _ _ | exact Nat.le_refl _))⟩
set_option maxHeartbeats 600000 in
theorem rnext_nh (s t f l p : Int) (own a oc ep th wd ju : Int) (A : Option Addr) (cap : Nat) (L : List Int) (n : Int) (hne : (n == own) = false) (hn0 : 0 ≤ n) (hn1 : n ≤ 64) (h : t ≤ n) (W : World) :
    Calls Tryd.prog 39 #[cfgV s t f l p, (rdV ⟨own, a, oc, ep, th, wd, A, cap, L, ju⟩), .int .i64 n] W fun e w' => e = .returned (rdV ⟨own, 5, oc, ep, n, wd, A, cap, L, ju⟩) ∧ Below W.heap.size W w' := by
  have hB := Lib.hid (below3 W)
  go_enter Tryd.func39, Tryd.ntmps39
  go_wp2
  exact bodyPost_ret (v := rdV ⟨own, 5, oc, ep, n, wd, A, cap, L, ju⟩) (by simp [results, Tryd.results39, go_sem]) rfl ⟨rfl, (by repeat (first | (with_reducible refine Below.setCell ?_ (by first | omega | (simp; omega) | simp) _) | (with_reducible refine below_drewN7 ?_ _) | exact hB.out _ _ _ | exact Nat.le_refl _))⟩
set_option maxHeartbeats 600000 in
theorem rnext_el (s t f l p : Int) (a oc ep th wd ju : Int) (A : Option Addr) (cap : Nat) (L : List Int) (n : Int) (hn0 : 0 ≤ n) (hn1 : n ≤ 64) (h : n + 1 < t) (W : World) :
    Calls Tryd.prog 39 #[cfgV s t f l p, (rdV ⟨n, a, oc, ep, th, wd, A, cap, L, ju⟩), .int .i64 n] W fun e w' => e = .returned (rdV ⟨n, 2, oc, ep, n + 1, wd, A, cap, L, ju⟩) ∧ Below W.heap.size W w' := by
  have hB := Lib.hid (below3 W)
  have hwr : wrap64 (n + 1) = n + 1 := IntWalk.wrap64_in _ ⟨by omega, by omega⟩
  go_enter Tryd.func39, Tryd.ntmps39
  go_wp2
  exact bodyPost_ret (v := rdV ⟨n, 2, oc, ep, n + 1, wd, A, cap, L, ju⟩) (by simp [results, Tryd.results39, go_sem]) rfl ⟨rfl, (by repeat (first | (with_reducible refine Below.setCell ?_ (by first | omega | (simp; omega) | simp) _) | (with_reducible refine below_drewN7 ?_ _) | exact hB.out _ _ _ | exact Nat.le_refl _))⟩
set_option maxHeartbeats 600000 in
theorem rnext_eh (s t f l p : Int) (a oc ep th wd ju : Int) (A : Option Addr) (cap : Nat) (L : List Int) (n : Int) (hn0 : 0 ≤ n) (hn1 : n ≤ 64) (h : t ≤ n + 1) (W : World) :
    Calls Tryd.prog 39 #[cfgV s t f l p, (rdV ⟨n, a, oc, ep, th, wd, A, cap, L, ju⟩), .int .i64 n] W fun e w' => e = .returned (rdV ⟨n, 5, oc, ep, n + 1, wd, A, cap, L, ju⟩) ∧ Below W.heap.size W w' := by
  have hB := Lib.hid (below3 W)
  have hwr : wrap64 (n + 1) = n + 1 := IntWalk.wrap64_in _ ⟨by omega, by omega⟩
  go_enter Tryd.func39, Tryd.ntmps39
  go_wp2
  exact bodyPost_ret (v := rdV ⟨n, 5, oc, ep, n + 1, wd, A, cap, L, ju⟩) (by simp [results, Tryd.results39, go_sem]) rfl ⟨rfl, (by repeat (first | (with_reducible refine Below.setCell ?_ (by first | omega | (simp; omega) | simp) _) | (with_reducible refine below_drewN7 ?_ _) | exact hB.out _ _ _ | exact Nat.le_refl _))⟩
theorem rnext_any (s t f l p : Int) (y : Rd) (n : Int) (hn0 : 0 ≤ n) (hn1 : n ≤ 64) (W : World) :
    Calls Tryd.prog 39 #[cfgV s t f l p, rdV y, .int .i64 n] W fun e w' => e = .returned (rdV (y.next t n)) ∧ Below W.heap.size W w' := by
  obtain ⟨own, a, oc, ep, th, wd, A, cap, L, ju⟩ := y
  unfold Rd.next
  by_cases he : n = own
  · subst he
    simp only [if_pos]
    by_cases hl : t ≤ n + 1
    · rw [if_pos hl]; exact rnext_eh s t f l p a oc ep th wd ju A cap L n hn0 hn1 hl W
    · rw [if_neg hl]; exact rnext_el s t f l p a oc ep th wd ju A cap L n hn0 hn1 (by omega) W
  · simp only [if_neg he]
    by_cases hl : t ≤ n
    · rw [if_pos hl]; exact rnext_nh s t f l p own a oc ep th wd ju A cap L n (by simpa using he) hn0 hn1 hl W
    · rw [if_neg hl]; exact rnext_nl s t f l p own a oc ep th wd ju A cap L n (by simpa using he) hn0 hn1 (by omega) W
/-- A configuration's block, an automaton's, the result's. -/
structure KT (B : Nat) (w0 : World) (g : Nat) (s t f l p : Int) (q : Nat) (y : Rd) (r : Nat) (W : World) : Prop extends K5 B w0 g s t f l p W where
  yc : RC q y W
  rc : RC r Rd.none W
  lr : B ≤ r
theorem KT.next {B : Nat} {w0 : World} {g : Nat} {s t f l p : Int} {q : Nat} {y : Rd} {r : Nat} {W W' : World} (h : KT B w0 g s t f l p q y r W) (hb : Below W.heap.size W W') : KT B w0 g s t f l p q y r W' := ⟨h.toK5.next hb, h.yc.next hb, h.rc.next hb, h.lr⟩
theorem KT.start (W : World) (s t f l p : Int) (y : Rd) : KT W.heap.size W W.heap.size s t f l p (W.heap.size + 1) y (W.heap.size + 2) (((W.alloc (.cells #[.int .i64 s, .int .i64 t, .int .i64 f, .int .i64 l, .int .i64 p] 23)).alloc (rdRow y)).alloc (rdRow Rd.none)) := by
  have e1 := RC.alloc (W.alloc (.cells #[.int .i64 s, .int .i64 t, .int .i64 f, .int .i64 l, .int .i64 p] 23)) y
  rw [show (W.alloc (.cells #[.int .i64 s, .int .i64 t, .int .i64 f, .int .i64 l, .int .i64 p] 23)).heap.size = W.heap.size + 1 by simp] at e1
  have e1 := e1.next (below1 _ (rdRow Rd.none))
  have e2 := RC.alloc ((W.alloc (.cells #[.int .i64 s, .int .i64 t, .int .i64 f, .int .i64 l, .int .i64 p] 23)).alloc (rdRow y)) Rd.none
  rw [show ((W.alloc (.cells #[.int .i64 s, .int .i64 t, .int .i64 f, .int .i64 l, .int .i64 p] 23)).alloc (rdRow y)).heap.size = W.heap.size + 2 by simp] at e2
  have k5 : K5 W.heap.size W W.heap.size s t f l p (W.alloc (.cells #[.int .i64 s, .int .i64 t, .int .i64 f, .int .i64 l, .int .i64 p] 23)) := ⟨by simp, by simp, by simp, by simp, by simp, below1 _ _, by simp⟩
  exact ⟨k5.next (below2 _ _ _), e1, e2, by omega⟩
set_option maxHeartbeats 600000 in
theorem rtook_1 (s t f l p : Int) (own oc ep th wd ju : Int) (A : Option Addr) (cap : Nat) (L : List Int) (n : Nat) (hn : n < 18446744073709551616) (y : Rd) (hT : ∀ W : World, Calls Tryd.prog 39 #[cfgV s t f l p, (rdV ⟨own, 1, oc, (n : Nat), th, wd, A, cap, L, (-1)⟩), .int .i64 0] W fun e w' => e = .returned (rdV y) ∧ Below W.heap.size W w') (W : World) :
    Calls Tryd.prog 18 #[cfgV s t f l p, (rdV ⟨own, 1, oc, ep, th, wd, A, cap, L, ju⟩), .int .u64 (n : Nat)] W fun e w' => e = .returned (rdV y) ∧ Below W.heap.size W w' := by
  have HK := Lib.hid (KT.start W s t f l p ⟨own, 1, oc, (n : Nat), th, wd, A, cap, L, (-1)⟩)
  have T := Lib.hid hT
  clear hT
  go_enter Tryd.func18, Tryd.ntmps18
  go_wp2_with (first | (go_at_call 39; refine (T.out _).mono ?_; rintro e w1 ⟨rfl, hn⟩; have h1 := HK.out.next hn; clear hn; have e0 := h1.rc.c0; have e1 := h1.rc.c1; have e2 := h1.rc.c2; have e3 := h1.rc.c3; have e4 := h1.rc.c4; have e5 := h1.rc.c5; have e6 := h1.rc.c6; have e7 := h1.rc.c7; have fz := h1.rc.fz))
  exact bodyPost_ret (v := rdV y) (by simp [results, Tryd.results18, go_sem, e0, e1, e2, e3, e4, e5, e6, e7]) rfl ⟨rfl, belowR h1.bl h1.lr y⟩
set_option maxHeartbeats 600000 in
theorem rtook_2n (s t f l p : Int) (own oc th wd ju : Int) (A : Option Addr) (cap : Nat) (L : List Int) (n : Nat) (hn : n < 18446744073709551616) (ep : Nat) (hep : ep < 18446744073709551616) (hb : awBlocks n ep = false) (h0 : 0 ≤ th) (h1 : th < 64) (y : Rd) (hT : ∀ W : World, Calls Tryd.prog 39 #[cfgV s t f l p, (rdV ⟨own, 2, oc, (ep : Nat), th, (n : Nat), A, cap, L, (-1)⟩), .int .i64 (th + 1)] W fun e w' => e = .returned (rdV y) ∧ Below W.heap.size W w') (W : World) :
    Calls Tryd.prog 18 #[cfgV s t f l p, (rdV ⟨own, 2, oc, (ep : Nat), th, wd, A, cap, L, ju⟩), .int .u64 (n : Nat)] W fun e w' => e = .returned (rdV y) ∧ Below W.heap.size W w' := by
  have HK := Lib.hid (KT.start W s t f l p ⟨own, 2, oc, (ep : Nat), th, (n : Nat), A, cap, L, (-1)⟩)
  have T := Lib.hid hT
  have S := Lib.hid (rablocks_any n ep hn hep)
  rw [hb] at S
  have hwr : wrap64 (th + 1) = th + 1 := IntWalk.wrap64_in _ ⟨by omega, by omega⟩
  clear hb
  clear hT
  go_enter Tryd.func18, Tryd.ntmps18
  go_wp2_with (first | (go_at_call 39; refine (T.out _).mono ?_; rintro e w1 ⟨rfl, hn⟩; have h1 := HK.out.next hn; clear hn; have e0 := h1.rc.c0; have e1 := h1.rc.c1; have e2 := h1.rc.c2; have e3 := h1.rc.c3; have e4 := h1.rc.c4; have e5 := h1.rc.c5; have e6 := h1.rc.c6; have e7 := h1.rc.c7; have fz := h1.rc.fz) | (go_at_call 25; refine (S.out _).mono ?_; rintro e w0 ⟨rfl, rfl⟩))
  exact bodyPost_ret (v := rdV y) (by simp [results, Tryd.results18, go_sem, e0, e1, e2, e3, e4, e5, e6, e7]) rfl ⟨rfl, belowR h1.bl h1.lr y⟩
set_option maxHeartbeats 600000 in
theorem rtook_2y (s t f l p : Int) (own oc th wd ju : Int) (A : Option Addr) (cap : Nat) (L : List Int) (n : Nat) (hn : n < 18446744073709551616) (ep : Nat) (hep : ep < 18446744073709551616) (hb : awBlocks n ep = true) (W : World) :
    Calls Tryd.prog 18 #[cfgV s t f l p, (rdV ⟨own, 2, oc, (ep : Nat), th, wd, A, cap, L, ju⟩), .int .u64 (n : Nat)] W fun e w' => e = .returned (rdV ⟨own, 3, oc, (ep : Nat), th, (n : Nat), A, cap, L, (-1)⟩) ∧ Below W.heap.size W w' := by
  have hB := Lib.hid (below3 W)
  have S := Lib.hid (rablocks_any n ep hn hep)
  rw [hb] at S
  clear hb
  go_enter Tryd.func18, Tryd.ntmps18
  go_wp2_with (go_at_call 25; refine (S.out _).mono ?_; rintro e w0 ⟨rfl, rfl⟩)
  exact bodyPost_ret (v := rdV ⟨own, 3, oc, (ep : Nat), th, (n : Nat), A, cap, L, (-1)⟩) (by simp [results, Tryd.results18, go_sem]) rfl ⟨rfl, (by repeat (first | (with_reducible refine Below.setCell ?_ (by first | omega | (simp; omega) | simp) _) | (with_reducible refine below_drewN7 ?_ _) | exact hB.out _ _ _ | exact Nat.le_refl _))⟩
set_option maxHeartbeats 600000 in
theorem rtook_3y (s t f l p : Int) (own oc ep th ju : Int) (A : Option Addr) (cap : Nat) (L : List Int) (n : Nat) (hn : n < 18446744073709551616) (wd : Nat) (hwd : wd < 18446744073709551616) (hp : p ≤ 9223372036854775807) (hb : awStalled wd n p = true) (W : World) :
    Calls Tryd.prog 18 #[cfgV s t f l p, (rdV ⟨own, 3, oc, ep, th, (wd : Nat), A, cap, L, ju⟩), .int .u64 (n : Nat)] W fun e w' => e = .returned (rdV ⟨own, 4, oc, ep, th, (wd : Nat), A, cap, L, (-1)⟩) ∧ Below W.heap.size W w' := by
  have hB := Lib.hid (below3 W)
  have S := Lib.hid (rastalled_any wd n p hwd hn hp)
  rw [hb] at S
  clear hb
  go_enter Tryd.func18, Tryd.ntmps18
  go_wp2_with (go_at_call 26; refine (S.out _).mono ?_; rintro e w0 ⟨rfl, rfl⟩)
  exact bodyPost_ret (v := rdV ⟨own, 4, oc, ep, th, (wd : Nat), A, cap, L, (-1)⟩) (by simp [results, Tryd.results18, go_sem]) rfl ⟨rfl, (by repeat (first | (with_reducible refine Below.setCell ?_ (by first | omega | (simp; omega) | simp) _) | (with_reducible refine below_drewN7 ?_ _) | exact hB.out _ _ _ | exact Nat.le_refl _))⟩
set_option maxHeartbeats 600000 in
theorem rtook_3n (s t f l p : Int) (own oc ep th ju : Int) (A : Option Addr) (cap : Nat) (L : List Int) (n : Nat) (hn : n < 18446744073709551616) (wd : Nat) (hwd : wd < 18446744073709551616) (hp : p ≤ 9223372036854775807) (hb : awStalled wd n p = false) (W : World) :
    Calls Tryd.prog 18 #[cfgV s t f l p, (rdV ⟨own, 3, oc, ep, th, (wd : Nat), A, cap, L, ju⟩), .int .u64 (n : Nat)] W fun e w' => e = .returned (rdV ⟨own, 0, 1, ep, th, (wd : Nat), A, cap, L, (-1)⟩) ∧ Below W.heap.size W w' := by
  have hB := Lib.hid (below3 W)
  have S := Lib.hid (rastalled_any wd n p hwd hn hp)
  rw [hb] at S
  clear hb
  go_enter Tryd.func18, Tryd.ntmps18
  go_wp2_with (go_at_call 26; refine (S.out _).mono ?_; rintro e w0 ⟨rfl, rfl⟩)
  exact bodyPost_ret (v := rdV ⟨own, 0, 1, ep, th, (wd : Nat), A, cap, L, (-1)⟩) (by simp [results, Tryd.results18, go_sem]) rfl ⟨rfl, (by repeat (first | (with_reducible refine Below.setCell ?_ (by first | omega | (simp; omega) | simp) _) | (with_reducible refine below_drewN7 ?_ _) | exact hB.out _ _ _ | exact Nat.le_refl _))⟩
set_option maxHeartbeats 600000 in
theorem rtook_4n (s t f l p : Int) (own oc ep th wd ju : Int) (A : Option Addr) (cap : Nat) (L : List Int) (n : Nat) (hn : n < 18446744073709551616) (h : n ≠ 1) (W : World) :
    Calls Tryd.prog 18 #[cfgV s t f l p, (rdV ⟨own, 4, oc, ep, th, wd, A, cap, L, ju⟩), .int .u64 (n : Nat)] W fun e w' => e = .returned (rdV ⟨own, 2, oc, ep, th, wd, A, cap, L, (-1)⟩) ∧ Below W.heap.size W w' := by
  have hB := Lib.hid (below3 W)
  have h2 : ((n : Int) == 1) = false := by simp; omega
  clear h
  go_enter Tryd.func18, Tryd.ntmps18
  go_wp2
  exact bodyPost_ret (v := rdV ⟨own, 2, oc, ep, th, wd, A, cap, L, (-1)⟩) (by simp [results, Tryd.results18, go_sem]) rfl ⟨rfl, (by repeat (first | (with_reducible refine Below.setCell ?_ (by first | omega | (simp; omega) | simp) _) | (with_reducible refine below_drewN7 ?_ _) | exact hB.out _ _ _ | exact Nat.le_refl _))⟩
set_option maxHeartbeats 600000 in
theorem rtook_5n (s t f l p : Int) (own oc ep th wd ju : Int) (A : Option Addr) (cap : Nat) (L : List Int) (n : Nat) (hn : n < 18446744073709551616) (h : n ≠ 1) (W : World) :
    Calls Tryd.prog 18 #[cfgV s t f l p, (rdV ⟨own, 5, oc, ep, th, wd, A, cap, L, ju⟩), .int .u64 (n : Nat)] W fun e w' => e = .returned (rdV ⟨own, 0, 2, ep, th, wd, A, cap, L, (-1)⟩) ∧ Below W.heap.size W w' := by
  have hB := Lib.hid (below3 W)
  have h2 : ((n : Int) == 1) = false := by simp; omega
  clear h
  go_enter Tryd.func18, Tryd.ntmps18
  go_wp2
  exact bodyPost_ret (v := rdV ⟨own, 0, 2, ep, th, wd, A, cap, L, (-1)⟩) (by simp [results, Tryd.results18, go_sem]) rfl ⟨rfl, (by repeat (first | (with_reducible refine Below.setCell ?_ (by first | omega | (simp; omega) | simp) _) | (with_reducible refine below_drewN7 ?_ _) | exact hB.out _ _ _ | exact Nat.le_refl _))⟩
set_option maxHeartbeats 600000 in
theorem rtook_5y (s t f l p : Int) (own oc ep th wd ju : Int) (A : Option Addr) (cap : Nat) (L : List Int) (W : World) :
    Calls Tryd.prog 18 #[cfgV s t f l p, (rdV ⟨own, 5, oc, ep, th, wd, A, cap, L, ju⟩), .int .u64 1] W fun e w' => e = .returned (rdV ⟨own, 0, 3, ep, th, wd, A, cap, L, (-1)⟩) ∧ Below W.heap.size W w' := by
  have hB := Lib.hid (below3 W)
  go_enter Tryd.func18, Tryd.ntmps18
  go_wp2
  exact bodyPost_ret (v := rdV ⟨own, 0, 3, ep, th, wd, A, cap, L, (-1)⟩) (by simp [results, Tryd.results18, go_sem]) rfl ⟨rfl, (by repeat (first | (with_reducible refine Below.setCell ?_ (by first | omega | (simp; omega) | simp) _) | (with_reducible refine below_drewN7 ?_ _) | exact hB.out _ _ _ | exact Nat.le_refl _))⟩
set_option maxHeartbeats 600000 in
theorem rtook_0 (s t f l p : Int) (own oc ep th wd ju : Int) (A : Option Addr) (cap : Nat) (L : List Int) (n : Nat) (hn : n < 18446744073709551616) (W : World) :
    Calls Tryd.prog 18 #[cfgV s t f l p, (rdV ⟨own, 0, oc, ep, th, wd, A, cap, L, ju⟩), .int .u64 (n : Nat)] W fun e w' => e = .returned (rdV ⟨own, 0, oc, ep, th, wd, A, cap, L, ju⟩) ∧ Below W.heap.size W w' := by
  have hB := Lib.hid (below3 W)
  go_enter Tryd.func18, Tryd.ntmps18
  go_wp2
  exact bodyPost_ret (v := rdV ⟨own, 0, oc, ep, th, wd, A, cap, L, ju⟩) (by simp [results, Tryd.results18, go_sem]) rfl ⟨rfl, (by repeat (first | (with_reducible refine Below.setCell ?_ (by first | omega | (simp; omega) | simp) _) | (with_reducible refine below_drewN7 ?_ _) | exact hB.out _ _ _ | exact Nat.le_refl _))⟩
theorem rhas_yes (s t f l p th : Int) (h : okC s t f l p) (h0 : 0 ≤ th) (h1 : th < t) (W : World) :
    Calls Tryd.prog 30 #[cfgV s t f l p, .int .i64 th] W fun e w' => e = .returned (.bool true) ∧ Below W.heap.size W w' := by
  have R := Lib.hid (rwrong_yes s t f l p h)
  have hk : K5 W.heap.size W W.heap.size s t f l p (W.alloc (.cells #[.int .i64 s, .int .i64 t, .int .i64 f, .int .i64 l, .int .i64 p] 23)) := ⟨by simp, by simp, by simp, by simp, by simp, below1 _ _, by simp⟩
  have HK := Lib.hid hk
  clear hk h
  go_enter Tryd.func30, Tryd.ntmps30
  go_wp2_with (go_at_call 19; refine (R.out _).mono ?_; rintro e u1 ⟨rfl, hn⟩; have h9 := HK.out.next hn; clear hn; have c1 := h9.c1)
  go_ret
  exact ⟨rfl, h9.bl⟩
theorem rhas_out (s t f l p th : Int) (h : okC s t f l p) (h0 : th < 0 ∨ t ≤ th) (W : World) :
    Calls Tryd.prog 30 #[cfgV s t f l p, .int .i64 th] W fun e w' => e = .returned (.bool false) ∧ Below W.heap.size W w' := by
  have R := Lib.hid (rwrong_yes s t f l p h)
  have hk : K5 W.heap.size W W.heap.size s t f l p (W.alloc (.cells #[.int .i64 s, .int .i64 t, .int .i64 f, .int .i64 l, .int .i64 p] 23)) := ⟨by simp, by simp, by simp, by simp, by simp, below1 _ _, by simp⟩
  have HK := Lib.hid hk
  clear hk h
  by_cases hx : th < 0
  · clear h0
    go_enter Tryd.func30, Tryd.ntmps30
    go_wp2_with (go_at_call 19; refine (R.out _).mono ?_; rintro e u1 ⟨rfl, hn⟩; have h9 := HK.out.next hn; clear hn; have c1 := h9.c1)
    go_ret
    exact ⟨rfl, h9.bl⟩
  · have h1 : t ≤ th := by omega
    have h2 : 0 ≤ th := by omega
    clear h0 hx
    go_enter Tryd.func30, Tryd.ntmps30
    go_wp2_with (go_at_call 19; refine (R.out _).mono ?_; rintro e u1 ⟨rfl, hn⟩; have h9 := HK.out.next hn; clear hn; have c1 := h9.c1)
    go_ret
    exact ⟨by show Ending.returned (.bool (decide (th < t))) = _; rw [decide_eq_false (by omega)], h9.bl⟩
theorem rhas_no (s t f l p th : Int) (h : ¬ okC s t f l p) (W : World) :
    Calls Tryd.prog 30 #[cfgV s t f l p, .int .i64 th] W fun e w' => e = .returned (.bool false) ∧ Below W.heap.size W w' := by
  obtain ⟨k, _, hk5, R⟩ := rwrong_no s t f l p h
  have R := Lib.hid R
  have HB := Lib.hid (below1 W (.cells #[.int .i64 s, .int .i64 t, .int .i64 f, .int .i64 l, .int .i64 p] 23))
  clear h
  go_enter Tryd.func30, Tryd.ntmps30
  go_wp2_with (go_at_call 19; refine (R.out _).mono ?_; rintro e u1 ⟨rfl, hn⟩)
  go_ret
  exact ⟨rfl, HB.out.trans (hn.mono HB.out.size)⟩
structure KRN (B : Nat) (w0 : World) (g : Nat) (s t f l p : Int) (r : Nat) (y : Rd) (W : World) : Prop extends K5 B w0 g s t f l p W where
  e : RC r y W
theorem KRN.next {B : Nat} {w0 : World} {g : Nat} {s t f l p : Int} {r : Nat} {y : Rd} {W W' : World} (h : KRN B w0 g s t f l p r y W) (hb : Below W.heap.size W W') : KRN B w0 g s t f l p r y W' := ⟨h.toK5.next hb, h.e.next hb⟩
theorem KRN.start (W : World) (s t f l p : Int) (y : Rd) : KRN W.heap.size W W.heap.size s t f l p (W.heap.size + 1) y ((W.alloc (.cells #[.int .i64 s, .int .i64 t, .int .i64 f, .int .i64 l, .int .i64 p] 23)).alloc (rdRow y)) := by
  have e2 := RC.alloc (W.alloc (.cells #[.int .i64 s, .int .i64 t, .int .i64 f, .int .i64 l, .int .i64 p] 23)) y
  rw [show (W.alloc (.cells #[.int .i64 s, .int .i64 t, .int .i64 f, .int .i64 l, .int .i64 p] 23)).heap.size = W.heap.size + 1 by simp] at e2
  exact ⟨⟨by simp, by simp, by simp, by simp, by simp, below2 _ _ _, by simp; omega⟩, e2⟩
set_option maxHeartbeats 1000000 in
theorem rnew_yes (s t f l p th : Int) (hH : ∀ W : World, Calls Tryd.prog 30 #[cfgV s t f l p, .int .i64 th] W fun e w' => e = .returned (.bool true) ∧ Below W.heap.size W w') (W : World) :
    Calls Tryd.prog 9 #[cfgV s t f l p, .int .i64 th] W fun e w' => e = .returned (rdV ⟨th, 1, 0, 0, 0, 0, Option.none, 0, [], -1⟩) ∧ Below W.heap.size W w' := by
  have HK := Lib.hid (KRN.start W s t f l p Rd.none)
  have H := Lib.hid hH
  clear hH
  go_enter Tryd.func9, Tryd.ntmps9
  go_wp2_with (go_at_call 30; refine (H.out _).mono ?_; rintro e w1 ⟨rfl, hn⟩; have h1 := HK.out.next hn; clear hn; have e0 := h1.e.c0; have e1 := h1.e.c1; have e2 := h1.e.c2; have e3 := h1.e.c3; have e4 := h1.e.c4; have e5 := h1.e.c5; have e6 := h1.e.c6; have e7 := h1.e.c7; have fz := h1.e.fz)
  exact bodyPost_ret (v := rdV ⟨th, 1, 0, 0, 0, 0, Option.none, 0, [], -1⟩) (by simp [results, Tryd.results9, go_sem, e0, e1, e2, e3, e4, e5, e6, e7]) rfl ⟨rfl, belowR h1.bl (by omega) ⟨th, 1, 0, 0, 0, 0, Option.none, 0, [], -1⟩⟩
set_option maxHeartbeats 1000000 in
theorem rnew_no (s t f l p th : Int) (hH : ∀ W : World, Calls Tryd.prog 30 #[cfgV s t f l p, .int .i64 th] W fun e w' => e = .returned (.bool false) ∧ Below W.heap.size W w') (W : World) :
    Calls Tryd.prog 9 #[cfgV s t f l p, .int .i64 th] W fun e w' => e = .returned (rdV ⟨0, 0, 1, 0, 0, 0, Option.none, 0, [], -1⟩) ∧ Below W.heap.size W w' := by
  have HK := Lib.hid (KRN.start W s t f l p Rd.none)
  have H := Lib.hid hH
  clear hH
  go_enter Tryd.func9, Tryd.ntmps9
  go_wp2_with (go_at_call 30; refine (H.out _).mono ?_; rintro e w1 ⟨rfl, hn⟩; have h1 := HK.out.next hn; clear hn; have e0 := h1.e.c0; have e1 := h1.e.c1; have e2 := h1.e.c2; have e3 := h1.e.c3; have e4 := h1.e.c4; have e5 := h1.e.c5; have e6 := h1.e.c6; have e7 := h1.e.c7; have fz := h1.e.fz)
  exact bodyPost_ret (v := rdV ⟨0, 0, 1, 0, 0, 0, Option.none, 0, [], -1⟩) (by simp [results, Tryd.results9, go_sem, e0, e1, e2, e3, e4, e5, e6, e7]) rfl ⟨rfl, belowR h1.bl (by omega) ⟨0, 0, 1, 0, 0, 0, Option.none, 0, [], -1⟩⟩
theorem rannounce_any (s t f l p th : Int) (h0 : 0 ≤ th) (h1 : th < 64) (W : World) :
    Calls Tryd.prog 24 #[cfgV s t f l p, .int .i64 th] W fun e w' => e = .returned (.int .i64 (3 + th)) ∧ Below W.heap.size W w' := by
  have HB := Lib.hid (below1 W)
  go_enter Tryd.func24, Tryd.ntmps24
  go_wp2
  go_ret
  exact ⟨ret_i (by omega), HB.out _⟩
/-- A configuration's block, an automaton's, an answer's. -/
structure KR (B : Nat) (w0 : World) (g : Nat) (s t f l p : Int) (q : Nat) (y : Rd) (r : Nat) (W : World) : Prop extends K5 B w0 g s t f l p W where
  y : RC q y W
  r0 : W.cell? ⟨r, 0, none⟩ = some (.int .i64 0)
  r1 : W.cell? ⟨r, 1, none⟩ = some (.int .i64 0)
  r2 : W.cell? ⟨r, 2, none⟩ = some (.int .u64 0)
  r3 : W.cell? ⟨r, 3, none⟩ = some (.int .u64 0)
  rz : ∀ i, W.frozen? ⟨r, i, none⟩ = false
section
variable {B : Nat} {w0 : World} {g : Nat} {s t f l p : Int} {q : Nat} {y : Rd} {r : Nat} {W W' : World}
theorem KR.next (h : KR B w0 g s t f l p q y r W) (hb : Below W.heap.size W W') : KR B w0 g s t f l p q y r W' := by
  have hr : r < W.heap.size := World.block_lt_of_cell? W _ h.r0
  have c : ∀ j, W'.cell? ⟨r, j, none⟩ = W.cell? ⟨r, j, none⟩ := fun j => hb.cell (p := ⟨r, j, none⟩) hr
  exact ⟨h.toK5.next hb, h.y.next hb, (c _).trans h.r0, (c _).trans h.r1, (c _).trans h.r2, (c _).trans h.r3, fun i => (hb.frozen (p := ⟨r, i, none⟩) hr).trans (h.rz i)⟩
theorem KR.drew (h : KR B w0 g s t f l p q y r W) : KR B w0 g s t f l p q y r W.drew := ⟨⟨h.c0, h.c1, h.c2, h.c3, h.c4, h.bl.drew, h.le⟩, h.y.drew, h.r0, h.r1, h.r2, h.r3, h.rz⟩
theorem KR.d0 (h : KR B w0 g s t f l p q y r W) : W.cell? ⟨q, 0, none⟩ = some (.int .i64 y.own) := h.y.c0
theorem KR.d1 (h : KR B w0 g s t f l p q y r W) : W.cell? ⟨q, 1, none⟩ = some (.int .i64 y.a) := h.y.c1
theorem KR.d2 (h : KR B w0 g s t f l p q y r W) : W.cell? ⟨q, 2, none⟩ = some (.int .i64 y.oc) := h.y.c2
theorem KR.d3 (h : KR B w0 g s t f l p q y r W) : W.cell? ⟨q, 3, none⟩ = some (.int .u64 y.ep) := h.y.c3
theorem KR.d4 (h : KR B w0 g s t f l p q y r W) : W.cell? ⟨q, 4, none⟩ = some (.int .i64 y.th) := h.y.c4
theorem KR.d5 (h : KR B w0 g s t f l p q y r W) : W.cell? ⟨q, 5, none⟩ = some (.int .u64 y.wd) := h.y.c5
theorem KR.d6 (h : KR B w0 g s t f l p q y r W) : W.cell? ⟨q, 6, none⟩ = some (.slice y.A y.L.length y.cap) := h.y.c6
theorem KR.d7 (h : KR B w0 g s t f l p q y r W) : W.cell? ⟨q, 7, none⟩ = some (.int .i64 y.ju) := h.y.c7
end
theorem KR.start (W : World) (s t f l p : Int) (y : Rd) : KR W.heap.size W W.heap.size s t f l p (W.heap.size + 1) y (W.heap.size + 2) (((W.alloc (.cells #[.int .i64 s, .int .i64 t, .int .i64 f, .int .i64 l, .int .i64 p] 23)).alloc (rdRow y)).alloc (.cells #[.int .i64 0, .int .i64 0, .int .u64 0, .int .u64 0] 40)) := by
  have k := KRN.start W s t f l p y
  have hz : ((W.alloc (.cells #[.int .i64 s, .int .i64 t, .int .i64 f, .int .i64 l, .int .i64 p] 23)).alloc (rdRow y)).heap.size = W.heap.size + 2 := by simp
  generalize (W.alloc (.cells #[.int .i64 s, .int .i64 t, .int .i64 f, .int .i64 l, .int .i64 p] 23)).alloc (rdRow y) = W2 at k hz ⊢
  rw [← hz]
  have h := k.next (below1 W2 (.cells #[.int .i64 0, .int .i64 0, .int .u64 0, .int .u64 0] 40))
  exact ⟨h.toK5, h.e, by simp, by simp, by simp, by simp, fun i => by simp⟩
set_option maxHeartbeats 1000000 in
theorem rwant_2 (s t f l p : Int) (own oc ep th wd ju : Int) (A : Option Addr) (cap : Nat) (L : List Int) (h0 : 0 ≤ th) (h1 : th < 64) (W : World) :
    Calls Tryd.prog 12 #[cfgV s t f l p, (rdV ⟨own, 2, oc, ep, th, wd, A, cap, L, ju⟩)] W fun e w' => e = .returned (askV 1 (3 + th) 0 0) ∧ Below W.heap.size W w' := by
  have HK := Lib.hid (KR.start W s t f l p ⟨own, 2, oc, ep, th, wd, A, cap, L, ju⟩)
  have A8 := Lib.hid (rannounce_any s t f l p th h0 h1)
  go_enter Tryd.func12, Tryd.ntmps12
  go_wp2_with (go_at_call 24; refine (A8.out _).mono ?_; rintro e w1 ⟨rfl, hn⟩; have h1 := HK.out.next hn; clear hn; have r0 := h1.r0; have r1 := h1.r1; have r2 := h1.r2; have r3 := h1.r3; have rz := h1.rz)
  exact bodyPost_ret (v := askV 1 (3 + th) 0 0) (by simp [results, Tryd.results12, go_sem, r0, r1, r2, r3]) rfl ⟨rfl, belowSets4 h1.bl (by omega) _ _ _ _⟩
set_option maxHeartbeats 1000000 in
theorem rwant_1 (s t f l p : Int) (own oc ep th wd ju : Int) (A : Option Addr) (cap : Nat) (L : List Int) (W : World) :
    Calls Tryd.prog 12 #[cfgV s t f l p, (rdV ⟨own, 1, oc, ep, th, wd, A, cap, L, ju⟩)] W fun e w' => e = .returned (askV 1 0 0 0) ∧ Below W.heap.size W w' := by
  have HK := Lib.hid (KR.start W s t f l p ⟨own, 1, oc, ep, th, wd, A, cap, L, ju⟩)
  go_enter Tryd.func12, Tryd.ntmps12
  go_wp2
  exact bodyPost_ret (v := askV 1 0 0 0) (by simp [results, Tryd.results12, go_sem]) rfl ⟨rfl, by first | exact below3 _ _ _ _ | (refine belowSets4 (below3 _ _ _ _) (by simp; omega) _ _ _ _)⟩
set_option maxHeartbeats 1000000 in
theorem rwant_3 (s t f l p : Int) (own oc ep th wd ju : Int) (A : Option Addr) (cap : Nat) (L : List Int) (W : World) :
    Calls Tryd.prog 12 #[cfgV s t f l p, (rdV ⟨own, 3, oc, ep, th, wd, A, cap, L, ju⟩)] W fun e w' => e = .returned (askV 1 1 0 0) ∧ Below W.heap.size W w' := by
  have HK := Lib.hid (KR.start W s t f l p ⟨own, 3, oc, ep, th, wd, A, cap, L, ju⟩)
  go_enter Tryd.func12, Tryd.ntmps12
  go_wp2
  exact bodyPost_ret (v := askV 1 1 0 0) (by simp [results, Tryd.results12, go_sem]) rfl ⟨rfl, by first | exact below3 _ _ _ _ | (refine belowSets4 (below3 _ _ _ _) (by simp; omega) _ _ _ _)⟩
set_option maxHeartbeats 1000000 in
theorem rwant_0 (s t f l p : Int) (own oc ep th wd ju : Int) (A : Option Addr) (cap : Nat) (L : List Int) (W : World) :
    Calls Tryd.prog 12 #[cfgV s t f l p, (rdV ⟨own, 0, oc, ep, th, wd, A, cap, L, ju⟩)] W fun e w' => e = .returned (askV 0 0 0 0) ∧ Below W.heap.size W w' := by
  have HK := Lib.hid (KR.start W s t f l p ⟨own, 0, oc, ep, th, wd, A, cap, L, ju⟩)
  go_enter Tryd.func12, Tryd.ntmps12
  go_wp2
  exact bodyPost_ret (v := askV 0 0 0 0) (by simp [results, Tryd.results12, go_sem]) rfl ⟨rfl, by first | exact below3 _ _ _ _ | (refine belowSets4 (below3 _ _ _ _) (by simp; omega) _ _ _ _)⟩
set_option maxHeartbeats 1000000 in
theorem rwant_5 (s t f l p : Int) (own oc ep th wd ju : Int) (A : Option Addr) (cap : Nat) (L : List Int) (W : World) :
    Calls Tryd.prog 12 #[cfgV s t f l p, (rdV ⟨own, 5, oc, ep, th, wd, A, cap, L, ju⟩)] W fun e w' => e = .returned (askV 3 0 ep (IntKind.u64.wrap (ep + 1))) ∧ Below W.heap.size W w' := by
  have HK := Lib.hid (KR.start W s t f l p ⟨own, 5, oc, ep, th, wd, A, cap, L, ju⟩)
  go_enter Tryd.func12, Tryd.ntmps12
  go_wp2
  exact bodyPost_ret (v := askV 3 0 ep (IntKind.u64.wrap (ep + 1))) (by simp [results, Tryd.results12, go_sem]) rfl ⟨rfl, by first | exact below3 _ _ _ _ | (refine belowSets4 (below3 _ _ _ _) (by simp; omega) _ _ _ _)⟩
set_option maxHeartbeats 1000000 in
theorem rwant_4 (s t f l p : Int) (own oc ep th ju : Int) (A : Option Addr) (cap : Nat) (L : List Int) (wd : Nat) (hwd : wd < 18446744073709551616) (h0 : 0 ≤ th) (h1 : th < 64) (W : World) :
    Calls Tryd.prog 12 #[cfgV s t f l p, (rdV ⟨own, 4, oc, ep, th, (wd : Nat), A, cap, L, ju⟩)] W fun e w' => e = .returned (askV 3 (3 + th) (wd : Nat) (wd - wd % 4 + 2 : Nat)) ∧ Below W.heap.size W w' := by
  have HK := Lib.hid (KR.start W s t f l p ⟨own, 4, oc, ep, th, (wd : Nat), A, cap, L, ju⟩)
  have A8 := Lib.hid (rannounce_any s t f l p th h0 h1)
  have M8 := Lib.hid (raevict_any wd hwd)
  generalize wd - wd % 4 + 2 = v4 at M8 ⊢
  have HKD := Lib.hid HK.out.drew
  clear HK
  go_enter Tryd.func12, Tryd.ntmps12
  go_wp2
  refine wp_region_class_tail (C := KR W.heap.size W W.heap.size s t f l p (W.heap.size + 1) ⟨own, 4, oc, ep, th, (wd : Nat), A, cap, L, ju⟩ (W.heap.size + 2)) 10 (by kernel_rfl) (by kernel_rfl) (HKD.out) ?_
  simp only [List.take_succ_cons, List.take_zero, List.drop_succ_cons, List.drop_zero]
  repeat (first
    | go_big_quiet_skip
    | (go_big_quiet_want; go_big_quiet_op; go_big_quiet_on)
    | (go_big_quiet_want; go_big_quiet_op; refine ⟨_, fun _ _ => rfl, ?_⟩; go_big_quiet_on)
    | (go_big_quiet_want
       apply quiet_mk
       · intro u hu
         have c0 := hu.c0; have c1 := hu.c1; have c2 := hu.c2; have c3 := hu.c3; have c4 := hu.c4; have d0 := hu.d0; have d1 := hu.d1; have d2 := hu.d2; have d3 := hu.d3; have d4 := hu.d4; have d5 := hu.d5; have d6 := hu.d6; have d7 := hu.d7
         have HU := Lib.hid hu
         clear hu
         go_simp
         first
           | with_reducible rfl
           | (go_at_call 24; refine (A8.out _).mono ?_; rintro e w' ⟨rfl, hn⟩; exact ⟨rfl, HU.out.next hn⟩) | (go_at_call 27; refine (M8.out _).mono ?_; rintro e w' ⟨rfl, rfl⟩; exact ⟨rfl, HU.out⟩)
       simp only [Act.put, List.setIfInBounds_toArray, List.set_cons_zero, List.set_cons_succ]
       go_big_quiet_on))
  refine wpQuiet_nil ?_
  intro u hu
  have r0 := hu.r0; have r1 := hu.r1; have r2 := hu.r2; have r3 := hu.r3; have rz := hu.rz
  go_wp2
  exact bodyPost_ret (v := askV 3 (3 + th) (wd : Nat) (v4 : Nat)) (by simp [results, Tryd.results12, go_sem, r0, r1, r2, r3]) rfl ⟨rfl, belowSets4 hu.bl (by omega) _ _ _ _⟩
/-- Two cells at hand. -/
structure I2 (B : Nat) (w0 : World) (b1 b2 j : Nat) (x : Int) (W : World) : Prop where
  c0 : W.cell? ⟨b1, j, none⟩ = some (.int .i64 x)
  d0 : W.cell? ⟨b2, j, none⟩ = some (.int .i64 x)
  bl : Below B w0 W
theorem I2.drew {B : Nat} {w0 : World} {b1 b2 j : Nat} {x : Int} {W : World} (h : I2 B w0 b1 b2 j x W) : I2 B w0 b1 b2 j x W.drew := ⟨h.c0, h.d0, h.bl.drew⟩
/-- A list of ints that can be read. -/
def RI (W : World) (A : Option Addr) (L : List Int) : Prop := 0 < L.length → ∃ g : Nat, A = some ⟨g, 0, none⟩ ∧ ∀ j, j < L.length → W.cell? ⟨g, j, none⟩ = some (.int .i64 (L.getD j 0))
theorem RI.next {W W' : World} {A : Option Addr} {L : List Int} (h : RI W A L) (hb : Below W.heap.size W W') : RI W' A L := fun h0 => by
  obtain ⟨g, e, hc⟩ := h h0
  exact ⟨g, e, fun j hj => (hb.cell (p := ⟨g, j, none⟩) (World.block_lt_of_cell? W _ (hc j hj))).trans (hc j hj)⟩
theorem add_pl (b off j : Nat) : (⟨b, off, none⟩ : Addr).add j = ⟨b, off + j, none⟩ := by
  unfold Addr.add
  split
  · rename_i h; subst h; rfl
  · rfl
theorem RI.of_own {W : World} {B : Nat} {A : Option Addr} {c : Nat} {L : List Int} (h : W.ownsRow B 3 1 (.slice A L.length c) L.length (ivs L)) : RI W A L := fun h0 => by
  have hc := fun g (e : (Value.slice A L.length c).ownBlock = some g) => h.cells e
  rcases h.2 with ⟨_, h1⟩ | ⟨g, cap, cur, hv, hb, hh, h3⟩
  · omega
  · injection hv with e1 e2 e3
    subst e1
    refine ⟨g, rfl, fun j hj => ?_⟩
    have hj' : (ivs L)[j]? = some (.int .i64 (L.getD j 0)) := by simp [ivs, List.getD, hj]
    have := hc g rfl j _ hj'
    rw [add_pl, Nat.zero_add] at this; exact this
set_option maxRecDepth 100000 in
set_option maxHeartbeats 1000000 in
theorem ints_any (us : List Int) (hl : us.length ≤ 100000) (A1 A2 : Option Addr) (c1 c2 : Nat) (W : World) (h1 : RI W A1 us) (h2 : RI W A2 us) :
    Calls Tryd.prog 15 #[.slice A1 us.length c1, .slice A2 us.length c2] W fun x w' => x = .returned (.bool true) ∧ Below W.heap.size W w' := by
  have H1 := Lib.hid h1
  have H2 := Lib.hid h2
  have hmx : us.length ≤ maxLen := by unfold maxLen; omega
  have hne : ((us.length : Int) != (us.length : Int)) = false := by simp
  clear h1 h2
  go_enter Tryd.func15, Tryd.ntmps15
  go_wp2
  go_loopg [5] us.length (fun g i wr => ∃ j : Nat, j ≤ us.length ∧ g = us.length - j ∧ i = .int .i64 j ∧ Below W.heap.size W wr)
  case atStart => exact ⟨0, by omega, by omega, rfl, Below.refl _ _⟩
  case round =>
    obtain ⟨j, hj, hg, rfl, hb⟩ := hrel
    by_cases hlt : j < us.length
    · obtain ⟨b1, rfl, k1⟩ := (H1.out.next hb) (by omega)
      obtain ⟨b2, rfl, k2⟩ := (H2.out.next hb) (by omega)
      have HS := Lib.hid (show I2 W.heap.size W b1 b2 j (us.getD j 0) wr from ⟨k1 j hlt, k2 j hlt, hb⟩)
      generalize us.getD j 0 = x at HS
      have HS1 := Lib.hid HS.out.drew
      clear k1 k2 HS hb H1 H2
      go_wp2
      refine wp_region_class (C := I2 W.heap.size W b1 b2 j x) (by kernel_rfl) (by kernel_rfl) (HS1.out) ?_
      repeat (first
        | go_big_quiet_skip
        | (go_big_quiet_want; go_big_quiet_op; go_big_quiet_on)
        | (go_big_quiet_want; go_big_quiet_op; refine ⟨_, fun _ _ => rfl, ?_⟩; go_big_quiet_on)
        | (go_big_quiet_want
           apply quiet_mk
           · intro u hu
             have c0 := hu.c0; have d0 := hu.d0
             have HU := Lib.hid hu
             clear hu
             go_simp
             first
               | with_reducible rfl
           simp only [Act.put, List.setIfInBounds_toArray, List.set_cons_zero, List.set_cons_succ]
           go_big_quiet_on))
      refine wpQuiet_nil ?_
      intro u hu
      have HB := Lib.hid hu.bl
      clear hu HS1
      go_wp2
      go_roundg (us.length - (j + 1))
      case rel => exact ⟨j + 1, by omega, rfl, by go_num, HB.out⟩
      case measure => omega
    · obtain rfl : j = us.length := by omega
      have HB := Lib.hid hb
      clear hb
      go_wp2
      go_ret
      exact ⟨rfl, HB.out⟩
end Go.Proofs.YthcmgagmbioofaaDoor
