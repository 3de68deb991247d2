/- advance.Advance: its contracts. -/
import Derived.Test.YthcmgagmbioofaaDoorTells
import Derived.Test.YthcmgagmbioofaaDoorAword
namespace Go.Proofs.YthcmgagmbioofaaDoor
set_option linter.unusedVariables false
open Go.RowKit Go.Extern.Stop Go.Stop Go.Extern
structure Ad where
  s : Int
  t : Int
  f : Int
  l : Int
  p : Int
  th : Int
  st : Int
  oc : Int
  ep : Int
  ot : Int
  wd : Int
  ev : Int
  ju : Int
abbrev adV (x : Ad) : Value := .agg #[.int .i64 x.s, .int .i64 x.t, .int .i64 x.f, .int .i64 x.l, .int .i64 x.p, .int .i64 x.th, .int .i64 x.st, .int .i64 x.oc, .int .u64 x.ep, .int .i64 x.ot, .int .u64 x.wd, .int .u64 x.ev, .int .u64 x.ju]
abbrev adRow (x : Ad) : Obj := .cells #[.int .i64 x.s, .int .i64 x.t, .int .i64 x.f, .int .i64 x.l, .int .i64 x.p, .int .i64 x.th, .int .i64 x.st, .int .i64 x.oc, .int .u64 x.ep, .int .i64 x.ot, .int .u64 x.wd, .int .u64 x.ev, .int .u64 x.ju] 30
abbrev askV (k a o n : Int) : Value := .agg #[.int .i64 k, .int .i64 a, .int .u64 o, .int .u64 n]
abbrev Ad.none : Ad := ⟨0, 0, 0, 0, 0, 0, 0, 0, 0, 0, 0, 0, 0⟩
/-- Whose turn comes: the first other thread from one on. -/
def Ad.turn (x : Ad) (n : Int) : Ad :=
  if x.t ≤ (if n = x.th then n + 1 else n) then ⟨x.s, x.t, x.f, x.l, x.p, x.th, 5, x.oc, x.ep, 0, x.wd, x.ev, x.ju⟩
  else ⟨x.s, x.t, x.f, x.l, x.p, x.th, 2, x.oc, x.ep, (if n = x.th then n + 1 else n), x.wd, x.ev, x.ju⟩
/-- What an Advance's block holds. -/
structure AC (g : Nat) (x : Ad) (W : World) : Prop where
  c0 : W.cell? ⟨g, 0, none⟩ = some (.int .i64 x.s)
  c1 : W.cell? ⟨g, 1, none⟩ = some (.int .i64 x.t)
  c2 : W.cell? ⟨g, 2, none⟩ = some (.int .i64 x.f)
  c3 : W.cell? ⟨g, 3, none⟩ = some (.int .i64 x.l)
  c4 : W.cell? ⟨g, 4, none⟩ = some (.int .i64 x.p)
  c5 : W.cell? ⟨g, 5, none⟩ = some (.int .i64 x.th)
  c6 : W.cell? ⟨g, 6, none⟩ = some (.int .i64 x.st)
  c7 : W.cell? ⟨g, 7, none⟩ = some (.int .i64 x.oc)
  c8 : W.cell? ⟨g, 8, none⟩ = some (.int .u64 x.ep)
  c9 : W.cell? ⟨g, 9, none⟩ = some (.int .i64 x.ot)
  c10 : W.cell? ⟨g, 10, none⟩ = some (.int .u64 x.wd)
  c11 : W.cell? ⟨g, 11, none⟩ = some (.int .u64 x.ev)
  c12 : W.cell? ⟨g, 12, none⟩ = some (.int .u64 x.ju)
  fz : ∀ i, W.frozen? ⟨g, i, none⟩ = false
theorem AC.lt {g : Nat} {x : Ad} {W : World} (h : AC g x W) : g < W.heap.size := World.block_lt_of_cell? W _ h.c0
theorem AC.next {g : Nat} {x : Ad} {W W' : World} (h : AC g x W) (hb : Below W.heap.size W W') : AC g x W' := by
  have c : ∀ j, W'.cell? ⟨g, j, none⟩ = W.cell? ⟨g, j, none⟩ := fun j => hb.cell (p := ⟨g, j, none⟩) h.lt
  exact ⟨(c _).trans h.c0, (c _).trans h.c1, (c _).trans h.c2, (c _).trans h.c3, (c _).trans h.c4, (c _).trans h.c5, (c _).trans h.c6, (c _).trans h.c7, (c _).trans h.c8, (c _).trans h.c9, (c _).trans h.c10, (c _).trans h.c11, (c _).trans h.c12, fun i => (hb.frozen (p := ⟨g, i, none⟩) h.lt).trans (h.fz i)⟩
theorem AC.drew {g : Nat} {x : Ad} {W : World} (h : AC g x W) : AC g x W.drew := ⟨h.c0, h.c1, h.c2, h.c3, h.c4, h.c5, h.c6, h.c7, h.c8, h.c9, h.c10, h.c11, h.c12, h.fz⟩
theorem AC.drewN {g : Nat} {x : Ad} {W : World} (h : AC g x W) (n : Nat) : AC g x (W.drewN n) := ⟨h.c0, h.c1, h.c2, h.c3, h.c4, h.c5, h.c6, h.c7, h.c8, h.c9, h.c10, h.c11, h.c12, h.fz⟩
theorem AC.alloc (W : World) (x : Ad) : AC W.heap.size x (W.alloc (adRow x)) := ⟨by simp, by simp, by simp, by simp, by simp, by simp, by simp, by simp, by simp, by simp, by simp, by simp, by simp, fun i => by simp⟩
abbrev putA (W : World) (g : Nat) (x : Ad) : World := ((((((((((((W.setCell ⟨g, 0, none⟩ (.int .i64 x.s)).setCell ⟨g, 1, none⟩ (.int .i64 x.t)).setCell ⟨g, 2, none⟩ (.int .i64 x.f)).setCell ⟨g, 3, none⟩ (.int .i64 x.l)).setCell ⟨g, 4, none⟩ (.int .i64 x.p)).setCell ⟨g, 5, none⟩ (.int .i64 x.th)).setCell ⟨g, 6, none⟩ (.int .i64 x.st)).setCell ⟨g, 7, none⟩ (.int .i64 x.oc)).setCell ⟨g, 8, none⟩ (.int .u64 x.ep)).setCell ⟨g, 9, none⟩ (.int .i64 x.ot)).setCell ⟨g, 10, none⟩ (.int .u64 x.wd)).setCell ⟨g, 11, none⟩ (.int .u64 x.ev)).setCell ⟨g, 12, none⟩ (.int .u64 x.ju)
theorem AC.store {g : Nat} {y : Ad} {W : World} (h : AC g y W) (x : Ad) : AC g x (putA W g x) := by
  obtain ⟨c0, c1, c2, c3, c4, c5, c6, c7, c8, c9, c10, c11, c12, fz⟩ := h
  exact ⟨by unfold putA; simp [go_sem, c0], by unfold putA; simp [go_sem, c1], by unfold putA; simp [go_sem, c2], by unfold putA; simp [go_sem, c3], by unfold putA; simp [go_sem, c4], by unfold putA; simp [go_sem, c5], by unfold putA; simp [go_sem, c6], by unfold putA; simp [go_sem, c7], by unfold putA; simp [go_sem, c8], by unfold putA; simp [go_sem, c9], by unfold putA; simp [go_sem, c10], by unfold putA; simp [go_sem, c11], by unfold putA; simp [go_sem, c12], fun i => by unfold putA; simp [go_sem, fz]⟩
theorem AC.keep {g g' : Nat} {y : Ad} {W : World} (h : AC g' y W) (hne : g ≠ g') (x : Ad) : AC g' y (putA W g x) := by
  obtain ⟨c0, c1, c2, c3, c4, c5, c6, c7, c8, c9, c10, c11, c12, fz⟩ := h
  have hne2 : g' ≠ g := fun e => hne e.symm
  exact ⟨by unfold putA; simp [go_sem, c0], by unfold putA; simp [go_sem, c1], by unfold putA; simp [go_sem, c2], by unfold putA; simp [go_sem, c3], by unfold putA; simp [go_sem, c4], by unfold putA; simp [go_sem, c5], by unfold putA; simp [go_sem, c6], by unfold putA; simp [go_sem, c7], by unfold putA; simp [go_sem, c8], by unfold putA; simp [go_sem, c9], by unfold putA; simp [go_sem, c10], by unfold putA; simp [go_sem, c11], by unfold putA; simp [go_sem, c12], fun i => by unfold putA; simp [go_sem, fz]⟩
theorem belowA {B : Nat} {a W : World} (h : Below B a W) {g : Nat} (hg : B ≤ g) (x : Ad) : Below B a (putA W g x) := by
  exact (((((((((((((h.setCell hg _).setCell hg _).setCell hg _).setCell hg _).setCell hg _).setCell hg _).setCell hg _).setCell hg _).setCell hg _).setCell hg _).setCell hg _).setCell hg _).setCell hg _)
theorem cfgfield (s t f l p : Int) : ∀ w, (Instr.field 23 (.agg #[.int .i64 s, .int .i64 t, .int .i64 f, .int .i64 l, .int .i64 p]) 1).run Tryd.prog w = .ok (.int .i64 t) w := fun _ => by kernel_rfl
theorem cfgfield4 (s t f l p : Int) : ∀ w, (Instr.field 23 (.agg #[.int .i64 s, .int .i64 t, .int .i64 f, .int .i64 l, .int .i64 p]) 4).run Tryd.prog w = .ok (.int .i64 p) w := fun _ => by kernel_rfl
/-- An Advance's block, and the result's. -/
structure KA (B : Nat) (w0 : World) (g : Nat) (x : Ad) (r : Nat) (W : World) : Prop where
  ac : AC g x W
  rc : AC r Ad.none W
  bl : Below B w0 W
  le : B ≤ r
  ne : r ≠ g
  lg : B ≤ g
theorem KA.next {B : Nat} {w0 : World} {g : Nat} {x : Ad} {r : Nat} {W W' : World} (h : KA B w0 g x r W) (hb : Below W.heap.size W W') : KA B w0 g x r W' :=
  ⟨h.ac.next hb, h.rc.next hb, h.bl.trans (hb.mono (Nat.le_trans h.le (Nat.le_of_lt h.rc.lt))), h.le, h.ne, h.lg⟩
theorem KA.drew {B : Nat} {w0 : World} {g : Nat} {x : Ad} {r : Nat} {W : World} (h : KA B w0 g x r W) : KA B w0 g x r W.drew := ⟨h.ac.drew, h.rc.drew, h.bl.drew, h.le, h.ne, h.lg⟩
theorem KA.drewN {B : Nat} {w0 : World} {g : Nat} {x : Ad} {r : Nat} {W : World} (h : KA B w0 g x r W) (n : Nat) : KA B w0 g x r (W.drewN n) := ⟨h.ac.drewN n, h.rc.drewN n, ⟨h.bl.os, h.bl.tape, h.bl.output, h.bl.size, h.bl.block⟩, h.le, h.ne, h.lg⟩
theorem KA.start (W : World) (x : Ad) : KA W.heap.size W W.heap.size x (W.heap.size + 1) ((W.alloc (adRow x)).alloc (adRow Ad.none)) := by
  have e1 := (AC.alloc W x).next (below1 (W.alloc (adRow x)) (adRow Ad.none))
  have e2 := AC.alloc (W.alloc (adRow x)) Ad.none
  rw [show (W.alloc (adRow x)).heap.size = W.heap.size + 1 by simp] at e2
  exact ⟨e1, e2, below2 _ _ _, by omega, by omega, Nat.le_refl _⟩
theorem KA.c0 {B : Nat} {w0 : World} {g : Nat} {x : Ad} {r : Nat} {W : World} (h : KA B w0 g x r W) : W.cell? ⟨g, 0, none⟩ = some (.int .i64 x.s) := h.ac.c0
theorem KA.e0 {B : Nat} {w0 : World} {g : Nat} {x : Ad} {r : Nat} {W : World} (h : KA B w0 g x r W) : W.cell? ⟨r, 0, none⟩ = some (.int .i64 0) := h.rc.c0
theorem KA.c1 {B : Nat} {w0 : World} {g : Nat} {x : Ad} {r : Nat} {W : World} (h : KA B w0 g x r W) : W.cell? ⟨g, 1, none⟩ = some (.int .i64 x.t) := h.ac.c1
theorem KA.e1 {B : Nat} {w0 : World} {g : Nat} {x : Ad} {r : Nat} {W : World} (h : KA B w0 g x r W) : W.cell? ⟨r, 1, none⟩ = some (.int .i64 0) := h.rc.c1
theorem KA.c2 {B : Nat} {w0 : World} {g : Nat} {x : Ad} {r : Nat} {W : World} (h : KA B w0 g x r W) : W.cell? ⟨g, 2, none⟩ = some (.int .i64 x.f) := h.ac.c2
theorem KA.e2 {B : Nat} {w0 : World} {g : Nat} {x : Ad} {r : Nat} {W : World} (h : KA B w0 g x r W) : W.cell? ⟨r, 2, none⟩ = some (.int .i64 0) := h.rc.c2
theorem KA.c3 {B : Nat} {w0 : World} {g : Nat} {x : Ad} {r : Nat} {W : World} (h : KA B w0 g x r W) : W.cell? ⟨g, 3, none⟩ = some (.int .i64 x.l) := h.ac.c3
theorem KA.e3 {B : Nat} {w0 : World} {g : Nat} {x : Ad} {r : Nat} {W : World} (h : KA B w0 g x r W) : W.cell? ⟨r, 3, none⟩ = some (.int .i64 0) := h.rc.c3
theorem KA.c4 {B : Nat} {w0 : World} {g : Nat} {x : Ad} {r : Nat} {W : World} (h : KA B w0 g x r W) : W.cell? ⟨g, 4, none⟩ = some (.int .i64 x.p) := h.ac.c4
theorem KA.e4 {B : Nat} {w0 : World} {g : Nat} {x : Ad} {r : Nat} {W : World} (h : KA B w0 g x r W) : W.cell? ⟨r, 4, none⟩ = some (.int .i64 0) := h.rc.c4
theorem KA.c5 {B : Nat} {w0 : World} {g : Nat} {x : Ad} {r : Nat} {W : World} (h : KA B w0 g x r W) : W.cell? ⟨g, 5, none⟩ = some (.int .i64 x.th) := h.ac.c5
theorem KA.e5 {B : Nat} {w0 : World} {g : Nat} {x : Ad} {r : Nat} {W : World} (h : KA B w0 g x r W) : W.cell? ⟨r, 5, none⟩ = some (.int .i64 0) := h.rc.c5
theorem KA.c6 {B : Nat} {w0 : World} {g : Nat} {x : Ad} {r : Nat} {W : World} (h : KA B w0 g x r W) : W.cell? ⟨g, 6, none⟩ = some (.int .i64 x.st) := h.ac.c6
theorem KA.e6 {B : Nat} {w0 : World} {g : Nat} {x : Ad} {r : Nat} {W : World} (h : KA B w0 g x r W) : W.cell? ⟨r, 6, none⟩ = some (.int .i64 0) := h.rc.c6
theorem KA.c7 {B : Nat} {w0 : World} {g : Nat} {x : Ad} {r : Nat} {W : World} (h : KA B w0 g x r W) : W.cell? ⟨g, 7, none⟩ = some (.int .i64 x.oc) := h.ac.c7
theorem KA.e7 {B : Nat} {w0 : World} {g : Nat} {x : Ad} {r : Nat} {W : World} (h : KA B w0 g x r W) : W.cell? ⟨r, 7, none⟩ = some (.int .i64 0) := h.rc.c7
theorem KA.c8 {B : Nat} {w0 : World} {g : Nat} {x : Ad} {r : Nat} {W : World} (h : KA B w0 g x r W) : W.cell? ⟨g, 8, none⟩ = some (.int .u64 x.ep) := h.ac.c8
theorem KA.e8 {B : Nat} {w0 : World} {g : Nat} {x : Ad} {r : Nat} {W : World} (h : KA B w0 g x r W) : W.cell? ⟨r, 8, none⟩ = some (.int .u64 0) := h.rc.c8
theorem KA.c9 {B : Nat} {w0 : World} {g : Nat} {x : Ad} {r : Nat} {W : World} (h : KA B w0 g x r W) : W.cell? ⟨g, 9, none⟩ = some (.int .i64 x.ot) := h.ac.c9
theorem KA.e9 {B : Nat} {w0 : World} {g : Nat} {x : Ad} {r : Nat} {W : World} (h : KA B w0 g x r W) : W.cell? ⟨r, 9, none⟩ = some (.int .i64 0) := h.rc.c9
theorem KA.c10 {B : Nat} {w0 : World} {g : Nat} {x : Ad} {r : Nat} {W : World} (h : KA B w0 g x r W) : W.cell? ⟨g, 10, none⟩ = some (.int .u64 x.wd) := h.ac.c10
theorem KA.e10 {B : Nat} {w0 : World} {g : Nat} {x : Ad} {r : Nat} {W : World} (h : KA B w0 g x r W) : W.cell? ⟨r, 10, none⟩ = some (.int .u64 0) := h.rc.c10
theorem KA.c11 {B : Nat} {w0 : World} {g : Nat} {x : Ad} {r : Nat} {W : World} (h : KA B w0 g x r W) : W.cell? ⟨g, 11, none⟩ = some (.int .u64 x.ev) := h.ac.c11
theorem KA.e11 {B : Nat} {w0 : World} {g : Nat} {x : Ad} {r : Nat} {W : World} (h : KA B w0 g x r W) : W.cell? ⟨r, 11, none⟩ = some (.int .u64 0) := h.rc.c11
theorem KA.c12 {B : Nat} {w0 : World} {g : Nat} {x : Ad} {r : Nat} {W : World} (h : KA B w0 g x r W) : W.cell? ⟨g, 12, none⟩ = some (.int .u64 x.ju) := h.ac.c12
theorem KA.e12 {B : Nat} {w0 : World} {g : Nat} {x : Ad} {r : Nat} {W : World} (h : KA B w0 g x r W) : W.cell? ⟨r, 12, none⟩ = some (.int .u64 0) := h.rc.c12
set_option maxHeartbeats 400000 in
theorem turn_nl (s t f l p th st oc ep ot wd ev ju n : Int) (hne : (n == th) = false) (hn0 : 0 ≤ n) (hn1 : n ≤ 64) (h : n < t) (W : World) :
    Calls Tryd.prog 35 #[adV ⟨s, t, f, l, p, th, st, oc, ep, ot, wd, ev, ju⟩, .int .i64 n] W fun e w' => e = .returned (adV ⟨s, t, f, l, p, th, 2, oc, ep, n, wd, ev, ju⟩) ∧ Below W.heap.size W w' := by
  have HK := Lib.hid (KA.start W ⟨s, t, f, l, p, th, 2, oc, ep, n, wd, ev, ju⟩)
  have C := Lib.hid (config_any s t f l p)
  have hfd := cfgfield s t f l p
  go_enter Tryd.func35, Tryd.ntmps35
  go_wp2_with (go_at_call 57; refine (C.out _).mono ?_; rintro e w1 ⟨rfl, hn⟩; have h1 := HK.out.next hn; clear hn; have c0 := h1.c0; have c1 := h1.c1; have c2 := h1.c2; have c3 := h1.c3; have c4 := h1.c4; have c5 := h1.c5; have c6 := h1.c6; have c7 := h1.c7; have c8 := h1.c8; have c9 := h1.c9; have c10 := h1.c10; have c11 := h1.c11; have c12 := h1.c12; have e0 := h1.e0; have e1 := h1.e1; have e2 := h1.e2; have e3 := h1.e3; have e4 := h1.e4; have e5 := h1.e5; have e6 := h1.e6; have e7 := h1.e7; have e8 := h1.e8; have e9 := h1.e9; have e10 := h1.e10; have e11 := h1.e11; have e12 := h1.e12; have fz := h1.rc.fz; have gz := h1.ac.fz)
  exact bodyPost_ret (v := adV ⟨s, t, f, l, p, th, 2, oc, ep, n, wd, ev, ju⟩) (by simp [results, Tryd.results35, go_sem, e0, e1, e2, e3, e4, e5, e6, e7, e8, e9, e10, e11, e12]) rfl ⟨rfl, belowA (h1.bl) h1.le ⟨s, t, f, l, p, th, 2, oc, ep, n, wd, ev, ju⟩⟩
set_option maxHeartbeats 400000 in
theorem turn_nh (s t f l p th st oc ep ot wd ev ju n : Int) (hne : (n == th) = false) (hn0 : 0 ≤ n) (hn1 : n ≤ 64) (h : t ≤ n) (W : World) :
    Calls Tryd.prog 35 #[adV ⟨s, t, f, l, p, th, st, oc, ep, ot, wd, ev, ju⟩, .int .i64 n] W fun e w' => e = .returned (adV ⟨s, t, f, l, p, th, 5, oc, ep, 0, wd, ev, ju⟩) ∧ Below W.heap.size W w' := by
  have HK := Lib.hid (KA.start W ⟨s, t, f, l, p, th, 2, oc, ep, n, wd, ev, ju⟩)
  have C := Lib.hid (config_any s t f l p)
  have hfd := cfgfield s t f l p
  go_enter Tryd.func35, Tryd.ntmps35
  go_wp2_with (go_at_call 57; refine (C.out _).mono ?_; rintro e w1 ⟨rfl, hn⟩; have h1 := HK.out.next hn; clear hn; have c0 := h1.c0; have c1 := h1.c1; have c2 := h1.c2; have c3 := h1.c3; have c4 := h1.c4; have c5 := h1.c5; have c6 := h1.c6; have c7 := h1.c7; have c8 := h1.c8; have c9 := h1.c9; have c10 := h1.c10; have c11 := h1.c11; have c12 := h1.c12; have e0 := h1.e0; have e1 := h1.e1; have e2 := h1.e2; have e3 := h1.e3; have e4 := h1.e4; have e5 := h1.e5; have e6 := h1.e6; have e7 := h1.e7; have e8 := h1.e8; have e9 := h1.e9; have e10 := h1.e10; have e11 := h1.e11; have e12 := h1.e12; have fz := h1.rc.fz; have gz := h1.ac.fz)
  exact bodyPost_ret (v := adV ⟨s, t, f, l, p, th, 5, oc, ep, 0, wd, ev, ju⟩) (by simp [results, Tryd.results35, go_sem, e0, e1, e2, e3, e4, e5, e6, e7, e8, e9, e10, e11, e12]) rfl ⟨rfl, belowA ((h1.bl.setCell h1.lg _).setCell h1.lg _) h1.le ⟨s, t, f, l, p, th, 5, oc, ep, 0, wd, ev, ju⟩⟩
set_option maxHeartbeats 400000 in
theorem turn_el (s t f l p st oc ep ot wd ev ju n : Int) (hn0 : 0 ≤ n) (hn1 : n ≤ 64) (h : n + 1 < t) (W : World) :
    Calls Tryd.prog 35 #[adV ⟨s, t, f, l, p, n, st, oc, ep, ot, wd, ev, ju⟩, .int .i64 n] W fun e w' => e = .returned (adV ⟨s, t, f, l, p, n, 2, oc, ep, n + 1, wd, ev, ju⟩) ∧ Below W.heap.size W w' := by
  have HK := Lib.hid (KA.start W ⟨s, t, f, l, p, n, 2, oc, ep, n + 1, wd, ev, ju⟩)
  have C := Lib.hid (config_any s t f l p)
  have hfd := cfgfield s t f l p
  have hwr : wrap64 (n + 1) = n + 1 := IntWalk.wrap64_in _ ⟨by omega, by omega⟩
  go_enter Tryd.func35, Tryd.ntmps35
  go_wp2_with (go_at_call 57; refine (C.out _).mono ?_; rintro e w1 ⟨rfl, hn⟩; have h1 := HK.out.next hn; clear hn; have c0 := h1.c0; have c1 := h1.c1; have c2 := h1.c2; have c3 := h1.c3; have c4 := h1.c4; have c5 := h1.c5; have c6 := h1.c6; have c7 := h1.c7; have c8 := h1.c8; have c9 := h1.c9; have c10 := h1.c10; have c11 := h1.c11; have c12 := h1.c12; have e0 := h1.e0; have e1 := h1.e1; have e2 := h1.e2; have e3 := h1.e3; have e4 := h1.e4; have e5 := h1.e5; have e6 := h1.e6; have e7 := h1.e7; have e8 := h1.e8; have e9 := h1.e9; have e10 := h1.e10; have e11 := h1.e11; have e12 := h1.e12; have fz := h1.rc.fz; have gz := h1.ac.fz)
  exact bodyPost_ret (v := adV ⟨s, t, f, l, p, n, 2, oc, ep, n + 1, wd, ev, ju⟩) (by simp [results, Tryd.results35, go_sem, e0, e1, e2, e3, e4, e5, e6, e7, e8, e9, e10, e11, e12]) rfl ⟨rfl, belowA (h1.bl) h1.le ⟨s, t, f, l, p, n, 2, oc, ep, n + 1, wd, ev, ju⟩⟩
set_option maxHeartbeats 400000 in
theorem turn_eh (s t f l p st oc ep ot wd ev ju n : Int) (hn0 : 0 ≤ n) (hn1 : n ≤ 64) (h : t ≤ n + 1) (W : World) :
    Calls Tryd.prog 35 #[adV ⟨s, t, f, l, p, n, st, oc, ep, ot, wd, ev, ju⟩, .int .i64 n] W fun e w' => e = .returned (adV ⟨s, t, f, l, p, n, 5, oc, ep, 0, wd, ev, ju⟩) ∧ Below W.heap.size W w' := by
  have HK := Lib.hid (KA.start W ⟨s, t, f, l, p, n, 2, oc, ep, n + 1, wd, ev, ju⟩)
  have C := Lib.hid (config_any s t f l p)
  have hfd := cfgfield s t f l p
  have hwr : wrap64 (n + 1) = n + 1 := IntWalk.wrap64_in _ ⟨by omega, by omega⟩
  go_enter Tryd.func35, Tryd.ntmps35
  go_wp2_with (go_at_call 57; refine (C.out _).mono ?_; rintro e w1 ⟨rfl, hn⟩; have h1 := HK.out.next hn; clear hn; have c0 := h1.c0; have c1 := h1.c1; have c2 := h1.c2; have c3 := h1.c3; have c4 := h1.c4; have c5 := h1.c5; have c6 := h1.c6; have c7 := h1.c7; have c8 := h1.c8; have c9 := h1.c9; have c10 := h1.c10; have c11 := h1.c11; have c12 := h1.c12; have e0 := h1.e0; have e1 := h1.e1; have e2 := h1.e2; have e3 := h1.e3; have e4 := h1.e4; have e5 := h1.e5; have e6 := h1.e6; have e7 := h1.e7; have e8 := h1.e8; have e9 := h1.e9; have e10 := h1.e10; have e11 := h1.e11; have e12 := h1.e12; have fz := h1.rc.fz; have gz := h1.ac.fz)
  exact bodyPost_ret (v := adV ⟨s, t, f, l, p, n, 5, oc, ep, 0, wd, ev, ju⟩) (by simp [results, Tryd.results35, go_sem, e0, e1, e2, e3, e4, e5, e6, e7, e8, e9, e10, e11, e12]) rfl ⟨rfl, belowA ((h1.bl.setCell h1.lg _).setCell h1.lg _) h1.le ⟨s, t, f, l, p, n, 5, oc, ep, 0, wd, ev, ju⟩⟩
theorem turn_any (x : Ad) (n : Int) (hn0 : 0 ≤ n) (hn1 : n ≤ 64) (W : World) :
    Calls Tryd.prog 35 #[adV x, .int .i64 n] W fun e w' => e = .returned (adV (x.turn n)) ∧ Below W.heap.size W w' := by
  obtain ⟨s, t, f, l, p, th, st, oc, ep, ot, wd, ev, ju⟩ := x
  unfold Ad.turn
  by_cases he : n = th
  · subst he
    simp only [if_pos]
    by_cases hl : t ≤ n + 1
    · rw [if_pos hl]; exact turn_eh s t f l p  st oc ep ot wd ev ju n hn0 hn1 hl W
    · rw [if_neg hl]; exact turn_el s t f l p  st oc ep ot wd ev ju n hn0 hn1 (by omega) W
  · simp only [if_neg he]
    by_cases hl : t ≤ n
    · rw [if_pos hl]; exact turn_nh s t f l p th st oc ep ot wd ev ju n (by simpa using he) hn0 hn1 hl W
    · rw [if_neg hl]; exact turn_nl s t f l p th st oc ep ot wd ev ju n (by simpa using he) hn0 hn1 (by omega) W
end Go.Proofs.YthcmgagmbioofaaDoor
