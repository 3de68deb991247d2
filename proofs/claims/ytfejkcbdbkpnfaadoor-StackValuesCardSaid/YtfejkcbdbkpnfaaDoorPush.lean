/- stack.Push, gleaningref15's Push: contracts, their relation. -/
import Derived.Test.YtfejkcbdbkpnfaaDoorPop3
namespace Go.Proofs.YtfejkcbdbkpnfaaDoor
set_option linter.unusedVariables false
open Go.RowKit Go.Extern.Stop Go.Stop Go.Extern
structure Su where
  s : Int
  t : Int
  f : Int
  l : Int
  p : Int
  st : Int
  hd : Int
  sl : Int
  tr : Int
abbrev suV (x : Su) : Value := .agg #[.int .i64 x.s, .int .i64 x.t, .int .i64 x.f, .int .i64 x.l, .int .i64 x.p, .int .i64 x.st, .int .u64 x.hd, .int .i64 x.sl, .int .i64 x.tr]
abbrev suRow (x : Su) : Obj := .cells #[.int .i64 x.s, .int .i64 x.t, .int .i64 x.f, .int .i64 x.l, .int .i64 x.p, .int .i64 x.st, .int .u64 x.hd, .int .i64 x.sl, .int .i64 x.tr] 47
structure SC (g : Nat) (x : Su) (W : World) : Prop where
  c0 : W.cell? ⟨g, 0, none⟩ = some (.int .i64 x.s)
  c1 : W.cell? ⟨g, 1, none⟩ = some (.int .i64 x.t)
  c2 : W.cell? ⟨g, 2, none⟩ = some (.int .i64 x.f)
  c3 : W.cell? ⟨g, 3, none⟩ = some (.int .i64 x.l)
  c4 : W.cell? ⟨g, 4, none⟩ = some (.int .i64 x.p)
  c5 : W.cell? ⟨g, 5, none⟩ = some (.int .i64 x.st)
  c6 : W.cell? ⟨g, 6, none⟩ = some (.int .u64 x.hd)
  c7 : W.cell? ⟨g, 7, none⟩ = some (.int .i64 x.sl)
  c8 : W.cell? ⟨g, 8, none⟩ = some (.int .i64 x.tr)
  fz : ∀ i, W.frozen? ⟨g, i, none⟩ = false
theorem SC.lt {g : Nat} {x : Su} {W : World} (h : SC g x W) : g < W.heap.size := World.block_lt_of_cell? W _ h.c0
theorem SC.next {g : Nat} {x : Su} {W W' : World} (h : SC g x W) (hb : Below W.heap.size W W') : SC g x W' := by
  have c : ∀ j, W'.cell? ⟨g, j, none⟩ = W.cell? ⟨g, j, none⟩ := fun j => hb.cell (p := ⟨g, j, none⟩) h.lt
  exact ⟨(c _).trans h.c0, (c _).trans h.c1, (c _).trans h.c2, (c _).trans h.c3, (c _).trans h.c4, (c _).trans h.c5, (c _).trans h.c6, (c _).trans h.c7, (c _).trans h.c8, fun i => (hb.frozen (p := ⟨g, i, none⟩) h.lt).trans (h.fz i)⟩
theorem SC.drew {g : Nat} {x : Su} {W : World} (h : SC g x W) : SC g x W.drew := ⟨h.c0, h.c1, h.c2, h.c3, h.c4, h.c5, h.c6, h.c7, h.c8, h.fz⟩
theorem SC.alloc (W : World) (x : Su) : SC W.heap.size x (W.alloc (suRow x)) := ⟨by simp, by simp, by simp, by simp, by simp, by simp, by simp, by simp, by simp, fun i => by simp⟩
abbrev putS (W : World) (g : Nat) (x : Su) : World := ((((((((W.setCell ⟨g, 0, none⟩ (.int .i64 x.s)).setCell ⟨g, 1, none⟩ (.int .i64 x.t)).setCell ⟨g, 2, none⟩ (.int .i64 x.f)).setCell ⟨g, 3, none⟩ (.int .i64 x.l)).setCell ⟨g, 4, none⟩ (.int .i64 x.p)).setCell ⟨g, 5, none⟩ (.int .i64 x.st)).setCell ⟨g, 6, none⟩ (.int .u64 x.hd)).setCell ⟨g, 7, none⟩ (.int .i64 x.sl)).setCell ⟨g, 8, none⟩ (.int .i64 x.tr)
theorem SC.store {g : Nat} {y : Su} {W : World} (h : SC g y W) (x : Su) : SC g x (putS W g x) := by
  obtain ⟨c0, c1, c2, c3, c4, c5, c6, c7, c8, fz⟩ := h
  exact ⟨by unfold putS; simp [go_sem, c0], by unfold putS; simp [go_sem, c1], by unfold putS; simp [go_sem, c2], by unfold putS; simp [go_sem, c3], by unfold putS; simp [go_sem, c4], by unfold putS; simp [go_sem, c5], by unfold putS; simp [go_sem, c6], by unfold putS; simp [go_sem, c7], by unfold putS; simp [go_sem, c8], fun i => by unfold putS; simp [go_sem, fz]⟩
theorem below_putS {B : Nat} {a W : World} (h : Below B a W) {g : Nat} (hg : B ≤ g) (x : Su) : Below B a (putS W g x) := by
  exact (((((((((h.setCell hg _).setCell hg _).setCell hg _).setCell hg _).setCell hg _).setCell hg _).setCell hg _).setCell hg _).setCell hg _)
structure Rs where
  a : Int
  hd : Int
  sl : Int
  tr : Int
abbrev rsV (x : Rs) : Value := .agg #[.int .i64 x.a, .int .u64 x.hd, .int .i64 x.sl, .int .i64 x.tr]
abbrev rsRow (x : Rs) : Obj := .cells #[.int .i64 x.a, .int .u64 x.hd, .int .i64 x.sl, .int .i64 x.tr] 50
structure RSC (g : Nat) (x : Rs) (W : World) : Prop where
  c0 : W.cell? ⟨g, 0, none⟩ = some (.int .i64 x.a)
  c1 : W.cell? ⟨g, 1, none⟩ = some (.int .u64 x.hd)
  c2 : W.cell? ⟨g, 2, none⟩ = some (.int .i64 x.sl)
  c3 : W.cell? ⟨g, 3, none⟩ = some (.int .i64 x.tr)
  fz : ∀ i, W.frozen? ⟨g, i, none⟩ = false
theorem RSC.lt {g : Nat} {x : Rs} {W : World} (h : RSC g x W) : g < W.heap.size := World.block_lt_of_cell? W _ h.c0
theorem RSC.next {g : Nat} {x : Rs} {W W' : World} (h : RSC g x W) (hb : Below W.heap.size W W') : RSC g x W' := by
  have c : ∀ j, W'.cell? ⟨g, j, none⟩ = W.cell? ⟨g, j, none⟩ := fun j => hb.cell (p := ⟨g, j, none⟩) h.lt
  exact ⟨(c _).trans h.c0, (c _).trans h.c1, (c _).trans h.c2, (c _).trans h.c3, fun i => (hb.frozen (p := ⟨g, i, none⟩) h.lt).trans (h.fz i)⟩
theorem RSC.drew {g : Nat} {x : Rs} {W : World} (h : RSC g x W) : RSC g x W.drew := ⟨h.c0, h.c1, h.c2, h.c3, h.fz⟩
theorem RSC.alloc (W : World) (x : Rs) : RSC W.heap.size x (W.alloc (rsRow x)) := ⟨by simp, by simp, by simp, by simp, fun i => by simp⟩
abbrev putT (W : World) (g : Nat) (x : Rs) : World := (((W.setCell ⟨g, 0, none⟩ (.int .i64 x.a)).setCell ⟨g, 1, none⟩ (.int .u64 x.hd)).setCell ⟨g, 2, none⟩ (.int .i64 x.sl)).setCell ⟨g, 3, none⟩ (.int .i64 x.tr)
theorem RSC.store {g : Nat} {y : Rs} {W : World} (h : RSC g y W) (x : Rs) : RSC g x (putT W g x) := by
  obtain ⟨c0, c1, c2, c3, fz⟩ := h
  exact ⟨by unfold putT; simp [go_sem, c0], by unfold putT; simp [go_sem, c1], by unfold putT; simp [go_sem, c2], by unfold putT; simp [go_sem, c3], fun i => by unfold putT; simp [go_sem, fz]⟩
theorem below_putT {B : Nat} {a W : World} (h : Below B a W) {g : Nat} (hg : B ≤ g) (x : Rs) : Below B a (putT W g x) := by
  exact ((((h.setCell hg _).setCell hg _).setCell hg _).setCell hg _)
theorem SC.keep_putT {g g' : Nat} {y : Su} {W : World} (h : SC g' y W) (hne : g ≠ g') (x : Rs) : SC g' y (putT W g x) := by
  obtain ⟨c0, c1, c2, c3, c4, c5, c6, c7, c8, fz⟩ := h
  have hne2 : g' ≠ g := fun e => hne e.symm
  exact ⟨by unfold putT; simp [go_sem, c0], by unfold putT; simp [go_sem, c1], by unfold putT; simp [go_sem, c2], by unfold putT; simp [go_sem, c3], by unfold putT; simp [go_sem, c4], by unfold putT; simp [go_sem, c5], by unfold putT; simp [go_sem, c6], by unfold putT; simp [go_sem, c7], by unfold putT; simp [go_sem, c8], fun i => by unfold putT; simp [go_sem, fz]⟩
theorem RSC.keep_putS {g g' : Nat} {y : Rs} {W : World} (h : RSC g' y W) (hne : g ≠ g') (x : Su) : RSC g' y (putS W g x) := by
  obtain ⟨c0, c1, c2, c3, fz⟩ := h
  have hne2 : g' ≠ g := fun e => hne e.symm
  exact ⟨by unfold putS; simp [go_sem, c0], by unfold putS; simp [go_sem, c1], by unfold putS; simp [go_sem, c2], by unfold putS; simp [go_sem, c3], fun i => by unfold putS; simp [go_sem, fz]⟩
abbrev Su.end (tr : Int) : Su := ⟨0, 0, 0, 0, 0, 0, 0, 0, tr⟩
set_option maxHeartbeats 1000000 in
theorem scome_any (x : Su) (W : World) :
    Calls Tryd.prog 63 #[suV x] W fun e w' => e = .returned (suV (Su.end x.tr)) ∧ Below W.heap.size W w' := by
  have hB := Lib.hid (below2 W)
  go_enter Tryd.func63, Tryd.ntmps63
  go_wp2
  exact bodyPost_ret (v := suV (Su.end x.tr)) (by simp [results, Tryd.results63, go_sem]) rfl ⟨rfl, (by repeat (first | (with_reducible refine Below.setCell ?_ (by simp) _) | exact hB.out _ _ | exact Nat.le_refl _))⟩
set_option maxHeartbeats 1000000 in
theorem sstay_any (x : Su) (n : Nat) (W : World) :
    Calls Tryd.prog 64 #[suV x, .int .u64 n] W fun e w' => e = .returned (suV x) ∧ Below W.heap.size W w' := by
  have hB := Lib.hid (below2 W)
  go_enter Tryd.func64, Tryd.ntmps64
  go_wp2
  exact bodyPost_ret (v := suV x) (by simp [results, Tryd.results64, go_sem]) rfl ⟨rfl, (by repeat (first | (with_reducible refine Below.setCell ?_ (by simp) _) | exact hB.out _ _ | exact Nat.le_refl _))⟩
set_option maxHeartbeats 1000000 in
theorem stookHead_any (x : Su) (n : Nat) (W : World) :
    Calls Tryd.prog 65 #[suV x, .int .u64 n] W fun e w' => e = .returned (suV ⟨x.s, x.t, x.f, x.l, x.p, 2, n, x.sl, x.tr⟩) ∧ Below W.heap.size W w' := by
  have hB := Lib.hid (below2 W)
  go_enter Tryd.func65, Tryd.ntmps65
  go_wp2
  exact bodyPost_ret (v := suV ⟨x.s, x.t, x.f, x.l, x.p, 2, n, x.sl, x.tr⟩) (by simp [results, Tryd.results65, go_sem]) rfl ⟨rfl, (by repeat (first | (with_reducible refine Below.setCell ?_ (by simp) _) | exact hB.out _ _ | exact Nat.le_refl _))⟩
set_option maxHeartbeats 1000000 in
theorem stookLink_any (x : Su) (n : Nat) (W : World) :
    Calls Tryd.prog 66 #[suV x, .int .u64 n] W fun e w' => e = .returned (suV ⟨x.s, x.t, x.f, x.l, x.p, 3, x.hd, x.sl, x.tr⟩) ∧ Below W.heap.size W w' := by
  have hB := Lib.hid (below2 W)
  go_enter Tryd.func66, Tryd.ntmps66
  go_wp2
  exact bodyPost_ret (v := suV ⟨x.s, x.t, x.f, x.l, x.p, 3, x.hd, x.sl, x.tr⟩) (by simp [results, Tryd.results66, go_sem]) rfl ⟨rfl, (by repeat (first | (with_reducible refine Below.setCell ?_ (by simp) _) | exact hB.out _ _ | exact Nat.le_refl _))⟩
set_option maxHeartbeats 1000000 in
theorem stookSwap_miss (s t f l p st hd sl tr : Int) (n : Nat) (h1 : n ≠ 1) (ht : 0 ≤ tr) (ht2 : tr ≤ 1000) (W : World) :
    Calls Tryd.prog 67 #[suV ⟨s, t, f, l, p, st, hd, sl, tr⟩, .int .u64 n] W fun e w' => e = .returned (suV ⟨s, t, f, l, p, 1, 0, sl, tr + 1⟩) ∧ Below W.heap.size W w' := by
  have hB := Lib.hid (below2 W)
  have h2 : ((n : Int) == 1) = false := by simp; omega
  clear h1
  go_enter Tryd.func67, Tryd.ntmps67
  go_wp2
  exact bodyPost_ret (v := suV ⟨s, t, f, l, p, 1, 0, sl, tr + 1⟩) (by simp [results, Tryd.results67, go_sem]) rfl ⟨rfl, (by repeat (first | (with_reducible refine Below.setCell ?_ (by simp) _) | exact hB.out _ _ | exact Nat.le_refl _))⟩
theorem stries_any (x : Su) (W : World) :
    Calls Tryd.prog 25 #[suV x] W fun e w' => e = .returned (.int .i64 x.tr) ∧ Below W.heap.size W w' := by
  have hB := Lib.hid (below1 W)
  go_enter Tryd.func25, Tryd.ntmps25
  go_wp2
  go_ret
  exact ⟨rfl, hB.out _⟩
structure KSS (B : Nat) (w0 : World) (g : Nat) (x : Su) (r : Nat) (z : Su) (W : World) : Prop extends SC g x W where
  z : SC r z W
  bl : Below B w0 W
  le : B ≤ W.heap.size
theorem KSS.next {B : Nat} {w0 : World} {g : Nat} {x : Su} {r : Nat} {z : Su} {W W' : World} (h : KSS B w0 g x r z W) (hb : Below W.heap.size W W') : KSS B w0 g x r z W' := ⟨h.toSC.next hb, h.z.next hb, h.bl.trans (hb.mono h.le), Nat.le_trans h.le hb.size⟩
theorem KSS.start (W : World) (x : Su) : KSS W.heap.size W W.heap.size x (W.heap.size + 1) (Su.end 0) ((W.alloc (suRow x)).alloc (suRow (Su.end 0))) :=
  ⟨⟨by simp, by simp, by simp, by simp, by simp, by simp, by simp, by simp, by simp, fun i => by simp⟩, ⟨by simp, by simp, by simp, by simp, by simp, by simp, by simp, by simp, by simp, fun i => by simp⟩, below2 _ _ _, by simp; omega⟩
structure KS1 (B : Nat) (w0 : World) (g : Nat) (x : Su) (W : World) : Prop extends SC g x W where
  bl : Below B w0 W
  le : B ≤ W.heap.size
theorem KS1.next {B : Nat} {w0 : World} {g : Nat} {x : Su} {W W' : World} (h : KS1 B w0 g x W) (hb : Below W.heap.size W W') : KS1 B w0 g x W' := ⟨h.toSC.next hb, h.bl.trans (hb.mono h.le), Nat.le_trans h.le hb.size⟩
theorem KS1.start (W : World) (x : Su) : KS1 W.heap.size W W.heap.size x (W.alloc (suRow x)) := ⟨SC.alloc W x, below1 _ _, by simp⟩
theorem KS1.drew {B : Nat} {w0 : World} {g : Nat} {x : Su} {W : World} (h : KS1 B w0 g x W) : KS1 B w0 g x W.drew := ⟨h.toSC.drew, h.bl.drew, h.le⟩
structure KSA (B : Nat) (w0 : World) (g : Nat) (x : Su) (r : Nat) (W : World) : Prop extends KS1 B w0 g x W where
  r0 : W.cell? ⟨r, 0, none⟩ = some (.int .i64 0)
  r1 : W.cell? ⟨r, 1, none⟩ = some (.int .i64 0)
  r2 : W.cell? ⟨r, 2, none⟩ = some (.int .u64 0)
  r3 : W.cell? ⟨r, 3, none⟩ = some (.int .u64 0)
  rz : ∀ i, W.frozen? ⟨r, i, none⟩ = false
theorem KSA.next {B : Nat} {w0 : World} {g : Nat} {x : Su} {r : Nat} {W W' : World} (h : KSA B w0 g x r W) (hb : Below W.heap.size W W') : KSA B w0 g x r W' := by
  have hr : r < W.heap.size := World.block_lt_of_cell? W _ h.r0
  have c : ∀ j, W'.cell? ⟨r, j, none⟩ = W.cell? ⟨r, j, none⟩ := fun j => hb.cell (p := ⟨r, j, none⟩) hr
  exact ⟨h.toKS1.next hb, (c _).trans h.r0, (c _).trans h.r1, (c _).trans h.r2, (c _).trans h.r3, fun i => (hb.frozen (p := ⟨r, i, none⟩) hr).trans (h.rz i)⟩
theorem KSA.drew {B : Nat} {w0 : World} {g : Nat} {x : Su} {r : Nat} {W : World} (h : KSA B w0 g x r W) : KSA B w0 g x r W.drew := ⟨h.toKS1.drew, h.r0, h.r1, h.r2, h.r3, h.rz⟩
theorem KSA.start (W : World) (x : Su) : KSA W.heap.size W W.heap.size x (W.heap.size + 1) ((W.alloc (suRow x)).alloc (.cells #[.int .i64 0, .int .i64 0, .int .u64 0, .int .u64 0] 39)) := by
  have h := (KS1.start W x).next (below1 _ (.cells #[.int .i64 0, .int .i64 0, .int .u64 0, .int .u64 0] 39))
  exact ⟨h, by simp, by simp, by simp, by simp, fun i => by simp⟩
set_option maxHeartbeats 1000000 in
theorem stookSwap_hit (x : Su) (W : World) :
    Calls Tryd.prog 67 #[suV x, .int .u64 1] W fun e w' => e = .returned (suV (Su.end x.tr)) ∧ Below W.heap.size W w' := by
  have HK := Lib.hid (KSS.start W x)
  have M := Lib.hid (scome_any x)
  go_enter Tryd.func67, Tryd.ntmps67
  go_wp2_with (go_at_call 63; refine (M.out _).mono ?_; rintro e w1 ⟨rfl, hn⟩; have h1 := HK.out.next hn; clear hn; have e0 := h1.z.c0; have e1 := h1.z.c1; have e2 := h1.z.c2; have e3 := h1.z.c3; have e4 := h1.z.c4; have e5 := h1.z.c5; have e6 := h1.z.c6; have e7 := h1.z.c7; have e8 := h1.z.c8; have fz := h1.z.fz)
  exact bodyPost_ret (v := suV (Su.end x.tr)) (by simp [results, Tryd.results67, go_sem, e0, e1, e2, e3, e4, e5, e6, e7, e8]) rfl ⟨rfl, below_putS h1.bl (by omega) (Su.end x.tr)⟩
set_option maxHeartbeats 1000000 in
theorem stook_1 (s t f l p hd sl tr : Int) (n : Nat) (z : Su) (hC : ∀ W : World, Calls Tryd.prog 65 #[suV ⟨s, t, f, l, p, 1, hd, sl, tr⟩, .int .u64 n] W fun e w' => e = .returned (suV z) ∧ Below W.heap.size W w') (W : World) :
    Calls Tryd.prog 26 #[suV ⟨s, t, f, l, p, 1, hd, sl, tr⟩, .int .u64 n] W fun e w' => e = .returned (suV z) ∧ Below W.heap.size W w' := by
  have HK := Lib.hid (KSS.start W ⟨s, t, f, l, p, 1, hd, sl, tr⟩)
  have C := Lib.hid hC
  clear hC
  go_enter Tryd.func26, Tryd.ntmps26
  go_wp2_with (go_at_call 65; refine (C.out _).mono ?_; rintro e w1 ⟨rfl, hn⟩; have h1 := HK.out.next hn; clear hn; have e0 := h1.z.c0; have e1 := h1.z.c1; have e2 := h1.z.c2; have e3 := h1.z.c3; have e4 := h1.z.c4; have e5 := h1.z.c5; have e6 := h1.z.c6; have e7 := h1.z.c7; have e8 := h1.z.c8; have fz := h1.z.fz)
  exact bodyPost_ret (v := suV z) (by simp [results, Tryd.results26, go_sem, e0, e1, e2, e3, e4, e5, e6, e7, e8]) rfl ⟨rfl, below_putS h1.bl (by omega) z⟩
set_option maxHeartbeats 1000000 in
theorem stook_2 (s t f l p hd sl tr : Int) (n : Nat) (z : Su) (hC : ∀ W : World, Calls Tryd.prog 66 #[suV ⟨s, t, f, l, p, 2, hd, sl, tr⟩, .int .u64 n] W fun e w' => e = .returned (suV z) ∧ Below W.heap.size W w') (W : World) :
    Calls Tryd.prog 26 #[suV ⟨s, t, f, l, p, 2, hd, sl, tr⟩, .int .u64 n] W fun e w' => e = .returned (suV z) ∧ Below W.heap.size W w' := by
  have HK := Lib.hid (KSS.start W ⟨s, t, f, l, p, 2, hd, sl, tr⟩)
  have C := Lib.hid hC
  clear hC
  go_enter Tryd.func26, Tryd.ntmps26
  go_wp2_with (go_at_call 66; refine (C.out _).mono ?_; rintro e w1 ⟨rfl, hn⟩; have h1 := HK.out.next hn; clear hn; have e0 := h1.z.c0; have e1 := h1.z.c1; have e2 := h1.z.c2; have e3 := h1.z.c3; have e4 := h1.z.c4; have e5 := h1.z.c5; have e6 := h1.z.c6; have e7 := h1.z.c7; have e8 := h1.z.c8; have fz := h1.z.fz)
  exact bodyPost_ret (v := suV z) (by simp [results, Tryd.results26, go_sem, e0, e1, e2, e3, e4, e5, e6, e7, e8]) rfl ⟨rfl, below_putS h1.bl (by omega) z⟩
set_option maxHeartbeats 1000000 in
theorem stook_3 (s t f l p hd sl tr : Int) (n : Nat) (z : Su) (hC : ∀ W : World, Calls Tryd.prog 67 #[suV ⟨s, t, f, l, p, 3, hd, sl, tr⟩, .int .u64 n] W fun e w' => e = .returned (suV z) ∧ Below W.heap.size W w') (W : World) :
    Calls Tryd.prog 26 #[suV ⟨s, t, f, l, p, 3, hd, sl, tr⟩, .int .u64 n] W fun e w' => e = .returned (suV z) ∧ Below W.heap.size W w' := by
  have HK := Lib.hid (KSS.start W ⟨s, t, f, l, p, 3, hd, sl, tr⟩)
  have C := Lib.hid hC
  clear hC
  go_enter Tryd.func26, Tryd.ntmps26
  go_wp2_with (go_at_call 67; refine (C.out _).mono ?_; rintro e w1 ⟨rfl, hn⟩; have h1 := HK.out.next hn; clear hn; have e0 := h1.z.c0; have e1 := h1.z.c1; have e2 := h1.z.c2; have e3 := h1.z.c3; have e4 := h1.z.c4; have e5 := h1.z.c5; have e6 := h1.z.c6; have e7 := h1.z.c7; have e8 := h1.z.c8; have fz := h1.z.fz)
  exact bodyPost_ret (v := suV z) (by simp [results, Tryd.results26, go_sem, e0, e1, e2, e3, e4, e5, e6, e7, e8]) rfl ⟨rfl, below_putS h1.bl (by omega) z⟩
set_option maxHeartbeats 1000000 in
theorem stook_0 (s t f l p hd sl tr : Int) (n : Nat) (z : Su) (hC : ∀ W : World, Calls Tryd.prog 64 #[suV ⟨s, t, f, l, p, 0, hd, sl, tr⟩, .int .u64 n] W fun e w' => e = .returned (suV z) ∧ Below W.heap.size W w') (W : World) :
    Calls Tryd.prog 26 #[suV ⟨s, t, f, l, p, 0, hd, sl, tr⟩, .int .u64 n] W fun e w' => e = .returned (suV z) ∧ Below W.heap.size W w' := by
  have HK := Lib.hid (KSS.start W ⟨s, t, f, l, p, 0, hd, sl, tr⟩)
  have C := Lib.hid hC
  clear hC
  go_enter Tryd.func26, Tryd.ntmps26
  go_wp2_with (go_at_call 64; refine (C.out _).mono ?_; rintro e w1 ⟨rfl, hn⟩; have h1 := HK.out.next hn; clear hn; have e0 := h1.z.c0; have e1 := h1.z.c1; have e2 := h1.z.c2; have e3 := h1.z.c3; have e4 := h1.z.c4; have e5 := h1.z.c5; have e6 := h1.z.c6; have e7 := h1.z.c7; have e8 := h1.z.c8; have fz := h1.z.fz)
  exact bodyPost_ret (v := suV z) (by simp [results, Tryd.results26, go_sem, e0, e1, e2, e3, e4, e5, e6, e7, e8]) rfl ⟨rfl, below_putS h1.bl (by omega) z⟩
set_option maxHeartbeats 1000000 in
theorem sdone_no (s t f l p st hd sl tr : Int) (h : (s == 0) = false) (W : World) :
    Calls Tryd.prog 24 #[suV ⟨s, t, f, l, p, st, hd, sl, tr⟩] W fun e w' => e = .returned (.bool false) ∧ Below W.heap.size W w' := by
  have HK := Lib.hid (KS1.start W ⟨s, t, f, l, p, st, hd, sl, tr⟩).drew
  have M := Lib.hid (scome_any ⟨s, t, f, l, p, st, hd, sl, tr⟩)
  go_enter Tryd.func24, Tryd.ntmps24
  go_wp2
  refine wp_region_class (C := KS1 W.heap.size W W.heap.size ⟨s, t, f, l, p, st, hd, sl, tr⟩) (by kernel_rfl) (by kernel_rfl) (HK.out) ?_
  repeat (first
    | go_big_quiet_skip
    | (go_big_quiet_want; go_big_quiet_op; go_big_quiet_on)
    | (go_big_quiet_want; go_big_quiet_op; refine ⟨_, fun _ _ => rfl, ?_⟩; go_big_quiet_on)
    | (go_big_quiet_want
       apply quiet_mk
       · intro u hu
         have c0 := hu.c0; have c1 := hu.c1; have c2 := hu.c2; have c3 := hu.c3; have c4 := hu.c4; have c5 := hu.c5; have c6 := hu.c6; have c7 := hu.c7; have c8 := hu.c8
         have HU := Lib.hid hu
         clear hu
         go_simp
         first
           | with_reducible rfl
           | (go_at_call 63; refine (M.out _).mono ?_; rintro e w' ⟨rfl, hn⟩; exact ⟨rfl, HU.out.next hn⟩)
       simp only [Act.put, List.setIfInBounds_toArray, List.set_cons_zero, List.set_cons_succ]
       go_big_quiet_on))
  refine wpQuiet_nil ?_
  intro u hu
  have BL := Lib.hid hu.bl
  clear hu HK
  go_wp2
  go_ret
  exact ⟨rfl, BL.out⟩
set_option maxHeartbeats 1000000 in
theorem sdone_yes (tr : Int) (W : World) :
    Calls Tryd.prog 24 #[suV (Su.end tr)] W fun e w' => e = .returned (.bool true) ∧ Below W.heap.size W w' := by
  have HK := Lib.hid (KS1.start W (Su.end tr)).drew
  have M := Lib.hid (scome_any (Su.end tr))
  go_enter Tryd.func24, Tryd.ntmps24
  go_wp2
  refine wp_region_class (C := KS1 W.heap.size W W.heap.size (Su.end tr)) (by kernel_rfl) (by kernel_rfl) (HK.out) ?_
  repeat (first
    | go_big_quiet_skip
    | (go_big_quiet_want; go_big_quiet_op; go_big_quiet_on)
    | (go_big_quiet_want; go_big_quiet_op; refine ⟨_, fun _ _ => rfl, ?_⟩; go_big_quiet_on)
    | (go_big_quiet_want
       apply quiet_mk
       · intro u hu
         have c0 := hu.c0; have c1 := hu.c1; have c2 := hu.c2; have c3 := hu.c3; have c4 := hu.c4; have c5 := hu.c5; have c6 := hu.c6; have c7 := hu.c7; have c8 := hu.c8
         have HU := Lib.hid hu
         clear hu
         go_simp
         first
           | with_reducible rfl
           | (go_at_call 63; refine (M.out _).mono ?_; rintro e w' ⟨rfl, hn⟩; exact ⟨rfl, HU.out.next hn⟩)
       simp only [Act.put, List.setIfInBounds_toArray, List.set_cons_zero, List.set_cons_succ]
       go_big_quiet_on))
  refine wpQuiet_nil ?_
  intro u hu
  have BL := Lib.hid hu.bl
  clear hu HK
  go_wp2
  go_ret
  exact ⟨rfl, BL.out⟩
theorem swant_1 (s t f l p hd sl tr : Int) (h : okL s t f l p) (W : World) :
    Calls Tryd.prog 22 #[suV ⟨s, t, f, l, p, 1, hd, sl, tr⟩] W fun e w' => e = .returned (askQ 1 (atL s t f 3 0 0) 0 0) ∧ Below W.heap.size W w' := by
  have HK := Lib.hid (KSA.start W ⟨s, t, f, l, p, 1, hd, sl, tr⟩)
  have A := Lib.hid (head_any s t f l p h)
  generalize atL s t f 3 0 0 = a at A ⊢
  clear h
  go_enter Tryd.func22, Tryd.ntmps22
  go_wp2_with (go_at_call 50; refine (A.out _).mono ?_; rintro e w1 ⟨rfl, hn⟩; have h1 := HK.out.next hn; clear hn; have r0 := h1.r0; have r1 := h1.r1; have r2 := h1.r2; have r3 := h1.r3; have rz := h1.rz)
  exact bodyPost_ret (v := askQ 1 a 0 0) (by simp [results, Tryd.results22, go_sem, r0, r1, r2, r3]) rfl ⟨rfl, belowQ4 h1.bl (by omega) _ _ _ _⟩
set_option maxHeartbeats 1000000 in
theorem swant_2 (s t f l p : Int) (hd : Nat) (sl tr : Int) (hh : hd < 18446744073709551616) (h : okL s t f l p) (W : World) :
    Calls Tryd.prog 22 #[suV ⟨s, t, f, l, p, 2, hd, sl, tr⟩] W fun e w' => e = .returned (askQ 2 (atL s t f 8 sl 0) 0 (hd % 65536 : Nat)) ∧ Below W.heap.size W w' := by
  have HK := Lib.hid (KSA.start W ⟨s, t, f, l, p, 2, hd, sl, tr⟩).drew
  have S := Lib.hid (hslot_any hd hh)
  have A := Lib.hid (link_any s t f l p sl h)
  generalize atL s t f 8 sl 0 = a at A ⊢
  have hm : hd % 65536 < 65536 := by omega
  generalize hd % 65536 = m at hm S ⊢
  clear h
  go_enter Tryd.func22, Tryd.ntmps22
  go_wp2
  refine wp_region_class_tail (C := KSA W.heap.size W W.heap.size ⟨s, t, f, l, p, 2, hd, sl, tr⟩ (W.heap.size + 1)) 10 (by kernel_rfl) (by kernel_rfl) (HK.out) ?_
  simp only [List.take_succ_cons, List.take_zero, List.drop_succ_cons, List.drop_zero]
  repeat (first
    | go_big_quiet_skip
    | (go_big_quiet_want; go_big_quiet_op; go_big_quiet_on)
    | (go_big_quiet_want; go_big_quiet_op; refine ⟨_, fun _ _ => rfl, ?_⟩; go_big_quiet_on)
    | (go_big_quiet_want
       apply quiet_mk
       · intro u hu
         have c0 := hu.c0; have c1 := hu.c1; have c2 := hu.c2; have c3 := hu.c3; have c4 := hu.c4; have c5 := hu.c5; have c6 := hu.c6; have c7 := hu.c7; have c8 := hu.c8
         have HU := Lib.hid hu
         clear hu
         go_simp
         first
           | with_reducible rfl
           | (go_at_call 52; refine (S.out _).mono ?_; rintro e w' ⟨rfl, q, rfl⟩; exact ⟨rfl, HU.out.next (below_drewN7 (Below.refl _ _) _)⟩) | (go_at_call 51; refine (A.out _).mono ?_; rintro e w' ⟨rfl, hn⟩; exact ⟨rfl, HU.out.next hn⟩)
       simp only [Act.put, List.setIfInBounds_toArray, List.set_cons_zero, List.set_cons_succ]
       go_big_quiet_on))
  refine wpQuiet_nil ?_
  intro u hu
  have r0 := hu.r0
  have r1 := hu.r1
  have r2 := hu.r2
  have r3 := hu.r3
  have rz := hu.rz
  go_wp2
  exact bodyPost_ret (v := askQ 2 a 0 m) (by simp [results, Tryd.results22, go_sem, r0, r1, r2, r3]) rfl ⟨rfl, belowQ4 hu.bl (by omega) _ _ _ _⟩
set_option maxHeartbeats 1000000 in
theorem swant_3 (s t f l p : Int) (hd : Nat) (sl tr : Int) (hh : hd < 18446744073709551616) (h : okL s t f l p) (W : World) :
    Calls Tryd.prog 22 #[suV ⟨s, t, f, l, p, 3, hd, sl, tr⟩] W fun e w' => e = .returned (askQ 3 (atL s t f 3 0 0) hd (hwTurn hd sl)) ∧ Below W.heap.size W w' := by
  have HK := Lib.hid (KSA.start W ⟨s, t, f, l, p, 3, hd, sl, tr⟩).drew
  have T := Lib.hid (hturn_any hd sl hh)
  have A := Lib.hid (head_any s t f l p h)
  generalize atL s t f 3 0 0 = a at A ⊢
  generalize hwTurn hd sl = tn at T ⊢
  clear h
  go_enter Tryd.func22, Tryd.ntmps22
  go_wp2
  refine wp_region_class_tail (C := KSA W.heap.size W W.heap.size ⟨s, t, f, l, p, 3, hd, sl, tr⟩ (W.heap.size + 1)) 11 (by kernel_rfl) (by kernel_rfl) (HK.out) ?_
  simp only [List.take_succ_cons, List.take_zero, List.drop_succ_cons, List.drop_zero]
  repeat (first
    | go_big_quiet_skip
    | (go_big_quiet_want; go_big_quiet_op; go_big_quiet_on)
    | (go_big_quiet_want; go_big_quiet_op; refine ⟨_, fun _ _ => rfl, ?_⟩; go_big_quiet_on)
    | (go_big_quiet_want
       apply quiet_mk
       · intro u hu
         have c0 := hu.c0; have c1 := hu.c1; have c2 := hu.c2; have c3 := hu.c3; have c4 := hu.c4; have c5 := hu.c5; have c6 := hu.c6; have c7 := hu.c7; have c8 := hu.c8
         have HU := Lib.hid hu
         clear hu
         go_simp
         first
           | with_reducible rfl
           | (go_at_call 50; refine (A.out _).mono ?_; rintro e w' ⟨rfl, hn⟩; exact ⟨rfl, HU.out.next hn⟩) | (go_at_call 53; refine (T.out _).mono ?_; rintro e w' ⟨rfl, q, rfl⟩; exact ⟨rfl, HU.out.next (below_drewN7 (Below.refl _ _) _)⟩)
       simp only [Act.put, List.setIfInBounds_toArray, List.set_cons_zero, List.set_cons_succ]
       go_big_quiet_on))
  refine wpQuiet_nil ?_
  intro u hu
  have r0 := hu.r0
  have r1 := hu.r1
  have r2 := hu.r2
  have r3 := hu.r3
  have rz := hu.rz
  go_wp2
  exact bodyPost_ret (v := askQ 3 a hd tn) (by simp [results, Tryd.results22, go_sem, r0, r1, r2, r3]) rfl ⟨rfl, belowQ4 hu.bl (by omega) _ _ _ _⟩
set_option maxHeartbeats 1000000 in
theorem swant_0 (tr : Int) (W : World) :
    Calls Tryd.prog 22 #[suV (Su.end tr)] W fun e w' => e = .returned (askQ 0 0 0 0) ∧ Below W.heap.size W w' := by
  have hB := Lib.hid (below2 W)
  go_enter Tryd.func22, Tryd.ntmps22
  go_wp2
  exact bodyPost_ret (v := askQ 0 0 0 0) (by simp [results, Tryd.results22, go_sem]) rfl ⟨rfl, (by repeat (first | (with_reducible refine Below.setCell ?_ (by simp) _) | exact hB.out _ _ | exact Nat.le_refl _))⟩
structure KNS (B : Nat) (w0 : World) (g : Nat) (s t f l p : Int) (r : Nat) (x : Su) (W : World) : Prop extends K5 B w0 g s t f l p W where
  e : SC r x W
theorem KNS.next {B : Nat} {w0 : World} {g : Nat} {s t f l p : Int} {r : Nat} {x : Su} {W W' : World} (h : KNS B w0 g s t f l p r x W) (hb : Below W.heap.size W W') : KNS B w0 g s t f l p r x W' := ⟨h.toK5.next hb, h.e.next hb⟩
theorem KNS.start (W : World) (s t f l p : Int) : KNS W.heap.size W W.heap.size s t f l p (W.heap.size + 1) (Su.end 0) ((W.alloc (.cells #[.int .i64 s, .int .i64 t, .int .i64 f, .int .i64 l, .int .i64 p] 27)).alloc (suRow (Su.end 0))) :=
  ⟨⟨by simp, by simp, by simp, by simp, by simp, below2 _ _ _, by simp; omega⟩, ⟨by simp, by simp, by simp, by simp, by simp, by simp, by simp, by simp, by simp, fun i => by simp⟩⟩
set_option maxHeartbeats 1000000 in
theorem snew_yes (s t f l p n : Int) (hI : ∀ W : World, Calls Tryd.prog 62 #[layV s t f l p, .int .i64 n] W fun e w' => e = .returned (.bool true) ∧ Below W.heap.size W w') (W : World) :
    Calls Tryd.prog 20 #[layV s t f l p, .int .i64 n] W fun e w' => e = .returned (suV ⟨s, t, f, l, p, 1, 0, n, 0⟩) ∧ Below W.heap.size W w' := by
  have HK := Lib.hid (KNS.start W s t f l p)
  have I := Lib.hid hI
  clear hI
  go_enter Tryd.func20, Tryd.ntmps20
  go_wp2_with (go_at_call 62; refine (I.out _).mono ?_; rintro e w1 ⟨rfl, hn⟩; have h1 := HK.out.next hn; clear hn; have c0 := h1.c0; have c1 := h1.c1; have c2 := h1.c2; have c3 := h1.c3; have c4 := h1.c4; have e0 := h1.e.c0; have e1 := h1.e.c1; have e2 := h1.e.c2; have e3 := h1.e.c3; have e4 := h1.e.c4; have e5 := h1.e.c5; have e6 := h1.e.c6; have e7 := h1.e.c7; have e8 := h1.e.c8; have fz := h1.e.fz)
  exact bodyPost_ret (v := suV ⟨s, t, f, l, p, 1, 0, n, 0⟩) (by simp [results, Tryd.results20, go_sem, e0, e1, e2, e3, e4, e5, e6, e7, e8]) rfl ⟨rfl, below_putS h1.bl (by omega) ⟨s, t, f, l, p, 1, 0, n, 0⟩⟩
set_option maxHeartbeats 1000000 in
theorem snew_no (s t f l p n : Int) (hI : ∀ W : World, Calls Tryd.prog 62 #[layV s t f l p, .int .i64 n] W fun e w' => e = .returned (.bool false) ∧ Below W.heap.size W w') (W : World) :
    Calls Tryd.prog 20 #[layV s t f l p, .int .i64 n] W fun e w' => e = .returned (suV (Su.end 0)) ∧ Below W.heap.size W w' := by
  have HK := Lib.hid (KNS.start W s t f l p)
  have I := Lib.hid hI
  clear hI
  go_enter Tryd.func20, Tryd.ntmps20
  go_wp2_with (go_at_call 62; refine (I.out _).mono ?_; rintro e w1 ⟨rfl, hn⟩; have h1 := HK.out.next hn; clear hn; have c0 := h1.c0; have c1 := h1.c1; have c2 := h1.c2; have c3 := h1.c3; have c4 := h1.c4; have e0 := h1.e.c0; have e1 := h1.e.c1; have e2 := h1.e.c2; have e3 := h1.e.c3; have e4 := h1.e.c4; have e5 := h1.e.c5; have e6 := h1.e.c6; have e7 := h1.e.c7; have e8 := h1.e.c8; have fz := h1.e.fz)
  exact bodyPost_ret (v := suV (Su.end 0)) (by simp [results, Tryd.results20, go_sem, e0, e1, e2, e3, e4, e5, e6, e7, e8]) rfl ⟨rfl, below_putS h1.bl (by omega) (Su.end 0)⟩
structure KRS (B : Nat) (w0 : World) (g : Nat) (s t f l p : Int) (r : Nat) (y : Rs) (W : World) : Prop extends K5 B w0 g s t f l p W where
  e : RSC r y W
theorem KRS.next {B : Nat} {w0 : World} {g : Nat} {s t f l p : Int} {r : Nat} {y : Rs} {W W' : World} (h : KRS B w0 g s t f l p r y W) (hb : Below W.heap.size W W') : KRS B w0 g s t f l p r y W' := ⟨h.toK5.next hb, h.e.next hb⟩
theorem KRS.start (W : World) (s t f l p : Int) (y : Rs) : KRS W.heap.size W W.heap.size s t f l p (W.heap.size + 1) y ((W.alloc (.cells #[.int .i64 s, .int .i64 t, .int .i64 f, .int .i64 l, .int .i64 p] 23)).alloc (rsRow y)) :=
  ⟨⟨by simp, by simp, by simp, by simp, by simp, below2 _ _ _, by simp; omega⟩, ⟨by simp, by simp, by simp, by simp, fun i => by simp⟩⟩
theorem rsnew_yes (s t f l p n : Int) (h : okC s t f l p) (h1 : 1 ≤ n) (h2 : n ≤ s) (W : World) :
    Calls Tryd.prog 21 #[cfgV s t f l p, .int .i64 n] W fun e w' => e = .returned (rsV ⟨1, 0, n, 0⟩) ∧ Below W.heap.size W w' := by
  have HK := Lib.hid (KRS.start W s t f l p ⟨0, 0, 0, 0⟩)
  have R := Lib.hid (rwrong_yes s t f l p h)
  clear h
  go_enter Tryd.func21, Tryd.ntmps21
  go_wp2_with (go_at_call 28; refine (R.out _).mono ?_; rintro e w1 ⟨rfl, hn⟩; have h3 := HK.out.next hn; clear hn; have c0 := h3.c0; have e0 := h3.e.c0; have e1 := h3.e.c1; have e2 := h3.e.c2; have e3 := h3.e.c3; have fz := h3.e.fz)
  exact bodyPost_ret (v := rsV ⟨1, 0, n, 0⟩) (by simp [results, Tryd.results21, go_sem, e0, e1, e2, e3]) rfl ⟨rfl, below_putT h3.bl (by omega) ⟨1, 0, n, 0⟩⟩
theorem rsnew_lo (s t f l p n : Int) (h : okC s t f l p) (h1 : n < 1) (W : World) :
    Calls Tryd.prog 21 #[cfgV s t f l p, .int .i64 n] W fun e w' => e = .returned (rsV ⟨0, 0, 0, 0⟩) ∧ Below W.heap.size W w' := by
  have HK := Lib.hid (KRS.start W s t f l p ⟨0, 0, 0, 0⟩)
  have R := Lib.hid (rwrong_yes s t f l p h)
  clear h
  go_enter Tryd.func21, Tryd.ntmps21
  go_wp2_with (go_at_call 28; refine (R.out _).mono ?_; rintro e w1 ⟨rfl, hn⟩; have h3 := HK.out.next hn; clear hn; have c0 := h3.c0; have e0 := h3.e.c0; have e1 := h3.e.c1; have e2 := h3.e.c2; have e3 := h3.e.c3; have fz := h3.e.fz)
  exact bodyPost_ret (v := rsV ⟨0, 0, 0, 0⟩) (by simp [results, Tryd.results21, go_sem, e0, e1, e2, e3]) rfl ⟨rfl, below_putT h3.bl (by omega) ⟨0, 0, 0, 0⟩⟩
theorem rsnew_hi (s t f l p n : Int) (h : okC s t f l p) (h1 : 1 ≤ n) (h2 : s < n) (W : World) :
    Calls Tryd.prog 21 #[cfgV s t f l p, .int .i64 n] W fun e w' => e = .returned (rsV ⟨0, 0, 0, 0⟩) ∧ Below W.heap.size W w' := by
  have HK := Lib.hid (KRS.start W s t f l p ⟨0, 0, 0, 0⟩)
  have R := Lib.hid (rwrong_yes s t f l p h)
  clear h
  go_enter Tryd.func21, Tryd.ntmps21
  go_wp2_with (go_at_call 28; refine (R.out _).mono ?_; rintro e w1 ⟨rfl, hn⟩; have h3 := HK.out.next hn; clear hn; have c0 := h3.c0; have e0 := h3.e.c0; have e1 := h3.e.c1; have e2 := h3.e.c2; have e3 := h3.e.c3; have fz := h3.e.fz)
  exact bodyPost_ret (v := rsV ⟨0, 0, 0, 0⟩) (by simp [results, Tryd.results21, go_sem, e0, e1, e2, e3]) rfl ⟨rfl, below_putT h3.bl (by omega) ⟨0, 0, 0, 0⟩⟩
theorem rsnew_no (s t f l p n : Int) (h : ¬ okC s t f l p) (W : World) :
    Calls Tryd.prog 21 #[cfgV s t f l p, .int .i64 n] W fun e w' => e = .returned (rsV ⟨0, 0, 0, 0⟩) ∧ Below W.heap.size W w' := by
  have HK := Lib.hid (KRS.start W s t f l p ⟨0, 0, 0, 0⟩)
  obtain ⟨k, _, hk5, R⟩ := rwrong_no s t f l p h
  have R := Lib.hid R
  clear h
  go_enter Tryd.func21, Tryd.ntmps21
  go_wp2_with (go_at_call 28; refine (R.out _).mono ?_; rintro e w1 ⟨rfl, hn⟩; have h3 := HK.out.next hn; clear hn; have c0 := h3.c0; have e0 := h3.e.c0; have e1 := h3.e.c1; have e2 := h3.e.c2; have e3 := h3.e.c3; have fz := h3.e.fz)
  exact bodyPost_ret (v := rsV ⟨0, 0, 0, 0⟩) (by simp [results, Tryd.results21, go_sem, e0, e1, e2, e3]) rfl ⟨rfl, below_putT h3.bl (by omega) ⟨0, 0, 0, 0⟩⟩
structure KRT (B : Nat) (w0 : World) (g : Nat) (s t f l p : Int) (q : Nat) (y : Rs) (r : Nat) (W : World) : Prop extends KRS B w0 g s t f l p q y W where
  r0 : W.cell? ⟨r, 0, none⟩ = some (.int .i64 0)
  r1 : W.cell? ⟨r, 1, none⟩ = some (.int .i64 0)
  r2 : W.cell? ⟨r, 2, none⟩ = some (.int .u64 0)
  r3 : W.cell? ⟨r, 3, none⟩ = some (.int .u64 0)
  rz : ∀ i, W.frozen? ⟨r, i, none⟩ = false
section
variable {B : Nat} {w0 : World} {g : Nat} {s t f l p : Int} {q : Nat} {y : Rs} {r : Nat} {W W' : World}
theorem KRT.next (h : KRT B w0 g s t f l p q y r W) (hb : Below W.heap.size W W') : KRT B w0 g s t f l p q y r W' := by
  have hr : r < W.heap.size := World.block_lt_of_cell? W _ h.r0
  have c : ∀ j, W'.cell? ⟨r, j, none⟩ = W.cell? ⟨r, j, none⟩ := fun j => hb.cell (p := ⟨r, j, none⟩) hr
  exact ⟨h.toKRS.next hb, (c _).trans h.r0, (c _).trans h.r1, (c _).trans h.r2, (c _).trans h.r3, fun i => (hb.frozen (p := ⟨r, i, none⟩) hr).trans (h.rz i)⟩
theorem KRT.drew (h : KRT B w0 g s t f l p q y r W) : KRT B w0 g s t f l p q y r W.drew := ⟨⟨⟨h.c0, h.c1, h.c2, h.c3, h.c4, h.bl.drew, h.le⟩, h.e.drew⟩, h.r0, h.r1, h.r2, h.r3, h.rz⟩
theorem KRT.d0 (h : KRT B w0 g s t f l p q y r W) : W.cell? ⟨q, 0, none⟩ = some (.int .i64 y.a) := h.e.c0
theorem KRT.d1 (h : KRT B w0 g s t f l p q y r W) : W.cell? ⟨q, 1, none⟩ = some (.int .u64 y.hd) := h.e.c1
theorem KRT.d2 (h : KRT B w0 g s t f l p q y r W) : W.cell? ⟨q, 2, none⟩ = some (.int .i64 y.sl) := h.e.c2
theorem KRT.d3 (h : KRT B w0 g s t f l p q y r W) : W.cell? ⟨q, 3, none⟩ = some (.int .i64 y.tr) := h.e.c3
end
theorem KRT.start (W : World) (s t f l p : Int) (y : Rs) : KRT W.heap.size W W.heap.size s t f l p (W.heap.size + 1) y (W.heap.size + 2) (((W.alloc (.cells #[.int .i64 s, .int .i64 t, .int .i64 f, .int .i64 l, .int .i64 p] 23)).alloc (rsRow y)).alloc (.cells #[.int .i64 0, .int .i64 0, .int .u64 0, .int .u64 0] 39)) := by
  have k := KRS.start W s t f l p y
  have hz : ((W.alloc (.cells #[.int .i64 s, .int .i64 t, .int .i64 f, .int .i64 l, .int .i64 p] 23)).alloc (rsRow y)).heap.size = W.heap.size + 2 := by simp
  generalize (W.alloc (.cells #[.int .i64 s, .int .i64 t, .int .i64 f, .int .i64 l, .int .i64 p] 23)).alloc (rsRow y) = W2 at k hz ⊢
  rw [← hz]
  exact ⟨k.next (below1 W2 (.cells #[.int .i64 0, .int .i64 0, .int .u64 0, .int .u64 0] 39)), by simp, by simp, by simp, by simp, fun i => by simp⟩
theorem rswant_1 (s t f l p hd sl tr : Int) (W : World) :
    Calls Tryd.prog 23 #[cfgV s t f l p, rsV ⟨1, hd, sl, tr⟩] W fun e w' => e = .returned (askQ 1 2 0 0) ∧ Below W.heap.size W w' := by
  go_enter Tryd.func23, Tryd.ntmps23
  go_wp2
  exact bodyPost_ret (v := askQ 1 2 0 0) (by simp [results, Tryd.results23, go_sem]) rfl ⟨rfl, below3p _ _ _ _⟩
theorem rswant_0 (s t f l p hd sl tr : Int) (W : World) :
    Calls Tryd.prog 23 #[cfgV s t f l p, rsV ⟨0, hd, sl, tr⟩] W fun e w' => e = .returned (askQ 0 0 0 0) ∧ Below W.heap.size W w' := by
  go_enter Tryd.func23, Tryd.ntmps23
  go_wp2
  exact bodyPost_ret (v := askQ 0 0 0 0) (by simp [results, Tryd.results23, go_sem]) rfl ⟨rfl, below3p _ _ _ _⟩
set_option maxHeartbeats 1000000 in
theorem rswant_2 (s t f l p : Int) (hd : Nat) (sl tr : Int) (hh : hd < 18446744073709551616) (h : okC s t f l p) (h0 : 0 ≤ sl) (h1 : sl ≤ s) (W : World) :
    Calls Tryd.prog 23 #[cfgV s t f l p, rsV ⟨2, hd, sl, tr⟩] W fun e w' => e = .returned (askQ 2 (atL s t f 8 sl 0) 0 (hd % 65536 : Nat)) ∧ Below W.heap.size W w' := by
  have HK := Lib.hid (KRT.start W s t f l p ⟨2, hd, sl, tr⟩).drew
  have A := Lib.hid (rlink_any s t f l p sl h h0 h1)
  have S := Lib.hid (rhslot_any hd hh)
  generalize atL s t f 8 sl 0 = a at A ⊢
  have hm : hd % 65536 < 65536 := by omega
  generalize hd % 65536 = m at hm S ⊢
  clear h h0 h1
  go_enter Tryd.func23, Tryd.ntmps23
  go_wp2
  refine wp_region_class_tail (C := KRT W.heap.size W W.heap.size s t f l p (W.heap.size + 1) ⟨2, hd, sl, tr⟩ (W.heap.size + 2)) 9 (by kernel_rfl) (by kernel_rfl) (HK.out) ?_
  simp only [List.take_succ_cons, List.take_zero, List.drop_succ_cons, List.drop_zero]
  repeat (first
    | go_big_quiet_skip
    | (go_big_quiet_want; go_big_quiet_op; go_big_quiet_on)
    | (go_big_quiet_want; go_big_quiet_op; refine ⟨_, fun _ _ => rfl, ?_⟩; go_big_quiet_on)
    | (go_big_quiet_want
       apply quiet_mk
       · intro u hu
         have c0 := hu.c0; have c1 := hu.c1; have c2 := hu.c2; have c3 := hu.c3; have c4 := hu.c4; have d0 := hu.d0; have d1 := hu.d1; have d2 := hu.d2; have d3 := hu.d3
         have HU := Lib.hid hu
         clear hu
         go_simp
         first
           | with_reducible rfl
           | (go_at_call 55; refine (A.out _).mono ?_; rintro e w' ⟨rfl, hn⟩; exact ⟨rfl, HU.out.next hn⟩) | (go_at_call 61; refine (S.out _).mono ?_; rintro e w' ⟨rfl, rfl⟩; exact ⟨rfl, HU.out⟩)
       simp only [Act.put, List.setIfInBounds_toArray, List.set_cons_zero, List.set_cons_succ]
       go_big_quiet_on))
  refine wpQuiet_nil ?_
  intro u hu
  have r0 := hu.r0
  have r1 := hu.r1
  have r2 := hu.r2
  have r3 := hu.r3
  have rz := hu.rz
  go_wp2
  exact bodyPost_ret (v := askQ 2 a 0 m) (by simp [results, Tryd.results23, go_sem, r0, r1, r2, r3]) rfl ⟨rfl, belowQ4 hu.bl (by omega) _ _ _ _⟩
set_option maxHeartbeats 1000000 in
theorem rswant_3 (s t f l p : Int) (hd : Nat) (sl tr : Int) (hh : hd < 18446744073709551616) (W : World) :
    Calls Tryd.prog 23 #[cfgV s t f l p, rsV ⟨3, hd, sl, tr⟩] W fun e w' => e = .returned (askQ 3 2 hd (hwTurn hd sl)) ∧ Below W.heap.size W w' := by
  have HK := Lib.hid (KRT.start W s t f l p ⟨3, hd, sl, tr⟩).drew
  have T := Lib.hid (rhturn_any hd sl hh)
  generalize hwTurn hd sl = tn at T ⊢
  go_enter Tryd.func23, Tryd.ntmps23
  go_wp2
  refine wp_region_class_tail (C := KRT W.heap.size W W.heap.size s t f l p (W.heap.size + 1) ⟨3, hd, sl, tr⟩ (W.heap.size + 2)) 8 (by kernel_rfl) (by kernel_rfl) (HK.out) ?_
  simp only [List.take_succ_cons, List.take_zero, List.drop_succ_cons, List.drop_zero]
  repeat (first
    | go_big_quiet_skip
    | (go_big_quiet_want; go_big_quiet_op; go_big_quiet_on)
    | (go_big_quiet_want; go_big_quiet_op; refine ⟨_, fun _ _ => rfl, ?_⟩; go_big_quiet_on)
    | (go_big_quiet_want
       apply quiet_mk
       · intro u hu
         have c0 := hu.c0; have c1 := hu.c1; have c2 := hu.c2; have c3 := hu.c3; have c4 := hu.c4; have d0 := hu.d0; have d1 := hu.d1; have d2 := hu.d2; have d3 := hu.d3
         have HU := Lib.hid hu
         clear hu
         go_simp
         first
           | with_reducible rfl
           | (go_at_call 56; refine (T.out _).mono ?_; rintro e w' ⟨rfl, rfl⟩; exact ⟨rfl, HU.out⟩)
       simp only [Act.put, List.setIfInBounds_toArray, List.set_cons_zero, List.set_cons_succ]
       go_big_quiet_on))
  refine wpQuiet_nil ?_
  intro u hu
  have r0 := hu.r0
  have r1 := hu.r1
  have r2 := hu.r2
  have r3 := hu.r3
  have rz := hu.rz
  go_wp2
  exact bodyPost_ret (v := askQ 3 2 hd tn) (by simp [results, Tryd.results23, go_sem, r0, r1, r2, r3]) rfl ⟨rfl, belowQ4 hu.bl (by omega) _ _ _ _⟩
set_option maxHeartbeats 1000000 in
theorem rstook_0 (hd sl tr : Int) (n : Nat) (W : World) :
    Calls Tryd.prog 27 #[rsV ⟨0, hd, sl, tr⟩, .int .u64 n] W fun e w' => e = .returned (rsV ⟨0, hd, sl, tr⟩) ∧ Below W.heap.size W w' := by
  have hB := Lib.hid (below2 W)
  go_enter Tryd.func27, Tryd.ntmps27
  go_wp2
  exact bodyPost_ret (v := rsV ⟨0, hd, sl, tr⟩) (by simp [results, Tryd.results27, go_sem]) rfl ⟨rfl, (by repeat (first | (with_reducible refine Below.setCell ?_ (by simp) _) | exact hB.out _ _ | exact Nat.le_refl _))⟩
set_option maxHeartbeats 1000000 in
theorem rstook_1 (hd sl tr : Int) (n : Nat) (W : World) :
    Calls Tryd.prog 27 #[rsV ⟨1, hd, sl, tr⟩, .int .u64 n] W fun e w' => e = .returned (rsV ⟨2, n, sl, tr⟩) ∧ Below W.heap.size W w' := by
  have hB := Lib.hid (below2 W)
  go_enter Tryd.func27, Tryd.ntmps27
  go_wp2
  exact bodyPost_ret (v := rsV ⟨2, n, sl, tr⟩) (by simp [results, Tryd.results27, go_sem]) rfl ⟨rfl, (by repeat (first | (with_reducible refine Below.setCell ?_ (by simp) _) | exact hB.out _ _ | exact Nat.le_refl _))⟩
set_option maxHeartbeats 1000000 in
theorem rstook_2 (hd sl tr : Int) (n : Nat) (W : World) :
    Calls Tryd.prog 27 #[rsV ⟨2, hd, sl, tr⟩, .int .u64 n] W fun e w' => e = .returned (rsV ⟨3, hd, sl, tr⟩) ∧ Below W.heap.size W w' := by
  have hB := Lib.hid (below2 W)
  go_enter Tryd.func27, Tryd.ntmps27
  go_wp2
  exact bodyPost_ret (v := rsV ⟨3, hd, sl, tr⟩) (by simp [results, Tryd.results27, go_sem]) rfl ⟨rfl, (by repeat (first | (with_reducible refine Below.setCell ?_ (by simp) _) | exact hB.out _ _ | exact Nat.le_refl _))⟩
set_option maxHeartbeats 1000000 in
theorem rstook_3hit (hd sl tr : Int) (W : World) :
    Calls Tryd.prog 27 #[rsV ⟨3, hd, sl, tr⟩, .int .u64 1] W fun e w' => e = .returned (rsV ⟨0, hd, sl, tr⟩) ∧ Below W.heap.size W w' := by
  have hB := Lib.hid (below2 W)
  go_enter Tryd.func27, Tryd.ntmps27
  go_wp2
  exact bodyPost_ret (v := rsV ⟨0, hd, sl, tr⟩) (by simp [results, Tryd.results27, go_sem]) rfl ⟨rfl, (by repeat (first | (with_reducible refine Below.setCell ?_ (by simp) _) | exact hB.out _ _ | exact Nat.le_refl _))⟩
set_option maxHeartbeats 1000000 in
theorem rstook_3miss (hd sl tr : Int) (n : Nat) (h1 : n ≠ 1) (ht : 0 ≤ tr) (ht2 : tr ≤ 1000) (W : World) :
    Calls Tryd.prog 27 #[rsV ⟨3, hd, sl, tr⟩, .int .u64 n] W fun e w' => e = .returned (rsV ⟨1, hd, sl, tr + 1⟩) ∧ Below W.heap.size W w' := by
  have hB := Lib.hid (below2 W)
  have h2 : ((n : Int) == 1) = false := by simp; omega
  clear h1
  go_enter Tryd.func27, Tryd.ntmps27
  go_wp2
  exact bodyPost_ret (v := rsV ⟨1, hd, sl, tr + 1⟩) (by simp [results, Tryd.results27, go_sem]) rfl ⟨rfl, (by repeat (first | (with_reducible refine Below.setCell ?_ (by simp) _) | exact hB.out _ _ | exact Nat.le_refl _))⟩
end Go.Proofs.YtfejkcbdbkpnfaaDoor
