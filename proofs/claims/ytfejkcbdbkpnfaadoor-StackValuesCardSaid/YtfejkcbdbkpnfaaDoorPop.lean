/- stack.Pop: its contracts. -/
import Derived.Test.YtfejkcbdbkpnfaaDoorTells
import Derived.Test.YtfejkcbdbkpnfaaDoorHword
import Derived.Test.YtfejkcbdbkpnfaaDoorWrong7
namespace Go.Proofs.YtfejkcbdbkpnfaaDoor
set_option linter.unusedVariables false
open Go.RowKit Go.Extern.Stop Go.Stop Go.Extern
structure Po where
  s : Int
  t : Int
  f : Int
  l : Int
  p : Int
  st : Int
  hd : Int
  lk : Int
  sl : Int
  tr : Int
abbrev popV (x : Po) : Value := .agg #[.int .i64 x.s, .int .i64 x.t, .int .i64 x.f, .int .i64 x.l, .int .i64 x.p, .int .i64 x.st, .int .u64 x.hd, .int .u64 x.lk, .int .i64 x.sl, .int .i64 x.tr]
abbrev popRow (x : Po) : Obj := .cells #[.int .i64 x.s, .int .i64 x.t, .int .i64 x.f, .int .i64 x.l, .int .i64 x.p, .int .i64 x.st, .int .u64 x.hd, .int .u64 x.lk, .int .i64 x.sl, .int .i64 x.tr] 30
structure PC (g : Nat) (x : Po) (W : World) : Prop where
  c0 : W.cell? ⟨g, 0, none⟩ = some (.int .i64 x.s)
  c1 : W.cell? ⟨g, 1, none⟩ = some (.int .i64 x.t)
  c2 : W.cell? ⟨g, 2, none⟩ = some (.int .i64 x.f)
  c3 : W.cell? ⟨g, 3, none⟩ = some (.int .i64 x.l)
  c4 : W.cell? ⟨g, 4, none⟩ = some (.int .i64 x.p)
  c5 : W.cell? ⟨g, 5, none⟩ = some (.int .i64 x.st)
  c6 : W.cell? ⟨g, 6, none⟩ = some (.int .u64 x.hd)
  c7 : W.cell? ⟨g, 7, none⟩ = some (.int .u64 x.lk)
  c8 : W.cell? ⟨g, 8, none⟩ = some (.int .i64 x.sl)
  c9 : W.cell? ⟨g, 9, none⟩ = some (.int .i64 x.tr)
  fz : ∀ i, W.frozen? ⟨g, i, none⟩ = false
theorem PC.lt {g : Nat} {x : Po} {W : World} (h : PC g x W) : g < W.heap.size := World.block_lt_of_cell? W _ h.c0
theorem PC.next {g : Nat} {x : Po} {W W' : World} (h : PC g x W) (hb : Below W.heap.size W W') : PC g x W' := by
  have c : ∀ j, W'.cell? ⟨g, j, none⟩ = W.cell? ⟨g, j, none⟩ := fun j => hb.cell (p := ⟨g, j, none⟩) h.lt
  exact ⟨(c _).trans h.c0, (c _).trans h.c1, (c _).trans h.c2, (c _).trans h.c3, (c _).trans h.c4, (c _).trans h.c5, (c _).trans h.c6, (c _).trans h.c7, (c _).trans h.c8, (c _).trans h.c9, fun i => (hb.frozen (p := ⟨g, i, none⟩) h.lt).trans (h.fz i)⟩
theorem PC.drew {g : Nat} {x : Po} {W : World} (h : PC g x W) : PC g x W.drew := ⟨h.c0, h.c1, h.c2, h.c3, h.c4, h.c5, h.c6, h.c7, h.c8, h.c9, h.fz⟩
theorem PC.alloc (W : World) (x : Po) : PC W.heap.size x (W.alloc (popRow x)) := ⟨by simp, by simp, by simp, by simp, by simp, by simp, by simp, by simp, by simp, by simp, fun i => by simp⟩
abbrev putP (W : World) (g : Nat) (x : Po) : World := (((((((((W.setCell ⟨g, 0, none⟩ (.int .i64 x.s)).setCell ⟨g, 1, none⟩ (.int .i64 x.t)).setCell ⟨g, 2, none⟩ (.int .i64 x.f)).setCell ⟨g, 3, none⟩ (.int .i64 x.l)).setCell ⟨g, 4, none⟩ (.int .i64 x.p)).setCell ⟨g, 5, none⟩ (.int .i64 x.st)).setCell ⟨g, 6, none⟩ (.int .u64 x.hd)).setCell ⟨g, 7, none⟩ (.int .u64 x.lk)).setCell ⟨g, 8, none⟩ (.int .i64 x.sl)).setCell ⟨g, 9, none⟩ (.int .i64 x.tr)
theorem PC.store {g : Nat} {y : Po} {W : World} (h : PC g y W) (x : Po) : PC g x (putP W g x) := by
  obtain ⟨c0, c1, c2, c3, c4, c5, c6, c7, c8, c9, fz⟩ := h
  exact ⟨by unfold putP; simp [go_sem, c0], by unfold putP; simp [go_sem, c1], by unfold putP; simp [go_sem, c2], by unfold putP; simp [go_sem, c3], by unfold putP; simp [go_sem, c4], by unfold putP; simp [go_sem, c5], by unfold putP; simp [go_sem, c6], by unfold putP; simp [go_sem, c7], by unfold putP; simp [go_sem, c8], by unfold putP; simp [go_sem, c9], fun i => by unfold putP; simp [go_sem, fz]⟩
theorem below_putP {B : Nat} {a W : World} (h : Below B a W) {g : Nat} (hg : B ≤ g) (x : Po) : Below B a (putP W g x) := by
  exact ((((((((((h.setCell hg _).setCell hg _).setCell hg _).setCell hg _).setCell hg _).setCell hg _).setCell hg _).setCell hg _).setCell hg _).setCell hg _)
structure Rp where
  a : Int
  hd : Int
  sl : Int
  lk : Int
  tr : Int
abbrev rpV (x : Rp) : Value := .agg #[.int .i64 x.a, .int .u64 x.hd, .int .i64 x.sl, .int .i64 x.lk, .int .i64 x.tr]
abbrev rpRow (x : Rp) : Obj := .cells #[.int .i64 x.a, .int .u64 x.hd, .int .i64 x.sl, .int .i64 x.lk, .int .i64 x.tr] 34
structure RPC (g : Nat) (x : Rp) (W : World) : Prop where
  c0 : W.cell? ⟨g, 0, none⟩ = some (.int .i64 x.a)
  c1 : W.cell? ⟨g, 1, none⟩ = some (.int .u64 x.hd)
  c2 : W.cell? ⟨g, 2, none⟩ = some (.int .i64 x.sl)
  c3 : W.cell? ⟨g, 3, none⟩ = some (.int .i64 x.lk)
  c4 : W.cell? ⟨g, 4, none⟩ = some (.int .i64 x.tr)
  fz : ∀ i, W.frozen? ⟨g, i, none⟩ = false
theorem RPC.lt {g : Nat} {x : Rp} {W : World} (h : RPC g x W) : g < W.heap.size := World.block_lt_of_cell? W _ h.c0
theorem RPC.next {g : Nat} {x : Rp} {W W' : World} (h : RPC g x W) (hb : Below W.heap.size W W') : RPC g x W' := by
  have c : ∀ j, W'.cell? ⟨g, j, none⟩ = W.cell? ⟨g, j, none⟩ := fun j => hb.cell (p := ⟨g, j, none⟩) h.lt
  exact ⟨(c _).trans h.c0, (c _).trans h.c1, (c _).trans h.c2, (c _).trans h.c3, (c _).trans h.c4, fun i => (hb.frozen (p := ⟨g, i, none⟩) h.lt).trans (h.fz i)⟩
theorem RPC.drew {g : Nat} {x : Rp} {W : World} (h : RPC g x W) : RPC g x W.drew := ⟨h.c0, h.c1, h.c2, h.c3, h.c4, h.fz⟩
theorem RPC.alloc (W : World) (x : Rp) : RPC W.heap.size x (W.alloc (rpRow x)) := ⟨by simp, by simp, by simp, by simp, by simp, fun i => by simp⟩
abbrev putQ (W : World) (g : Nat) (x : Rp) : World := ((((W.setCell ⟨g, 0, none⟩ (.int .i64 x.a)).setCell ⟨g, 1, none⟩ (.int .u64 x.hd)).setCell ⟨g, 2, none⟩ (.int .i64 x.sl)).setCell ⟨g, 3, none⟩ (.int .i64 x.lk)).setCell ⟨g, 4, none⟩ (.int .i64 x.tr)
theorem RPC.store {g : Nat} {y : Rp} {W : World} (h : RPC g y W) (x : Rp) : RPC g x (putQ W g x) := by
  obtain ⟨c0, c1, c2, c3, c4, fz⟩ := h
  exact ⟨by unfold putQ; simp [go_sem, c0], by unfold putQ; simp [go_sem, c1], by unfold putQ; simp [go_sem, c2], by unfold putQ; simp [go_sem, c3], by unfold putQ; simp [go_sem, c4], fun i => by unfold putQ; simp [go_sem, fz]⟩
theorem below_putQ {B : Nat} {a W : World} (h : Below B a W) {g : Nat} (hg : B ≤ g) (x : Rp) : Below B a (putQ W g x) := by
  exact (((((h.setCell hg _).setCell hg _).setCell hg _).setCell hg _).setCell hg _)
theorem PC.keep_putQ {g g' : Nat} {y : Po} {W : World} (h : PC g' y W) (hne : g ≠ g') (x : Rp) : PC g' y (putQ W g x) := by
  obtain ⟨c0, c1, c2, c3, c4, c5, c6, c7, c8, c9, fz⟩ := h
  have hne2 : g' ≠ g := fun e => hne e.symm
  exact ⟨by unfold putQ; simp [go_sem, c0], by unfold putQ; simp [go_sem, c1], by unfold putQ; simp [go_sem, c2], by unfold putQ; simp [go_sem, c3], by unfold putQ; simp [go_sem, c4], by unfold putQ; simp [go_sem, c5], by unfold putQ; simp [go_sem, c6], by unfold putQ; simp [go_sem, c7], by unfold putQ; simp [go_sem, c8], by unfold putQ; simp [go_sem, c9], fun i => by unfold putQ; simp [go_sem, fz]⟩
theorem RPC.keep_putP {g g' : Nat} {y : Rp} {W : World} (h : RPC g' y W) (hne : g ≠ g') (x : Po) : RPC g' y (putP W g x) := by
  obtain ⟨c0, c1, c2, c3, c4, fz⟩ := h
  have hne2 : g' ≠ g := fun e => hne e.symm
  exact ⟨by unfold putP; simp [go_sem, c0], by unfold putP; simp [go_sem, c1], by unfold putP; simp [go_sem, c2], by unfold putP; simp [go_sem, c3], by unfold putP; simp [go_sem, c4], fun i => by unfold putP; simp [go_sem, fz]⟩
abbrev Po.end (sl tr : Int) : Po := ⟨0, 0, 0, 0, 0, 0, 0, 0, sl, tr⟩
abbrev askQ (k a o n : Int) : Value := .agg #[.int .i64 k, .int .i64 a, .int .u64 o, .int .u64 n]
theorem belowQ4 {B : Nat} {a w : World} (h : Below B a w) {g : Nat} (hg : B ≤ g) (u v x y : Value) : Below B a ((((w.setCell ⟨g, 0, none⟩ u).setCell ⟨g, 1, none⟩ v).setCell ⟨g, 2, none⟩ x).setCell ⟨g, 3, none⟩ y) := (((h.setCell hg u).setCell hg v).setCell hg x).setCell hg y
theorem head_any (s t f l p : Int) (h : okL s t f l p) (W : World) :
    Calls Tryd.prog 50 #[layV s t f l p] W fun e w' => e = .returned (.int .i64 (atL s t f 3 0 0)) ∧ Below W.heap.size W w' := by
  have A := Lib.hid (at_any s t f l p 3 0 0 h)
  generalize atL s t f 3 0 0 = r at A ⊢
  have hb := Lib.hid (below1 W)
  clear h
  go_enter Tryd.func50, Tryd.ntmps50
  go_wp2_with (go_at_call 80; refine (A.out _).mono ?_; rintro e w1 ⟨rfl, h1⟩)
  go_ret
  exact ⟨rfl, (hb.out _).trans (h1.mono (by simp))⟩
theorem isSlot_lo (s t f l p n : Int) (h0 : 0 ≤ s) (h : n < 1) (W : World) :
    Calls Tryd.prog 62 #[layV s t f l p, .int .i64 n] W fun e w' => e = .returned (.bool false) ∧ Below W.heap.size W w' := by
  have C : RowKit.Hid (∀ W : World, Calls Tryd.prog 94 #[layV s t f l p] W fun e w' => e = .returned (.agg #[.int .i64 s, .int .i64 t, .int .i64 f, .int .i64 l, .int .i64 p]) ∧ Below W.heap.size W w') := Lib.hid (config_any s t f l p)
  have hfd : ∀ w : World, (Instr.field 23 (.agg #[.int .i64 s, .int .i64 t, .int .i64 f, .int .i64 l, .int .i64 p]) 0).run Tryd.prog w = .ok (.int .i64 s) w := fun _ => by kernel_rfl
  have hb := Lib.hid (below1 W)
  go_enter Tryd.func62, Tryd.ntmps62
  go_wp2_with (go_at_call 94; refine (C.out _).mono ?_; rintro e w1 ⟨rfl, hn⟩)
  go_ret
  exact ⟨rfl, hb.out _⟩
theorem isSlot_hi (s t f l p n : Int) (h0 : 0 ≤ s) (h : s < n) (W : World) :
    Calls Tryd.prog 62 #[layV s t f l p, .int .i64 n] W fun e w' => e = .returned (.bool false) ∧ Below W.heap.size W w' := by
  have C : RowKit.Hid (∀ W : World, Calls Tryd.prog 94 #[layV s t f l p] W fun e w' => e = .returned (.agg #[.int .i64 s, .int .i64 t, .int .i64 f, .int .i64 l, .int .i64 p]) ∧ Below W.heap.size W w') := Lib.hid (config_any s t f l p)
  have hfd : ∀ w : World, (Instr.field 23 (.agg #[.int .i64 s, .int .i64 t, .int .i64 f, .int .i64 l, .int .i64 p]) 0).run Tryd.prog w = .ok (.int .i64 s) w := fun _ => by kernel_rfl
  have hb := Lib.hid (below1 W)
  have h1 : 1 ≤ n := by omega
  go_enter Tryd.func62, Tryd.ntmps62
  go_wp2_with (go_at_call 94; refine (C.out _).mono ?_; rintro e w1 ⟨rfl, hn⟩)
  go_ret
  exact ⟨by first | rfl | (show Ending.returned (.bool (decide (n ≤ s))) = _; rw [decide_eq_false (by omega)]), (hb.out _).trans (hn.mono (by simp))⟩
theorem isSlot_in (s t f l p n : Int) (h0 : 0 ≤ s) (h : 1 ≤ n ∧ n ≤ s) (W : World) :
    Calls Tryd.prog 62 #[layV s t f l p, .int .i64 n] W fun e w' => e = .returned (.bool true) ∧ Below W.heap.size W w' := by
  have C : RowKit.Hid (∀ W : World, Calls Tryd.prog 94 #[layV s t f l p] W fun e w' => e = .returned (.agg #[.int .i64 s, .int .i64 t, .int .i64 f, .int .i64 l, .int .i64 p]) ∧ Below W.heap.size W w') := Lib.hid (config_any s t f l p)
  have hfd : ∀ w : World, (Instr.field 23 (.agg #[.int .i64 s, .int .i64 t, .int .i64 f, .int .i64 l, .int .i64 p]) 0).run Tryd.prog w = .ok (.int .i64 s) w := fun _ => by kernel_rfl
  have hb := Lib.hid (below1 W)
  obtain ⟨h1, h2⟩ := h
  go_enter Tryd.func62, Tryd.ntmps62
  go_wp2_with (go_at_call 94; refine (C.out _).mono ?_; rintro e w1 ⟨rfl, hn⟩)
  go_ret
  exact ⟨rfl, (hb.out _).trans (hn.mono (by simp))⟩
theorem come_any (x : Po) (n : Int) (W : World) :
    Calls Tryd.prog 49 #[popV x, .int .i64 n] W fun e w' => e = .returned (popV (Po.end n x.tr)) ∧ Below W.heap.size W w' := by
  have hB := Lib.hid (below2 W)
  go_enter Tryd.func49, Tryd.ntmps49
  go_wp2
  exact bodyPost_ret (v := popV (Po.end n x.tr)) (by simp [results, Tryd.results49, go_sem]) rfl ⟨rfl, (by repeat (first | (with_reducible refine Below.setCell ?_ (by simp) _) | (with_reducible refine below_drewN7 ?_ _) | exact hB.out _ _ | exact Nat.le_refl _))⟩
theorem tries_any (x : Po) (W : World) :
    Calls Tryd.prog 17 #[popV x] W fun e w' => e = .returned (.int .i64 x.tr) ∧ Below W.heap.size W w' := by
  have hB := Lib.hid (below1 W)
  go_enter Tryd.func17, Tryd.ntmps17
  go_wp2
  go_ret
  exact ⟨rfl, hB.out _⟩
theorem stay_any (x : Po) (n : Nat) (W : World) :
    Calls Tryd.prog 57 #[popV x, .int .u64 n] W fun e w' => e = .returned (popV x) ∧ Below W.heap.size W w' := by
  have hB := Lib.hid (below2 W)
  go_enter Tryd.func57, Tryd.ntmps57
  go_wp2
  exact bodyPost_ret (v := popV x) (by simp [results, Tryd.results57, go_sem]) rfl ⟨rfl, (by repeat (first | (with_reducible refine Below.setCell ?_ (by simp) _) | (with_reducible refine below_drewN7 ?_ _) | exact hB.out _ _ | exact Nat.le_refl _))⟩
theorem tookLink_any (x : Po) (n : Nat) (W : World) :
    Calls Tryd.prog 59 #[popV x, .int .u64 n] W fun e w' => e = .returned (popV ⟨x.s, x.t, x.f, x.l, x.p, 3, x.hd, n, x.sl, x.tr⟩) ∧ Below W.heap.size W w' := by
  have hB := Lib.hid (below2 W)
  go_enter Tryd.func59, Tryd.ntmps59
  go_wp2
  exact bodyPost_ret (v := popV ⟨x.s, x.t, x.f, x.l, x.p, 3, x.hd, n, x.sl, x.tr⟩) (by simp [results, Tryd.results59, go_sem]) rfl ⟨rfl, (by repeat (first | (with_reducible refine Below.setCell ?_ (by simp) _) | (with_reducible refine below_drewN7 ?_ _) | exact hB.out _ _ | exact Nat.le_refl _))⟩
/-- A Pop's block, and another's that is to be stored into. -/
structure KPP (B : Nat) (w0 : World) (g : Nat) (x : Po) (r : Nat) (z : Po) (W : World) : Prop extends PC g x W where
  z : PC r z W
  bl : Below B w0 W
  le : B ≤ W.heap.size
theorem KPP.next {B : Nat} {w0 : World} {g : Nat} {x : Po} {r : Nat} {z : Po} {W W' : World} (h : KPP B w0 g x r z W) (hb : Below W.heap.size W W') : KPP B w0 g x r z W' := ⟨h.toPC.next hb, h.z.next hb, h.bl.trans (hb.mono h.le), Nat.le_trans h.le hb.size⟩
theorem KPP.drew {B : Nat} {w0 : World} {g : Nat} {x : Po} {r : Nat} {z : Po} {W : World} (h : KPP B w0 g x r z W) : KPP B w0 g x r z W.drew := ⟨h.toPC.drew, h.z.drew, h.bl.drew, h.le⟩
theorem KPP.start (W : World) (x : Po) : KPP W.heap.size W W.heap.size x (W.heap.size + 1) (Po.end 0 0) ((W.alloc (popRow x)).alloc (popRow (Po.end 0 0))) :=
  ⟨⟨by simp, by simp, by simp, by simp, by simp, by simp, by simp, by simp, by simp, by simp, fun i => by simp⟩, ⟨by simp, by simp, by simp, by simp, by simp, by simp, by simp, by simp, by simp, by simp, fun i => by simp⟩, below2 _ _ _, by simp; omega⟩
set_option maxHeartbeats 1000000 in
theorem tookHead_lo (s t f l p st hd lk sl tr : Int) (h0 : 0 ≤ s) (n : Nat) (hn : n < 18446744073709551616) (h : ((n % 65536 : Nat) : Int) < 1) (W : World) :
    Calls Tryd.prog 58 #[popV ⟨s, t, f, l, p, st, hd, lk, sl, tr⟩, .int .u64 n] W fun e w' => e = .returned (popV (Po.end 0 tr)) ∧ Below W.heap.size W w' := by
  have HK := Lib.hid (KPP.start W ⟨s, t, f, l, p, st, hd, lk, sl, tr⟩).drew
  have S := Lib.hid (hslot_any n hn)
  have I := Lib.hid (isSlot_lo s t f l p _ h0 h)
  have M := Lib.hid (come_any ⟨s, t, f, l, p, st, hd, lk, sl, tr⟩ 0)
  clear h
  generalize n % 65536 = m at S I
  go_enter Tryd.func58, Tryd.ntmps58
  go_wp2
  refine wp_region_class (C := KPP W.heap.size W W.heap.size ⟨s, t, f, l, p, st, hd, lk, sl, tr⟩ (W.heap.size + 1) (Po.end 0 0)) (by kernel_rfl) (by kernel_rfl) (HK.out) ?_
  repeat (first
    | go_big_quiet_skip
    | (go_big_quiet_want; go_big_quiet_op; go_big_quiet_on)
    | (go_big_quiet_want; go_big_quiet_op; refine ⟨_, fun _ _ => rfl, ?_⟩; go_big_quiet_on)
    | (go_big_quiet_want
       apply quiet_mk
       · intro u hu
         have c0 := hu.c0; have c1 := hu.c1; have c2 := hu.c2; have c3 := hu.c3; have c4 := hu.c4; have c5 := hu.c5; have c6 := hu.c6; have c7 := hu.c7; have c8 := hu.c8; have c9 := hu.c9
         have HU := Lib.hid hu
         clear hu
         go_simp
         first
           | with_reducible rfl
           | (go_at_call 52; refine (S.out _).mono ?_; rintro e w' ⟨rfl, q, rfl⟩; exact ⟨rfl, HU.out.next (below_drewN7 (Below.refl _ _) _)⟩) | (go_at_call 62; refine (I.out _).mono ?_; rintro e w' ⟨rfl, hn⟩; exact ⟨rfl, HU.out.next hn⟩)
       simp only [Act.put, List.setIfInBounds_toArray, List.set_cons_zero, List.set_cons_succ]
       go_big_quiet_on))
  refine wpQuiet_nil ?_
  intro u hu
  have H1 := Lib.hid hu
  have c0 := hu.c0
  have c1 := hu.c1
  have c2 := hu.c2
  have c3 := hu.c3
  have c4 := hu.c4
  have c5 := hu.c5
  have c6 := hu.c6
  have c7 := hu.c7
  have c8 := hu.c8
  have c9 := hu.c9
  clear hu
  go_wp2_with (go_at_call 49; refine (M.out _).mono ?_; rintro e w1 ⟨rfl, hn⟩; have h1 := H1.out.next hn; clear hn c0 c1 c2 c3 c4 c5 c6 c7 c8 c9; have e0 := h1.z.c0; have e1 := h1.z.c1; have e2 := h1.z.c2; have e3 := h1.z.c3; have e4 := h1.z.c4; have e5 := h1.z.c5; have e6 := h1.z.c6; have e7 := h1.z.c7; have e8 := h1.z.c8; have e9 := h1.z.c9; have fz := h1.z.fz)
  exact bodyPost_ret (v := popV (Po.end 0 tr)) (by simp [results, Tryd.results58, go_sem, e0, e1, e2, e3, e4, e5, e6, e7, e8, e9]) rfl ⟨rfl, below_putP h1.bl (by omega) (Po.end 0 tr)⟩
set_option maxHeartbeats 1000000 in
theorem tookHead_hi (s t f l p st hd lk sl tr : Int) (h0 : 0 ≤ s) (n : Nat) (hn : n < 18446744073709551616) (h : s < ((n % 65536 : Nat) : Int)) (W : World) :
    Calls Tryd.prog 58 #[popV ⟨s, t, f, l, p, st, hd, lk, sl, tr⟩, .int .u64 n] W fun e w' => e = .returned (popV (Po.end 0 tr)) ∧ Below W.heap.size W w' := by
  have HK := Lib.hid (KPP.start W ⟨s, t, f, l, p, st, hd, lk, sl, tr⟩).drew
  have S := Lib.hid (hslot_any n hn)
  have I := Lib.hid (isSlot_hi s t f l p _ h0 h)
  have M := Lib.hid (come_any ⟨s, t, f, l, p, st, hd, lk, sl, tr⟩ 0)
  clear h
  generalize n % 65536 = m at S I
  go_enter Tryd.func58, Tryd.ntmps58
  go_wp2
  refine wp_region_class (C := KPP W.heap.size W W.heap.size ⟨s, t, f, l, p, st, hd, lk, sl, tr⟩ (W.heap.size + 1) (Po.end 0 0)) (by kernel_rfl) (by kernel_rfl) (HK.out) ?_
  repeat (first
    | go_big_quiet_skip
    | (go_big_quiet_want; go_big_quiet_op; go_big_quiet_on)
    | (go_big_quiet_want; go_big_quiet_op; refine ⟨_, fun _ _ => rfl, ?_⟩; go_big_quiet_on)
    | (go_big_quiet_want
       apply quiet_mk
       · intro u hu
         have c0 := hu.c0; have c1 := hu.c1; have c2 := hu.c2; have c3 := hu.c3; have c4 := hu.c4; have c5 := hu.c5; have c6 := hu.c6; have c7 := hu.c7; have c8 := hu.c8; have c9 := hu.c9
         have HU := Lib.hid hu
         clear hu
         go_simp
         first
           | with_reducible rfl
           | (go_at_call 52; refine (S.out _).mono ?_; rintro e w' ⟨rfl, q, rfl⟩; exact ⟨rfl, HU.out.next (below_drewN7 (Below.refl _ _) _)⟩) | (go_at_call 62; refine (I.out _).mono ?_; rintro e w' ⟨rfl, hn⟩; exact ⟨rfl, HU.out.next hn⟩)
       simp only [Act.put, List.setIfInBounds_toArray, List.set_cons_zero, List.set_cons_succ]
       go_big_quiet_on))
  refine wpQuiet_nil ?_
  intro u hu
  have H1 := Lib.hid hu
  have c0 := hu.c0
  have c1 := hu.c1
  have c2 := hu.c2
  have c3 := hu.c3
  have c4 := hu.c4
  have c5 := hu.c5
  have c6 := hu.c6
  have c7 := hu.c7
  have c8 := hu.c8
  have c9 := hu.c9
  clear hu
  go_wp2_with (go_at_call 49; refine (M.out _).mono ?_; rintro e w1 ⟨rfl, hn⟩; have h1 := H1.out.next hn; clear hn c0 c1 c2 c3 c4 c5 c6 c7 c8 c9; have e0 := h1.z.c0; have e1 := h1.z.c1; have e2 := h1.z.c2; have e3 := h1.z.c3; have e4 := h1.z.c4; have e5 := h1.z.c5; have e6 := h1.z.c6; have e7 := h1.z.c7; have e8 := h1.z.c8; have e9 := h1.z.c9; have fz := h1.z.fz)
  exact bodyPost_ret (v := popV (Po.end 0 tr)) (by simp [results, Tryd.results58, go_sem, e0, e1, e2, e3, e4, e5, e6, e7, e8, e9]) rfl ⟨rfl, below_putP h1.bl (by omega) (Po.end 0 tr)⟩
set_option maxHeartbeats 1000000 in
theorem tookHead_in (s t f l p st hd lk sl tr : Int) (h0 : 0 ≤ s) (n : Nat) (hn : n < 18446744073709551616) (h : 1 ≤ ((n % 65536 : Nat) : Int) ∧ ((n % 65536 : Nat) : Int) ≤ s) (W : World) :
    Calls Tryd.prog 58 #[popV ⟨s, t, f, l, p, st, hd, lk, sl, tr⟩, .int .u64 n] W fun e w' => e = .returned (popV ⟨s, t, f, l, p, 2, n, lk, sl, tr⟩) ∧ Below W.heap.size W w' := by
  have HK := Lib.hid (KPP.start W ⟨s, t, f, l, p, st, hd, lk, sl, tr⟩).drew
  have S := Lib.hid (hslot_any n hn)
  have I := Lib.hid (isSlot_in s t f l p _ h0 h)
  have M := Lib.hid (come_any ⟨s, t, f, l, p, st, hd, lk, sl, tr⟩ 0)
  clear h
  generalize n % 65536 = m at S I
  go_enter Tryd.func58, Tryd.ntmps58
  go_wp2
  refine wp_region_class (C := KPP W.heap.size W W.heap.size ⟨s, t, f, l, p, st, hd, lk, sl, tr⟩ (W.heap.size + 1) (Po.end 0 0)) (by kernel_rfl) (by kernel_rfl) (HK.out) ?_
  repeat (first
    | go_big_quiet_skip
    | (go_big_quiet_want; go_big_quiet_op; go_big_quiet_on)
    | (go_big_quiet_want; go_big_quiet_op; refine ⟨_, fun _ _ => rfl, ?_⟩; go_big_quiet_on)
    | (go_big_quiet_want
       apply quiet_mk
       · intro u hu
         have c0 := hu.c0; have c1 := hu.c1; have c2 := hu.c2; have c3 := hu.c3; have c4 := hu.c4; have c5 := hu.c5; have c6 := hu.c6; have c7 := hu.c7; have c8 := hu.c8; have c9 := hu.c9
         have HU := Lib.hid hu
         clear hu
         go_simp
         first
           | with_reducible rfl
           | (go_at_call 52; refine (S.out _).mono ?_; rintro e w' ⟨rfl, q, rfl⟩; exact ⟨rfl, HU.out.next (below_drewN7 (Below.refl _ _) _)⟩) | (go_at_call 62; refine (I.out _).mono ?_; rintro e w' ⟨rfl, hn⟩; exact ⟨rfl, HU.out.next hn⟩)
       simp only [Act.put, List.setIfInBounds_toArray, List.set_cons_zero, List.set_cons_succ]
       go_big_quiet_on))
  refine wpQuiet_nil ?_
  intro u hu
  have H1 := Lib.hid hu
  have c0 := hu.c0
  have c1 := hu.c1
  have c2 := hu.c2
  have c3 := hu.c3
  have c4 := hu.c4
  have c5 := hu.c5
  have c6 := hu.c6
  have c7 := hu.c7
  have c8 := hu.c8
  have c9 := hu.c9
  have e0 := hu.z.c0
  have e1 := hu.z.c1
  have e2 := hu.z.c2
  have e3 := hu.z.c3
  have e4 := hu.z.c4
  have e5 := hu.z.c5
  have e6 := hu.z.c6
  have e7 := hu.z.c7
  have e8 := hu.z.c8
  have e9 := hu.z.c9
  have fz := hu.z.fz
  have fy := hu.fz
  have BL := Lib.hid hu.bl
  clear hu
  go_wp2
  exact bodyPost_ret (v := popV ⟨s, t, f, l, p, 2, n, lk, sl, tr⟩) (by simp [results, Tryd.results58, go_sem, e0, e1, e2, e3, e4, e5, e6, e7, e8, e9]) rfl ⟨rfl, by repeat (first | (with_reducible refine Below.setCell ?_ (by simp) _) | exact BL.out)⟩
set_option maxHeartbeats 1000000 in
theorem tookSwap_hit (s t f l p st lk sl tr : Int) (hd : Nat) (hh : hd < 18446744073709551616) (W : World) :
    Calls Tryd.prog 60 #[popV ⟨s, t, f, l, p, st, hd, lk, sl, tr⟩, .int .u64 1] W fun e w' => e = .returned (popV (Po.end (hd % 65536 : Nat) tr)) ∧ Below W.heap.size W w' := by
  have HK := Lib.hid (KPP.start W ⟨s, t, f, l, p, st, hd, lk, sl, tr⟩).drew
  have S := Lib.hid (hslot_any hd hh)
  have M := Lib.hid (come_any ⟨s, t, f, l, p, st, hd, lk, sl, tr⟩ (hd % 65536 : Nat))
  generalize hd % 65536 = m at S M ⊢
  go_enter Tryd.func60, Tryd.ntmps60
  go_wp2
  refine wp_region_class_tail (C := KPP W.heap.size W W.heap.size ⟨s, t, f, l, p, st, hd, lk, sl, tr⟩ (W.heap.size + 1) (Po.end 0 0)) 5 (by kernel_rfl) (by kernel_rfl) (HK.out) ?_
  simp only [List.take_succ_cons, List.take_zero, List.drop_succ_cons, List.drop_zero]
  repeat (first
    | go_big_quiet_skip
    | (go_big_quiet_want; go_big_quiet_op; go_big_quiet_on)
    | (go_big_quiet_want; go_big_quiet_op; refine ⟨_, fun _ _ => rfl, ?_⟩; go_big_quiet_on)
    | (go_big_quiet_want
       apply quiet_mk
       · intro u hu
         have c0 := hu.c0; have c1 := hu.c1; have c2 := hu.c2; have c3 := hu.c3; have c4 := hu.c4; have c5 := hu.c5; have c6 := hu.c6; have c7 := hu.c7; have c8 := hu.c8; have c9 := hu.c9
         have HU := Lib.hid hu
         clear hu
         go_simp
         first
           | with_reducible rfl
           | (go_at_call 52; refine (S.out _).mono ?_; rintro e w' ⟨rfl, q, rfl⟩; exact ⟨rfl, HU.out.next (below_drewN7 (Below.refl _ _) _)⟩) | (go_at_call 49; refine (M.out _).mono ?_; rintro e w' ⟨rfl, hn⟩; exact ⟨rfl, HU.out.next hn⟩)
       simp only [Act.put, List.setIfInBounds_toArray, List.set_cons_zero, List.set_cons_succ]
       go_big_quiet_on))
  refine wpQuiet_nil ?_
  intro u hu
  have e0 := hu.z.c0
  have e1 := hu.z.c1
  have e2 := hu.z.c2
  have e3 := hu.z.c3
  have e4 := hu.z.c4
  have e5 := hu.z.c5
  have e6 := hu.z.c6
  have e7 := hu.z.c7
  have e8 := hu.z.c8
  have e9 := hu.z.c9
  have fz := hu.z.fz
  go_wp2
  exact bodyPost_ret (v := popV (Po.end m tr)) (by simp [results, Tryd.results60, go_sem, e0, e1, e2, e3, e4, e5, e6, e7, e8, e9]) rfl ⟨rfl, below_putP hu.bl (by omega) (Po.end m tr)⟩
theorem tookSwap_miss (s t f l p st hd lk sl tr : Int) (n : Nat) (h1 : n ≠ 1) (ht : 0 ≤ tr) (ht2 : tr ≤ 1000) (W : World) :
    Calls Tryd.prog 60 #[popV ⟨s, t, f, l, p, st, hd, lk, sl, tr⟩, .int .u64 n] W fun e w' => e = .returned (popV ⟨s, t, f, l, p, 1, 0, 0, 0, tr + 1⟩) ∧ Below W.heap.size W w' := by
  have hB := Lib.hid (below2 W)
  have h2 : ((n : Int) == 1) = false := by simp; omega
  clear h1
  go_enter Tryd.func60, Tryd.ntmps60
  go_wp2
  exact bodyPost_ret (v := popV ⟨s, t, f, l, p, 1, 0, 0, 0, tr + 1⟩) (by simp [results, Tryd.results60, go_sem]) rfl ⟨rfl, (by repeat (first | (with_reducible refine Below.setCell ?_ (by simp) _) | (with_reducible refine below_drewN7 ?_ _) | exact hB.out _ _ | exact Nat.le_refl _))⟩
def notStep (st : Int) : Prop := (st == 1) = false ∧ (st == 2) = false ∧ (st == 3) = false
set_option maxHeartbeats 1000000 in
theorem ptook_1 (s t f l p hd lk sl tr : Int) (n : Nat) (z : Po) (hC : ∀ W : World, Calls Tryd.prog 58 #[popV ⟨s, t, f, l, p, 1, hd, lk, sl, tr⟩, .int .u64 n] W fun e w' => e = .returned (popV z) ∧ Below W.heap.size W w') (W : World) :
    Calls Tryd.prog 18 #[popV ⟨s, t, f, l, p, 1, hd, lk, sl, tr⟩, .int .u64 n] W fun e w' => e = .returned (popV z) ∧ Below W.heap.size W w' := by
  have HK := Lib.hid (KPP.start W ⟨s, t, f, l, p, 1, hd, lk, sl, tr⟩)
  have C := Lib.hid hC
  clear hC
  go_enter Tryd.func18, Tryd.ntmps18
  go_wp2_with (go_at_call 58; refine (C.out _).mono ?_; rintro e w1 ⟨rfl, hn⟩; have h1 := HK.out.next hn; clear hn; have e0 := h1.z.c0; have e1 := h1.z.c1; have e2 := h1.z.c2; have e3 := h1.z.c3; have e4 := h1.z.c4; have e5 := h1.z.c5; have e6 := h1.z.c6; have e7 := h1.z.c7; have e8 := h1.z.c8; have e9 := h1.z.c9; have fz := h1.z.fz)
  exact bodyPost_ret (v := popV z) (by simp [results, Tryd.results18, go_sem, e0, e1, e2, e3, e4, e5, e6, e7, e8, e9]) rfl ⟨rfl, below_putP h1.bl (by omega) z⟩
set_option maxHeartbeats 1000000 in
theorem ptook_2 (s t f l p hd lk sl tr : Int) (n : Nat) (z : Po) (hC : ∀ W : World, Calls Tryd.prog 59 #[popV ⟨s, t, f, l, p, 2, hd, lk, sl, tr⟩, .int .u64 n] W fun e w' => e = .returned (popV z) ∧ Below W.heap.size W w') (W : World) :
    Calls Tryd.prog 18 #[popV ⟨s, t, f, l, p, 2, hd, lk, sl, tr⟩, .int .u64 n] W fun e w' => e = .returned (popV z) ∧ Below W.heap.size W w' := by
  have HK := Lib.hid (KPP.start W ⟨s, t, f, l, p, 2, hd, lk, sl, tr⟩)
  have C := Lib.hid hC
  clear hC
  go_enter Tryd.func18, Tryd.ntmps18
  go_wp2_with (go_at_call 59; refine (C.out _).mono ?_; rintro e w1 ⟨rfl, hn⟩; have h1 := HK.out.next hn; clear hn; have e0 := h1.z.c0; have e1 := h1.z.c1; have e2 := h1.z.c2; have e3 := h1.z.c3; have e4 := h1.z.c4; have e5 := h1.z.c5; have e6 := h1.z.c6; have e7 := h1.z.c7; have e8 := h1.z.c8; have e9 := h1.z.c9; have fz := h1.z.fz)
  exact bodyPost_ret (v := popV z) (by simp [results, Tryd.results18, go_sem, e0, e1, e2, e3, e4, e5, e6, e7, e8, e9]) rfl ⟨rfl, below_putP h1.bl (by omega) z⟩
set_option maxHeartbeats 1000000 in
theorem ptook_3 (s t f l p hd lk sl tr : Int) (n : Nat) (z : Po) (hC : ∀ W : World, Calls Tryd.prog 60 #[popV ⟨s, t, f, l, p, 3, hd, lk, sl, tr⟩, .int .u64 n] W fun e w' => e = .returned (popV z) ∧ Below W.heap.size W w') (W : World) :
    Calls Tryd.prog 18 #[popV ⟨s, t, f, l, p, 3, hd, lk, sl, tr⟩, .int .u64 n] W fun e w' => e = .returned (popV z) ∧ Below W.heap.size W w' := by
  have HK := Lib.hid (KPP.start W ⟨s, t, f, l, p, 3, hd, lk, sl, tr⟩)
  have C := Lib.hid hC
  clear hC
  go_enter Tryd.func18, Tryd.ntmps18
  go_wp2_with (go_at_call 60; refine (C.out _).mono ?_; rintro e w1 ⟨rfl, hn⟩; have h1 := HK.out.next hn; clear hn; have e0 := h1.z.c0; have e1 := h1.z.c1; have e2 := h1.z.c2; have e3 := h1.z.c3; have e4 := h1.z.c4; have e5 := h1.z.c5; have e6 := h1.z.c6; have e7 := h1.z.c7; have e8 := h1.z.c8; have e9 := h1.z.c9; have fz := h1.z.fz)
  exact bodyPost_ret (v := popV z) (by simp [results, Tryd.results18, go_sem, e0, e1, e2, e3, e4, e5, e6, e7, e8, e9]) rfl ⟨rfl, below_putP h1.bl (by omega) z⟩
set_option maxHeartbeats 1000000 in
theorem ptook_0 (s t f l p st hd lk sl tr : Int) (h1 : (st == 1) = false) (h2 : (st == 2) = false) (h3 : (st == 3) = false) (n : Nat) (z : Po) (hC : ∀ W : World, Calls Tryd.prog 57 #[popV ⟨s, t, f, l, p, st, hd, lk, sl, tr⟩, .int .u64 n] W fun e w' => e = .returned (popV z) ∧ Below W.heap.size W w') (W : World) :
    Calls Tryd.prog 18 #[popV ⟨s, t, f, l, p, st, hd, lk, sl, tr⟩, .int .u64 n] W fun e w' => e = .returned (popV z) ∧ Below W.heap.size W w' := by
  have HK := Lib.hid (KPP.start W ⟨s, t, f, l, p, st, hd, lk, sl, tr⟩)
  have C := Lib.hid hC
  clear hC
  go_enter Tryd.func18, Tryd.ntmps18
  go_wp2_with (go_at_call 57; refine (C.out _).mono ?_; rintro e w1 ⟨rfl, hn⟩; have h1 := HK.out.next hn; clear hn; have e0 := h1.z.c0; have e1 := h1.z.c1; have e2 := h1.z.c2; have e3 := h1.z.c3; have e4 := h1.z.c4; have e5 := h1.z.c5; have e6 := h1.z.c6; have e7 := h1.z.c7; have e8 := h1.z.c8; have e9 := h1.z.c9; have fz := h1.z.fz)
  exact bodyPost_ret (v := popV z) (by simp [results, Tryd.results18, go_sem, e0, e1, e2, e3, e4, e5, e6, e7, e8, e9]) rfl ⟨rfl, below_putP h1.bl (by omega) z⟩
end Go.Proofs.YtfejkcbdbkpnfaaDoor
