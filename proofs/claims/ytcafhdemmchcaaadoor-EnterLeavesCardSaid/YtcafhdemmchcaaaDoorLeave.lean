/- enter.Leave: its contracts. -/
import Derived.Test.YtcafhdemmchcaaaDoorEnter4
import Derived.Lib.SmallJoins
namespace Go.Proofs.YtcafhdemmchcaaaDoor
set_option linter.unusedVariables false
open Go.RowKit Go.Extern.Stop Go.Stop Go.Extern
structure Lv where
  s : Int
  t : Int
  f : Int
  l : Int
  p : Int
  k : Int
  o : Int
  i : Int
  sl : Bool
abbrev lvV (x : Lv) : Value := .agg #[.int .i64 x.s, .int .i64 x.t, .int .i64 x.f, .int .i64 x.l, .int .i64 x.p, .int .i64 x.k, .int .i64 x.o, .int .i64 x.i, .bool x.sl]
abbrev lvRow (x : Lv) : Obj := .cells #[.int .i64 x.s, .int .i64 x.t, .int .i64 x.f, .int .i64 x.l, .int .i64 x.p, .int .i64 x.k, .int .i64 x.o, .int .i64 x.i, .bool x.sl] 53
abbrev Lv.zero : Lv := ⟨0, 0, 0, 0, 0, 0, 0, 0, false⟩
/-- What a Leave's block holds. -/
structure LC (g : Nat) (x : Lv) (W : World) : Prop where
  c0 : W.cell? ⟨g, 0, none⟩ = some (.int .i64 x.s)
  c1 : W.cell? ⟨g, 1, none⟩ = some (.int .i64 x.t)
  c2 : W.cell? ⟨g, 2, none⟩ = some (.int .i64 x.f)
  c3 : W.cell? ⟨g, 3, none⟩ = some (.int .i64 x.l)
  c4 : W.cell? ⟨g, 4, none⟩ = some (.int .i64 x.p)
  c5 : W.cell? ⟨g, 5, none⟩ = some (.int .i64 x.k)
  c6 : W.cell? ⟨g, 6, none⟩ = some (.int .i64 x.o)
  c7 : W.cell? ⟨g, 7, none⟩ = some (.int .i64 x.i)
  c8 : W.cell? ⟨g, 8, none⟩ = some (.bool x.sl)
  fz : ∀ i, W.frozen? ⟨g, i, none⟩ = false
theorem LC.lt {g : Nat} {x : Lv} {W : World} (h : LC g x W) : g < W.heap.size := World.block_lt_of_cell? W _ h.c0
theorem LC.next {g : Nat} {x : Lv} {W W' : World} (h : LC g x W) (hb : Below W.heap.size W W') : LC g x W' := by
  have c : ∀ j, W'.cell? ⟨g, j, none⟩ = W.cell? ⟨g, j, none⟩ := fun j => hb.cell (p := ⟨g, j, none⟩) h.lt
  exact ⟨(c _).trans h.c0, (c _).trans h.c1, (c _).trans h.c2, (c _).trans h.c3, (c _).trans h.c4, (c _).trans h.c5, (c _).trans h.c6, (c _).trans h.c7, (c _).trans h.c8, fun i => (hb.frozen (p := ⟨g, i, none⟩) h.lt).trans (h.fz i)⟩
theorem LC.drew {g : Nat} {x : Lv} {W : World} (h : LC g x W) : LC g x W.drew := ⟨h.c0, h.c1, h.c2, h.c3, h.c4, h.c5, h.c6, h.c7, h.c8, h.fz⟩
theorem LC.alloc (W : World) (x : Lv) : LC W.heap.size x (W.alloc (lvRow x)) := ⟨by simp, by simp, by simp, by simp, by simp, by simp, by simp, by simp, by simp, fun i => by simp⟩
theorem LC.block {g : Nat} {x : Lv} {W : World} (h : W.heap[g]? = some (lvRow x)) : LC g x W := ⟨by simp [World.cell?, h], by simp [World.cell?, h], by simp [World.cell?, h], by simp [World.cell?, h], by simp [World.cell?, h], by simp [World.cell?, h], by simp [World.cell?, h], by simp [World.cell?, h], by simp [World.cell?, h], fun i => by simp [World.frozen?, h]⟩
abbrev putL (W : World) (g : Nat) (x : Lv) : World := ((((((((W.setCell ⟨g, 0, none⟩ (.int .i64 x.s)).setCell ⟨g, 1, none⟩ (.int .i64 x.t)).setCell ⟨g, 2, none⟩ (.int .i64 x.f)).setCell ⟨g, 3, none⟩ (.int .i64 x.l)).setCell ⟨g, 4, none⟩ (.int .i64 x.p)).setCell ⟨g, 5, none⟩ (.int .i64 x.k)).setCell ⟨g, 6, none⟩ (.int .i64 x.o)).setCell ⟨g, 7, none⟩ (.int .i64 x.i)).setCell ⟨g, 8, none⟩ (.bool x.sl)
theorem belowL {B : Nat} {a W : World} (h : Below B a W) {g : Nat} (hg : B ≤ g) (x : Lv) : Below B a (putL W g x) := (((((((((h.setCell hg _).setCell hg _).setCell hg _).setCell hg _).setCell hg _).setCell hg _).setCell hg _).setCell hg _).setCell hg _)
theorem putL_block {g : Nat} {y : Lv} {W : World} (h : W.heap[g]? = some (lvRow y)) (x : Lv) : (putL W g x).heap[g]? = some (lvRow x) := by
  unfold putL
  have h0 := Go.Joins.block_setCell (i := 0) h (.int .i64 x.s)
  have h1 := Go.Joins.block_setCell (i := 1) h0 (.int .i64 x.t)
  have h2 := Go.Joins.block_setCell (i := 2) h1 (.int .i64 x.f)
  have h3 := Go.Joins.block_setCell (i := 3) h2 (.int .i64 x.l)
  have h4 := Go.Joins.block_setCell (i := 4) h3 (.int .i64 x.p)
  have h5 := Go.Joins.block_setCell (i := 5) h4 (.int .i64 x.k)
  have h6 := Go.Joins.block_setCell (i := 6) h5 (.int .i64 x.o)
  have h7 := Go.Joins.block_setCell (i := 7) h6 (.int .i64 x.i)
  have h8 := Go.Joins.block_setCell (i := 8) h7 (.bool x.sl)
  simpa using h8
theorem LC.store {g : Nat} {y : Lv} {W : World} (h : LC g y W) (x : Lv) : LC g x (putL W g x) := by
  obtain ⟨c0, c1, c2, c3, c4, c5, c6, c7, c8, fz⟩ := h
  exact ⟨by unfold putL; simp [go_sem, c0], by unfold putL; simp [go_sem, c1], by unfold putL; simp [go_sem, c2], by unfold putL; simp [go_sem, c3], by unfold putL; simp [go_sem, c4], by unfold putL; simp [go_sem, c5], by unfold putL; simp [go_sem, c6], by unfold putL; simp [go_sem, c7], by unfold putL; simp [go_sem, c8], fun i => by unfold putL; simp [go_sem, fz]⟩
theorem ldone_yes (s t f l p : Int) (sl : Bool) (W : World) : Calls Tryd.prog 18 #[.agg #[.int .i64 s, .int .i64 t, .int .i64 f, .int .i64 l, .int .i64 p, .int .i64 0, .int .i64 0, .int .i64 0, .bool sl]] W fun e w' => e = .returned (.bool true) ∧ Below W.heap.size W w' := by
  have hB := Lib.hid (below1 W)
  go_enter Tryd.func18, Tryd.ntmps18
  go_wp2
  go_ret
  exact ⟨rfl, hB.out _⟩
theorem ldone_no (s t f l p k o i : Int) (sl : Bool) (hk : (k == 0) = false) (W : World) : Calls Tryd.prog 18 #[.agg #[.int .i64 s, .int .i64 t, .int .i64 f, .int .i64 l, .int .i64 p, .int .i64 k, .int .i64 o, .int .i64 i, .bool sl]] W fun e w' => e = .returned (.bool false) ∧ Below W.heap.size W w' := by
  have hB := Lib.hid (below1 W)
  go_enter Tryd.func18, Tryd.ntmps18
  go_wp2
  go_ret
  exact ⟨by simp [go_sem], hB.out _⟩
/-- A Leave's block, and that of an answer. -/
structure KQ (B : Nat) (w0 : World) (g : Nat) (x : Lv) (r : Nat) (W : World) : Prop extends LC g x W where
  r0 : W.cell? ⟨r, 0, none⟩ = some (.int .i64 0)
  r1 : W.cell? ⟨r, 1, none⟩ = some (.int .i64 0)
  r2 : W.cell? ⟨r, 2, none⟩ = some (.int .u64 0)
  r3 : W.cell? ⟨r, 3, none⟩ = some (.int .u64 0)
  rz : ∀ i, W.frozen? ⟨r, i, none⟩ = false
  bl : Below B w0 W
  le : B ≤ W.heap.size
theorem KQ.next {B : Nat} {w0 : World} {g : Nat} {x : Lv} {r : Nat} {W W' : World} (h : KQ B w0 g x r W) (hb : Below W.heap.size W W') : KQ B w0 g x r W' := by
  have hr : r < W.heap.size := World.block_lt_of_cell? W _ h.r0
  have c : ∀ j, W'.cell? ⟨r, j, none⟩ = W.cell? ⟨r, j, none⟩ := fun j => hb.cell (p := ⟨r, j, none⟩) hr
  exact ⟨h.toLC.next hb, (c _).trans h.r0, (c _).trans h.r1, (c _).trans h.r2, (c _).trans h.r3, fun i => (hb.frozen (p := ⟨r, i, none⟩) hr).trans (h.rz i), h.bl.trans (hb.mono h.le), Nat.le_trans h.le hb.size⟩
theorem KQ.start (W : World) (x : Lv) : KQ W.heap.size W W.heap.size x (W.heap.size + 1) ((W.alloc (lvRow x)).alloc (.cells #[.int .i64 0, .int .i64 0, .int .u64 0, .int .u64 0] 39)) :=
  ⟨⟨by simp, by simp, by simp, by simp, by simp, by simp, by simp, by simp, by simp, fun i => by simp⟩, by simp, by simp, by simp, by simp, fun i => by simp, below2 _ _ _, by simp; omega⟩
set_option maxHeartbeats 1000000 in
theorem lwant_none (s t f l p : Int) (sl : Bool) (W : World) : Calls Tryd.prog 19 #[.agg #[.int .i64 s, .int .i64 t, .int .i64 f, .int .i64 l, .int .i64 p, .int .i64 0, .int .i64 0, .int .i64 0, .bool sl]] W fun e w' => e = .returned (askV 0 0 0 0) ∧ Below W.heap.size W w' := by
  have HK := Lib.hid (KQ.start W ⟨s, t, f, l, p, 0, 0, 0, sl⟩)
  have D := Lib.hid (ldone_yes s t f l p sl)
  go_enter Tryd.func19, Tryd.ntmps19
  go_wp2_with (go_at_call 18; refine (D.out _).mono ?_; rintro e w1 ⟨rfl, hn⟩; have h1 := HK.out.next hn; clear hn; have r0 := h1.r0; have r1 := h1.r1; have r2 := h1.r2; have r3 := h1.r3; have rz := h1.rz)
  exact bodyPost_ret (v := askV 0 0 0 0) (by simp [results, Tryd.results19, go_sem, r0, r1, r2, r3]) rfl ⟨rfl, belowSets4 h1.bl (by omega) _ _ _ _⟩
set_option maxHeartbeats 1000000 in
theorem lwant_yes (s t f l p k o i : Int) (sl : Bool) (hk : (k == 0) = false) (h : okL s t f l p) (W : World) : Calls Tryd.prog 19 #[.agg #[.int .i64 s, .int .i64 t, .int .i64 f, .int .i64 l, .int .i64 p, .int .i64 k, .int .i64 o, .int .i64 i, .bool sl]] W fun e w' => e = .returned (askV 2 (atL s t f k o i) 0 0) ∧ Below W.heap.size W w' := by
  have HK := Lib.hid (KQ.start W ⟨s, t, f, l, p, k, o, i, sl⟩)
  have D := Lib.hid (ldone_no s t f l p k o i sl hk)
  have A := Lib.hid (at_any s t f l p k o i h)
  generalize atL s t f k o i = at' at A ⊢
  clear h hk
  go_enter Tryd.func19, Tryd.ntmps19
  go_wp2_with (first | (go_at_call 18; refine (D.out _).mono ?_; rintro e w1 ⟨rfl, hn⟩; have h1 := HK.out.next hn; clear hn; have c0 := h1.c0; have c1 := h1.c1; have c2 := h1.c2; have c3 := h1.c3; have c4 := h1.c4; have c5 := h1.c5; have c6 := h1.c6; have c7 := h1.c7; have c8 := h1.c8) | (go_at_call 25; refine (A.out _).mono ?_; rintro e w2 ⟨rfl, hn⟩; have h2 := h1.next hn; clear hn; have r0 := h2.r0; have r1 := h2.r1; have r2 := h2.r2; have r3 := h2.r3; have rz := h2.rz))
  exact bodyPost_ret (v := askV 2 at' 0 0) (by simp [results, Tryd.results19, go_sem, r0, r1, r2, r3]) rfl ⟨rfl, belowSets4 h2.bl (by omega) _ _ _ _⟩
/-- A layout's block, and that of the Leave that is made. -/
structure KM (B : Nat) (w0 : World) (g : Nat) (s t f l p : Int) (r : Nat) (W : World) : Prop extends K5 B w0 g s t f l p W where
  z : LC r Lv.zero W
theorem KM.next {B : Nat} {w0 : World} {g : Nat} {s t f l p : Int} {r : Nat} {W W' : World} (h : KM B w0 g s t f l p r W) (hb : Below W.heap.size W W') : KM B w0 g s t f l p r W' := ⟨h.toK5.next hb, h.z.next hb⟩
theorem KM.drew {B : Nat} {w0 : World} {g : Nat} {s t f l p : Int} {r : Nat} {W : World} (h : KM B w0 g s t f l p r W) : KM B w0 g s t f l p r W.drew := ⟨⟨h.c0, h.c1, h.c2, h.c3, h.c4, h.bl.drew, h.le⟩, h.z.drew⟩
theorem KM.start (W : World) (s t f l p : Int) : KM W.heap.size W W.heap.size s t f l p (W.heap.size + 1) ((W.alloc (.cells #[.int .i64 s, .int .i64 t, .int .i64 f, .int .i64 l, .int .i64 p] 27)).alloc (lvRow Lv.zero)) :=
  ⟨⟨by simp, by simp, by simp, by simp, by simp, below2 _ _ _, by simp; omega⟩, ⟨by simp, by simp, by simp, by simp, by simp, by simp, by simp, by simp, by simp, fun i => by simp⟩⟩
set_option maxHeartbeats 1000000 in
theorem lnew_any (s t f l p th k o i : Int) (sl : Bool) (hA : ∀ W : World, Calls Tryd.prog 21 #[layV s t f l p, .int .i64 th] W fun e w' => e = .returned (placeV k o i) ∧ Below W.heap.size W w') (W : World) :
    Calls Tryd.prog 17 #[layV s t f l p, .int .i64 th, .bool sl] W fun e w' => e = .returned (.agg #[.int .i64 s, .int .i64 t, .int .i64 f, .int .i64 l, .int .i64 p, .int .i64 k, .int .i64 o, .int .i64 i, .bool sl]) ∧ Below W.heap.size W w' := by
  have A := Lib.hid hA
  have HK := Lib.hid (KM.start W s t f l p).drew
  clear hA
  go_enter Tryd.func17, Tryd.ntmps17
  go_wp2
  refine wp_region_class_tail (C := KM W.heap.size W W.heap.size s t f l p (W.heap.size + 1)) 5 (by kernel_rfl) (by kernel_rfl) (HK.out) ?_
  simp only [List.take_succ_cons, List.take_zero, List.drop_succ_cons, List.drop_zero]
  repeat (first
    | go_big_quiet_skip
    | (go_big_quiet_want; go_big_quiet_op; go_big_quiet_on)
    | (go_big_quiet_want; go_big_quiet_op; refine ⟨_, fun _ _ => rfl, ?_⟩; go_big_quiet_on)
    | (go_big_quiet_want
       apply quiet_mk
       · intro u hu
         have c0 := hu.c0; have c1 := hu.c1; have c2 := hu.c2; have c3 := hu.c3; have c4 := hu.c4
         have HU := Lib.hid hu
         clear hu
         go_simp
         first
           | with_reducible rfl
           | (go_at_call 21; refine (A.out _).mono ?_; rintro e w' ⟨rfl, hn⟩; exact ⟨rfl, HU.out.next hn⟩)
       simp only [Act.put, List.setIfInBounds_toArray, List.set_cons_zero, List.set_cons_succ]
       go_big_quiet_on))
  refine wpQuiet_nil ?_
  intro u hu
  clear HK
  have z0 := hu.z.c0; have z1 := hu.z.c1; have z2 := hu.z.c2; have z3 := hu.z.c3; have z4 := hu.z.c4; have z5 := hu.z.c5; have z6 := hu.z.c6; have z7 := hu.z.c7; have z8 := hu.z.c8
  have fz := hu.z.fz
  go_wp2
  exact bodyPost_ret (v := .agg #[.int .i64 s, .int .i64 t, .int .i64 f, .int .i64 l, .int .i64 p, .int .i64 k, .int .i64 o, .int .i64 i, .bool sl]) (by simp [results, Tryd.results17, go_sem, z0, z1, z2, z3, z4, z5, z6, z7, z8]) rfl ⟨rfl, belowL hu.bl (by omega) ⟨s, t, f, l, p, k, o, i, sl⟩⟩
end Go.Proofs.YtcafhdemmchcaaaDoor
