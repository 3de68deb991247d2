/- enter.announcement, New, Leave's zero, law 17's awake. -/
import Derived.Test.YtcafhdemmchcaaaDoorEnter
namespace Go.Proofs.YtcafhdemmchcaaaDoor
set_option linter.unusedVariables false
open Go.RowKit Go.Extern.Stop Go.Stop Go.Extern
structure KA (B : Nat) (w0 : World) (g : Nat) (s t f l p : Int) (q : Nat) (k o i : Int) (r : Nat) (W : World) : Prop extends K8 B w0 g s t f l p q k o i W where
  e0 : W.cell? ⟨r, 0, none⟩ = some (.int .i64 0)
  e1 : W.cell? ⟨r, 1, none⟩ = some (.int .i64 0)
  e2 : W.cell? ⟨r, 2, none⟩ = some (.int .i64 0)
  fz : ∀ i, W.frozen? ⟨r, i, none⟩ = false
theorem KA.next {B : Nat} {w0 : World} {g : Nat} {s t f l p : Int} {q : Nat} {k o i : Int} {r : Nat} {W W' : World} (h : KA B w0 g s t f l p q k o i r W) (hb : Below W.heap.size W W') : KA B w0 g s t f l p q k o i r W' := by
  have hr : r < W.heap.size := World.block_lt_of_cell? W _ h.e0
  have c : ∀ j, W'.cell? ⟨r, j, none⟩ = W.cell? ⟨r, j, none⟩ := fun j => hb.cell (p := ⟨r, j, none⟩) hr
  exact ⟨h.toK8.next hb, (c _).trans h.e0, (c _).trans h.e1, (c _).trans h.e2, fun i => (hb.frozen (p := ⟨r, i, none⟩) hr).trans (h.fz i)⟩
theorem KA.start (W : World) (s t f l p k o i : Int) : KA W.heap.size W W.heap.size s t f l p (W.heap.size + 2) k o i (W.heap.size + 1) ((((W.alloc (.cells #[.int .i64 s, .int .i64 t, .int .i64 f, .int .i64 l, .int .i64 p] 27)).alloc (.cells #[.int .i64 0, .int .i64 0, .int .i64 0] 51)).alloc (.cells #[.int .i64 k, .int .i64 o, .int .i64 i] 51)).drew) := by
  have k5 : K5 W.heap.size W W.heap.size s t f l p ((W.alloc (.cells #[.int .i64 s, .int .i64 t, .int .i64 f, .int .i64 l, .int .i64 p] 27)).alloc (.cells #[.int .i64 0, .int .i64 0, .int .i64 0] 51)) := ⟨by simp, by simp, by simp, by simp, by simp, below2 _ _ _, by simp; omega⟩
  have e : (∀ j, j < 3 → ((W.alloc (.cells #[.int .i64 s, .int .i64 t, .int .i64 f, .int .i64 l, .int .i64 p] 27)).alloc (.cells #[.int .i64 0, .int .i64 0, .int .i64 0] 51)).cell? ⟨W.heap.size + 1, j, none⟩ = some (.int .i64 0)) := by
    intro j hj
    obtain rfl | rfl | rfl : j = 0 ∨ j = 1 ∨ j = 2 := by omega
    all_goals simp
  have fz : ∀ i, ((W.alloc (.cells #[.int .i64 s, .int .i64 t, .int .i64 f, .int .i64 l, .int .i64 p] 27)).alloc (.cells #[.int .i64 0, .int .i64 0, .int .i64 0] 51)).frozen? ⟨W.heap.size + 1, i, none⟩ = false := fun i => by simp
  have hz : ((W.alloc (.cells #[.int .i64 s, .int .i64 t, .int .i64 f, .int .i64 l, .int .i64 p] 27)).alloc (.cells #[.int .i64 0, .int .i64 0, .int .i64 0] 51)).heap.size = W.heap.size + 2 := by simp
  generalize (W.alloc (.cells #[.int .i64 s, .int .i64 t, .int .i64 f, .int .i64 l, .int .i64 p] 27)).alloc (.cells #[.int .i64 0, .int .i64 0, .int .i64 0] 51) = W2 at k5 e fz hz ⊢
  rw [← hz]
  have hn := below1 W2 (.cells #[.int .i64 k, .int .i64 o, .int .i64 i] 51)
  have h5 := k5.next hn
  have hl : W.heap.size + 1 < W2.heap.size := by omega
  have c : ∀ j, (W2.alloc (.cells #[.int .i64 k, .int .i64 o, .int .i64 i] 51)).cell? ⟨W.heap.size + 1, j, none⟩ = W2.cell? ⟨W.heap.size + 1, j, none⟩ := fun j => hn.cell (p := ⟨W.heap.size + 1, j, none⟩) hl
  exact ⟨⟨⟨h5.c0, h5.c1, h5.c2, h5.c3, h5.c4, h5.bl.drew, h5.le⟩, by simp, by simp, by simp⟩, (c 0).trans (e 0 (by omega)), (c 1).trans (e 1 (by omega)), (c 2).trans (e 2 (by omega)), fun i => (hn.frozen (p := ⟨W.heap.size + 1, i, none⟩) hl).trans (fz i)⟩
set_option maxHeartbeats 1000000 in
theorem ann_yes (s t f l p th a : Int) (hA : ∀ W : World, Calls Tryd.prog 25 #[layV s t f l p, placeV 4 th 0] W fun e w' => e = .returned (.int .i64 a) ∧ Below W.heap.size W w')
    (hX : ∀ W : World, Calls Tryd.prog 35 #[layV s t f l p, .int .i64 a] W fun e w' => e = .returned (placeV 4 th 0) ∧ Below W.heap.size W w') (W : World) :
    Calls Tryd.prog 21 #[layV s t f l p, .int .i64 th] W fun e w' => e = .returned (placeV 4 th 0) ∧ Below W.heap.size W w' := by
  have HK := Lib.hid (KA.start W s t f l p 4 th 0)
  have A := Lib.hid hA
  have X := Lib.hid hX
  clear hA hX
  go_enter Tryd.func21, Tryd.ntmps21
  go_wp2
  refine wp_region_class (C := KA W.heap.size W W.heap.size s t f l p (W.heap.size + 2) 4 th 0 (W.heap.size + 1)) (by kernel_rfl) (by kernel_rfl) (HK.out) ?_
  repeat (first
    | go_big_quiet_skip
    | (go_big_quiet_want; go_big_quiet_op; go_big_quiet_on)
    | (go_big_quiet_want; go_big_quiet_op; refine ⟨_, fun _ _ => rfl, ?_⟩; go_big_quiet_on)
    | (go_big_quiet_want
       apply quiet_mk
       · intro u hu
         have c0 := hu.c0; have c1 := hu.c1; have c2 := hu.c2; have c3 := hu.c3; have c4 := hu.c4; have d0 := hu.d0; have d1 := hu.d1; have d2 := hu.d2
         have HU := Lib.hid hu
         clear hu
         go_simp
         first
           | with_reducible rfl
           | (go_at_call 25; refine (A.out _).mono ?_; rintro e w' ⟨rfl, hn⟩; exact ⟨rfl, HU.out.next hn⟩) | (go_at_call 35; refine (X.out _).mono ?_; rintro e w' ⟨rfl, hn⟩; exact ⟨rfl, HU.out.next hn⟩)
       simp only [Act.put, List.setIfInBounds_toArray, List.set_cons_zero, List.set_cons_succ]
       go_big_quiet_on))
  refine wpQuiet_nil ?_
  intro u hu
  clear HK
  have e0 := hu.e0
  have e1 := hu.e1
  have e2 := hu.e2
  have fz := hu.fz
  have d0 := hu.d0
  have d1 := hu.d1
  have d2 := hu.d2
  go_wp2
  exact bodyPost_ret (v := placeV 4 th 0) (by simp [results, Tryd.results21, go_sem, e0, e1, e2]) rfl ⟨rfl, belowSets hu.bl (by omega) _ _ _⟩
set_option maxHeartbeats 1000000 in
theorem ann_no (s t f l p th a : Int) (hA : ∀ W : World, Calls Tryd.prog 25 #[layV s t f l p, placeV 4 th 0] W fun e w' => e = .returned (.int .i64 a) ∧ Below W.heap.size W w')
    (hX : ∀ W : World, Calls Tryd.prog 35 #[layV s t f l p, .int .i64 a] W fun e w' => e = .returned (placeV 0 0 0) ∧ Below W.heap.size W w') (W : World) :
    Calls Tryd.prog 21 #[layV s t f l p, .int .i64 th] W fun e w' => e = .returned (placeV 0 0 0) ∧ Below W.heap.size W w' := by
  have HK := Lib.hid (KA.start W s t f l p 4 th 0)
  have A := Lib.hid hA
  have X := Lib.hid hX
  clear hA hX
  go_enter Tryd.func21, Tryd.ntmps21
  go_wp2
  refine wp_region_class (C := KA W.heap.size W W.heap.size s t f l p (W.heap.size + 2) 4 th 0 (W.heap.size + 1)) (by kernel_rfl) (by kernel_rfl) (HK.out) ?_
  repeat (first
    | go_big_quiet_skip
    | (go_big_quiet_want; go_big_quiet_op; go_big_quiet_on)
    | (go_big_quiet_want; go_big_quiet_op; refine ⟨_, fun _ _ => rfl, ?_⟩; go_big_quiet_on)
    | (go_big_quiet_want
       apply quiet_mk
       · intro u hu
         have c0 := hu.c0; have c1 := hu.c1; have c2 := hu.c2; have c3 := hu.c3; have c4 := hu.c4; have d0 := hu.d0; have d1 := hu.d1; have d2 := hu.d2
         have HU := Lib.hid hu
         clear hu
         go_simp
         first
           | with_reducible rfl
           | (go_at_call 25; refine (A.out _).mono ?_; rintro e w' ⟨rfl, hn⟩; exact ⟨rfl, HU.out.next hn⟩) | (go_at_call 35; refine (X.out _).mono ?_; rintro e w' ⟨rfl, hn⟩; exact ⟨rfl, HU.out.next hn⟩)
       simp only [Act.put, List.setIfInBounds_toArray, List.set_cons_zero, List.set_cons_succ]
       go_big_quiet_on))
  refine wpQuiet_nil ?_
  intro u hu
  clear HK
  have e0 := hu.e0
  have e1 := hu.e1
  have e2 := hu.e2
  have fz := hu.fz
  have d0 := hu.d0
  have d1 := hu.d1
  have d2 := hu.d2
  go_wp2
  exact bodyPost_ret (v := placeV 0 0 0) (by simp [results, Tryd.results21, go_sem, e0, e1, e2]) rfl ⟨rfl, belowSets hu.bl (by omega) _ _ _⟩
theorem ann_ok {s t f l p th : Int} (h : okC s t f l p) (h0 : 0 ≤ th) (h1 : th < t) (W : World) :
    Calls Tryd.prog 21 #[layV s t f l p, .int .i64 th] W fun e w' => e = .returned (placeV 4 th 0) ∧ Below W.heap.size W w' := by
  have ha : atL s t f 4 th 0 = 3 + th := by unfold atL; rw [if_neg (by omega), if_pos rfl, if_neg (by omega)]
  have hs : sizeL s t f = 3 + t + 2 * t + (s + 1) * (3 + 2 * f) := by unfold sizeL; rw [if_neg (by have := h.1; omega)]
  have hm : 0 ≤ (s + 1) * (3 + 2 * f) := Int.mul_nonneg (by have := h.1; omega) (by have := h.2.2.1; omega)
  have hw : whatL s t f (3 + th) = (4, th, 0) := by
    unfold whatL
    rw [if_neg (by omega), if_neg (by omega), if_pos (by omega)]
    simp; omega
  refine ann_yes s t f l p th (3 + th) (fun W => ?_) (fun W => ?_) W
  · have := at_any s t f l p 4 th 0 (.inl h) W; rw [ha] at this; exact this
  · have := what_any s t f l p (3 + th) h W; rw [hw] at this; exact this
theorem ann_out {s t f l p th : Int} (h : okC s t f l p) (h0 : th < 0 ∨ t ≤ th) (W : World) :
    Calls Tryd.prog 21 #[layV s t f l p, .int .i64 th] W fun e w' => e = .returned (placeV 0 0 0) ∧ Below W.heap.size W w' := by
  have ha : atL s t f 4 th 0 = -1 := by unfold atL; rw [if_neg (by omega), if_pos rfl, if_pos (by omega)]
  refine ann_no s t f l p th (-1) (fun W => ?_) (fun W => ?_) W
  · have := at_any s t f l p 4 th 0 (.inl h) W; rw [ha] at this; exact this
  · have := what_any s t f l p (-1) h W; rw [what_out (.inl (by omega))] at this; exact this
theorem ann_zero (th : Int) (W : World) :
    Calls Tryd.prog 21 #[layV 0 0 0 0 0, .int .i64 th] W fun e w' => e = .returned (placeV 0 0 0) ∧ Below W.heap.size W w' := by
  have ha : atL 0 0 0 4 th 0 = -1 := by unfold atL; rw [if_neg (by omega), if_pos rfl, if_pos (by omega)]
  refine ann_no 0 0 0 0 0 th (-1) (fun W => ?_) (fun W => ?_) W
  · have := at_any 0 0 0 0 0 4 th 0 (.inr ⟨rfl, rfl, rfl, rfl, rfl⟩) W; rw [ha] at this; exact this
  · exact whatZ_any (-1) W
/-- A layout's block, and an Enter's that is to be stored into. -/
structure KN (B : Nat) (w0 : World) (g : Nat) (s t f l p : Int) (r : Nat) (x : En) (W : World) : Prop extends K5 B w0 g s t f l p W where
  e : EC r x W
theorem KN.next {B : Nat} {w0 : World} {g : Nat} {s t f l p : Int} {r : Nat} {x : En} {W W' : World} (h : KN B w0 g s t f l p r x W) (hb : Below W.heap.size W W') : KN B w0 g s t f l p r x W' := ⟨h.toK5.next hb, h.e.next hb⟩
theorem KN.start (W : World) (s t f l p : Int) : KN W.heap.size W W.heap.size s t f l p (W.heap.size + 1) (En.none false) ((W.alloc (.cells #[.int .i64 s, .int .i64 t, .int .i64 f, .int .i64 l, .int .i64 p] 27)).alloc (rowV (En.none false))) :=
  ⟨⟨by simp, by simp, by simp, by simp, by simp, below2 _ _ _, by simp; omega⟩, ⟨by simp, by simp, by simp, by simp, by simp, by simp, by simp, by simp, by simp, by simp, fun i => by simp⟩⟩
set_option maxHeartbeats 1000000 in
theorem enew_yes (s t f l p th : Int) (sl : Bool) (hA : ∀ W : World, Calls Tryd.prog 21 #[layV s t f l p, .int .i64 th] W fun e w' => e = .returned (placeV 4 th 0) ∧ Below W.heap.size W w') (W : World) :
    Calls Tryd.prog 7 #[layV s t f l p, .int .i64 th, .bool sl] W fun e w' => e = .returned (entV ⟨s, t, f, l, p, th, 1, sl, 0, 0⟩) ∧ Below W.heap.size W w' := by
  have HK := Lib.hid (KN.start W s t f l p)
  have A := Lib.hid hA
  clear hA
  go_enter Tryd.func7, Tryd.ntmps7
  go_wp2_with (go_at_call 21; refine (A.out _).mono ?_; rintro e w1 ⟨rfl, hn⟩; have h1 := HK.out.next hn; clear hn; have c0 := h1.c0; have c1 := h1.c1; have c2 := h1.c2; have c3 := h1.c3; have c4 := h1.c4; have e0 := h1.e.c0; have e1 := h1.e.c1; have e2 := h1.e.c2; have e3 := h1.e.c3; have e4 := h1.e.c4; have e5 := h1.e.c5; have e6 := h1.e.c6; have e7 := h1.e.c7; have e8 := h1.e.c8; have e9 := h1.e.c9; have fz := h1.e.fz)
  exact bodyPost_ret (v := entV ⟨s, t, f, l, p, th, 1, sl, 0, 0⟩) (by simp [results, Tryd.results7, go_sem, e0, e1, e2, e3, e4, e5, e6, e7, e8, e9]) rfl ⟨rfl, belowE h1.bl (by omega) ⟨s, t, f, l, p, th, 1, sl, 0, 0⟩⟩
set_option maxHeartbeats 1000000 in
theorem enew_no (s t f l p th : Int) (sl : Bool) (hA : ∀ W : World, Calls Tryd.prog 21 #[layV s t f l p, .int .i64 th] W fun e w' => e = .returned (placeV 0 0 0) ∧ Below W.heap.size W w') (W : World) :
    Calls Tryd.prog 7 #[layV s t f l p, .int .i64 th, .bool sl] W fun e w' => e = .returned (entV (En.none false)) ∧ Below W.heap.size W w' := by
  have HK := Lib.hid (KN.start W s t f l p)
  have A := Lib.hid hA
  clear hA
  go_enter Tryd.func7, Tryd.ntmps7
  go_wp2_with (go_at_call 21; refine (A.out _).mono ?_; rintro e w1 ⟨rfl, hn⟩; have h1 := HK.out.next hn; clear hn; have c0 := h1.c0; have c1 := h1.c1; have c2 := h1.c2; have c3 := h1.c3; have c4 := h1.c4; have e0 := h1.e.c0; have e1 := h1.e.c1; have e2 := h1.e.c2; have e3 := h1.e.c3; have e4 := h1.e.c4; have e5 := h1.e.c5; have e6 := h1.e.c6; have e7 := h1.e.c7; have e8 := h1.e.c8; have e9 := h1.e.c9; have fz := h1.e.fz)
  exact bodyPost_ret (v := entV (En.none false)) (by simp [results, Tryd.results7, go_sem, e0, e1, e2, e3, e4, e5, e6, e7, e8, e9]) rfl ⟨rfl, belowE h1.bl (by omega) (En.none false)⟩
/-- Whatever the configuration and the thread: an Enter. -/
theorem enew_ex (s t f l p th : Int) (sl : Bool) (h : okL s t f l p) : ∃ x : En, ∀ W, Calls Tryd.prog 7 #[layV s t f l p, .int .i64 th, .bool sl] W fun e w' => e = .returned (entV x) ∧ Below W.heap.size W w' := by
  rcases h with h | ⟨rfl, rfl, rfl, rfl, rfl⟩
  · by_cases ht : 0 ≤ th ∧ th < t
    · exact ⟨_, fun W => enew_yes s t f l p th sl (fun W => ann_ok h ht.1 ht.2 W) W⟩
    · exact ⟨_, fun W => enew_no s t f l p th sl (fun W => ann_out h (by omega) W) W⟩
  · exact ⟨_, fun W => enew_no 0 0 0 0 0 th sl (fun W => ann_zero th W) W⟩
abbrev leaveZ : Value := .agg #[.int .i64 0, .int .i64 0, .int .i64 0, .int .i64 0, .int .i64 0, .int .i64 0, .int .i64 0, .int .i64 0, .bool false]
abbrev leaveRow : Obj := .cells #[.int .i64 0, .int .i64 0, .int .i64 0, .int .i64 0, .int .i64 0, .int .i64 0, .int .i64 0, .int .i64 0, .bool false] 53
theorem ldone_zero (W : World) : Calls Tryd.prog 18 #[leaveZ] W fun e w' => e = .returned (.bool true) ∧ Below W.heap.size W w' := by
  have hB := Lib.hid (below1 W)
  go_enter Tryd.func18, Tryd.ntmps18
  go_wp2
  go_ret
  exact ⟨rfl, hB.out _⟩
/-- A zero Leave's block, and that of an answer. -/
structure KL (B : Nat) (w0 : World) (g : Nat) (W : World) : Prop where
  c0 : W.cell? ⟨g, 0, none⟩ = some (.int .i64 0)
  c1 : W.cell? ⟨g, 1, none⟩ = some (.int .i64 0)
  c2 : W.cell? ⟨g, 2, none⟩ = some (.int .i64 0)
  c3 : W.cell? ⟨g, 3, none⟩ = some (.int .i64 0)
  c4 : W.cell? ⟨g, 4, none⟩ = some (.int .i64 0)
  c5 : W.cell? ⟨g, 5, none⟩ = some (.int .i64 0)
  c6 : W.cell? ⟨g, 6, none⟩ = some (.int .i64 0)
  c7 : W.cell? ⟨g, 7, none⟩ = some (.int .i64 0)
  c8 : W.cell? ⟨g, 8, none⟩ = some (.bool false)
  bl : Below B w0 W
  le : B ≤ W.heap.size
theorem KL.next {B : Nat} {w0 : World} {g : Nat} {W W' : World} (h : KL B w0 g W) (hb : Below W.heap.size W W') : KL B w0 g W' := by
  have c : ∀ j, W'.cell? ⟨g, j, none⟩ = W.cell? ⟨g, j, none⟩ := fun j => hb.cell (p := ⟨g, j, none⟩) (show g < W.heap.size from World.block_lt_of_cell? W _ h.c0)
  exact ⟨(c _).trans h.c0, (c _).trans h.c1, (c _).trans h.c2, (c _).trans h.c3, (c _).trans h.c4, (c _).trans h.c5, (c _).trans h.c6, (c _).trans h.c7, (c _).trans h.c8, h.bl.trans (hb.mono h.le), Nat.le_trans h.le hb.size⟩
theorem lwant_zero (W : World) : Calls Tryd.prog 19 #[leaveZ] W fun e w' => e = .returned (askV 0 0 0 0) ∧ Below W.heap.size W w' := by
  have L := Lib.hid ldone_zero
  have hB := Lib.hid (below2 W leaveRow (.cells #[.int .i64 0, .int .i64 0, .int .u64 0, .int .u64 0] 39))
  have R := Lib.hid (show ∀ W1 : World, Below ((W.alloc leaveRow).alloc (.cells #[.int .i64 0, .int .i64 0, .int .u64 0, .int .u64 0] 39)).heap.size ((W.alloc leaveRow).alloc (.cells #[.int .i64 0, .int .i64 0, .int .u64 0, .int .u64 0] 39)) W1 →
      W1.cell? ⟨W.heap.size + 1, 0, none⟩ = some (.int .i64 0) ∧ W1.cell? ⟨W.heap.size + 1, 1, none⟩ = some (.int .i64 0) ∧ W1.cell? ⟨W.heap.size + 1, 2, none⟩ = some (.int .u64 0) ∧ W1.cell? ⟨W.heap.size + 1, 3, none⟩ = some (.int .u64 0) ∧ ∀ i, W1.frozen? ⟨W.heap.size + 1, i, none⟩ = false from fun W1 hn =>
      ⟨(hn.cell (p := ⟨W.heap.size + 1, 0, none⟩) (by simp)).trans (by simp), (hn.cell (p := ⟨W.heap.size + 1, 1, none⟩) (by simp)).trans (by simp), (hn.cell (p := ⟨W.heap.size + 1, 2, none⟩) (by simp)).trans (by simp), (hn.cell (p := ⟨W.heap.size + 1, 3, none⟩) (by simp)).trans (by simp), fun i => (hn.frozen (p := ⟨W.heap.size + 1, i, none⟩) (by simp)).trans (by simp)⟩)
  go_enter Tryd.func19, Tryd.ntmps19
  go_wp2_with (go_at_call 18; refine (L.out _).mono ?_; rintro e w1 ⟨rfl, hn⟩; have hb1 := Lib.hid (hB.out.trans (hn.mono hB.out.size)); obtain ⟨r0, r1, r2, r3, rz⟩ := R.out _ hn; clear hn)
  exact bodyPost_ret (v := askV 0 0 0 0) (by simp [results, Tryd.results19, go_sem, r0, r1, r2, r3]) rfl ⟨rfl, belowSets4 hb1.out (by omega) _ _ _ _⟩
set_option maxHeartbeats 2000000 in
theorem awake17_any (W : World) (hG : GL W) :
    Calls Tryd.prog 6 #[] W fun e w' => e = .returned (.bool true) ∧ Below W.heap.size W w' := by
  have ok : okC 1 2 4 1 1 := by decide
  have N := Lib.hid (new_yes 1 2 4 1 1 W hG ok)
  have E := Lib.hid (enew_yes 1 2 4 1 1 1 false (fun W => ann_ok ok (by omega) (by omega) W))
  have T1 := Lib.hid (took_1y 1 2 4 1 1 1 0 0 2 (by omega) rfl)
  have T2 := Lib.hid (took_2 1 2 4 1 1 1 true 0 0 7 (by omega))
  have T3 := Lib.hid (took_3 1 2 4 1 1 1 true 7 0 9 (by omega))
  have T4 := Lib.hid (took_4 1 2 4 1 1 1 true 7 9 0 (by omega))
  have D := Lib.hid (done_yes 0 0 0 0 0 0 true 0 0)
  have Q : RowKit.Hid (∀ W, Calls Tryd.prog 11 #[.agg #[.int .i64 1, .int .i64 2, .int .i64 4, .int .i64 1, .int .i64 1, .int .i64 1, .int .i64 4, .bool true, .int .u64 7, .int .u64 9]] W fun e w' => e = .returned (askV 2 4 0 38654705695) ∧ Below W.heap.size W w') := Lib.hid (fun W => want_4 1 2 4 1 1 1 true 7 9 (by omega) (by omega) (.inl ok) W)
  clear ok hG
  go_enter Tryd.func6, Tryd.ntmps6
  have k1 : True := trivial
  have k2 : True := trivial
  have k3 : True := trivial
  have k4 : True := trivial
  go_wp2_with (first
    | (go_at_call 8; refine N.out.mono ?_; rintro e w1 ⟨rfl, h1⟩)
    | (go_at_call 7; refine (E.out _).mono ?_; rintro e w2 ⟨rfl, hn⟩; have h2 := h1.trans (hn.mono h1.size); clear hn h1)
    | (go_at_call 13; have _k := k1; refine (T1.out _).mono ?_; rintro e w3 ⟨rfl, hn⟩; clear k1; have h3 := h2.trans (hn.mono h2.size); clear hn h2)
    | (go_at_call 13; have _k := k2; refine (T2.out _).mono ?_; rintro e w4 ⟨rfl, hn⟩; clear k2; have h4 := h3.trans (hn.mono h3.size); clear hn h3)
    | (go_at_call 13; have _k := k3; refine (T3.out _).mono ?_; rintro e w5 ⟨rfl, hn⟩; clear k3; have h5 := h4.trans (hn.mono h4.size); clear hn h4)
    | (go_at_call 13; have _k := k4; refine (T4.out _).mono ?_; rintro e w6 ⟨rfl, hn⟩; clear k4; have e6 := (EC.alloc w5 ⟨1, 2, 4, 1, 1, 1, 4, true, 7, 9⟩).next hn; have h5b := h5.alloc h5.size (rowV ⟨1, 2, 4, 1, 1, 1, 4, true, 7, 9⟩); have h6 := h5b.trans (hn.mono h5b.size); clear hn h5 h5b)
    | (go_at_call 10; refine (D.out _).mono ?_; rintro e w7 ⟨rfl, hn⟩; have e7 := e6.next hn; have h7 := h6.trans (hn.mono h6.size); clear hn h6 e6; have c0 := e7.c0; have c1 := e7.c1; have c2 := e7.c2; have c3 := e7.c3; have c4 := e7.c4; have c5 := e7.c5; have c6 := e7.c6; have c7 := e7.c7; have c8 := e7.c8; have c9 := e7.c9)
    | (go_at_call 11; refine (Q.out _).mono ?_; rintro e w8 ⟨rfl, hn⟩; have h8 := h7.trans (hn.mono h7.size); clear hn h7))
  go_ret
  exact ⟨rfl, h8⟩
/-- Two Enters, each in a block of its own. -/
structure KV (w : World) (g1 : Nat) (x : En) (g2 : Nat) (y : En) (W : World) : Prop where
  e : EC g1 x W
  f : EC g2 y W
  bl : Below w.heap.size w W
  l1 : w.heap.size ≤ g1
  l2 : w.heap.size ≤ g2
  ne : g1 ≠ g2
theorem KV.next {w : World} {g1 : Nat} {x : En} {g2 : Nat} {y : En} {W W' : World} (h : KV w g1 x g2 y W) (hn : Below W.heap.size W W') : KV w g1 x g2 y W' := ⟨h.e.next hn, h.f.next hn, h.bl.trans (hn.mono h.bl.size), h.l1, h.l2, h.ne⟩
theorem KV.drew {w : World} {g1 : Nat} {x : En} {g2 : Nat} {y : En} {W : World} (h : KV w g1 x g2 y W) : KV w g1 x g2 y W.drew := ⟨h.e.drew, h.f.drew, h.bl.drew, h.l1, h.l2, h.ne⟩
theorem KV.store1 {w : World} {g1 : Nat} {x : En} {g2 : Nat} {y : En} {W : World} (h : KV w g1 x g2 y W) (z : En) : KV w g1 z g2 y (putE W g1 z) := ⟨h.e.store z, h.f.keep h.ne z, belowE h.bl h.l1 z, h.l1, h.l2, h.ne⟩
theorem KV.store2 {w : World} {g1 : Nat} {x : En} {g2 : Nat} {y : En} {W : World} (h : KV w g1 x g2 y W) (z : En) : KV w g1 x g2 z (putE W g2 z) := ⟨h.e.keep (fun e => h.ne e.symm) z, h.f.store z, belowE h.bl h.l2 z, h.l1, h.l2, h.ne⟩
theorem KV.start {w W : World} (h : Below w.heap.size w W) (x : En) : KV w W.heap.size x (W.heap.size + 1) x ((W.alloc (rowV x)).alloc (rowV x)) := by
  have hs := h.size
  have e1 := (EC.alloc W x).next ((Below.refl (W.alloc (rowV x)).heap.size (W.alloc (rowV x))).alloc (Nat.le_refl _) (rowV x))
  have e2 := EC.alloc (W.alloc (rowV x)) x
  rw [show (W.alloc (rowV x)).heap.size = W.heap.size + 1 by simp] at e2
  exact ⟨e1, e2, (h.alloc hs _).alloc (by simp; omega) _, hs, by omega, by omega⟩
structure KVX (w : World) (g1 : Nat) (x : En) (g2 : Nat) (y : En) (a : Addr) (v : Value) (W : World) : Prop extends KV w g1 x g2 y W where
  xc : W.cell? a = some v
  xb : a.block < w.heap.size
theorem KVX.next {w : World} {g1 : Nat} {x : En} {g2 : Nat} {y : En} {a : Addr} {v : Value} {W W' : World} (h : KVX w g1 x g2 y a v W) (hn : Below W.heap.size W W') : KVX w g1 x g2 y a v W' :=
  ⟨h.toKV.next hn, (hn.cell (Nat.lt_of_lt_of_le h.xb h.bl.size)).trans h.xc, h.xb⟩
theorem KVX.mk' {w : World} {g1 : Nat} {x : En} {g2 : Nat} {y : En} {a : Addr} {v : Value} {W : World} (h : KV w g1 x g2 y W) (hb : a.block < w.heap.size) (hx : w.cell? a = some v) : KVX w g1 x g2 y a v W.drew :=
  ⟨h.drew, (h.bl.drew.cell hb).trans hx, hb⟩
theorem KV.c0 {w : World} {g1 : Nat} {x : En} {g2 : Nat} {y : En} {W : World} (h : KV w g1 x g2 y W) : W.cell? ⟨g1, 0, none⟩ = some (.int .i64 x.s) := h.e.c0
theorem KV.d0 {w : World} {g1 : Nat} {x : En} {g2 : Nat} {y : En} {W : World} (h : KV w g1 x g2 y W) : W.cell? ⟨g2, 0, none⟩ = some (.int .i64 y.s) := h.f.c0
theorem KV.c1 {w : World} {g1 : Nat} {x : En} {g2 : Nat} {y : En} {W : World} (h : KV w g1 x g2 y W) : W.cell? ⟨g1, 1, none⟩ = some (.int .i64 x.t) := h.e.c1
theorem KV.d1 {w : World} {g1 : Nat} {x : En} {g2 : Nat} {y : En} {W : World} (h : KV w g1 x g2 y W) : W.cell? ⟨g2, 1, none⟩ = some (.int .i64 y.t) := h.f.c1
theorem KV.c2 {w : World} {g1 : Nat} {x : En} {g2 : Nat} {y : En} {W : World} (h : KV w g1 x g2 y W) : W.cell? ⟨g1, 2, none⟩ = some (.int .i64 x.f) := h.e.c2
theorem KV.d2 {w : World} {g1 : Nat} {x : En} {g2 : Nat} {y : En} {W : World} (h : KV w g1 x g2 y W) : W.cell? ⟨g2, 2, none⟩ = some (.int .i64 y.f) := h.f.c2
theorem KV.c3 {w : World} {g1 : Nat} {x : En} {g2 : Nat} {y : En} {W : World} (h : KV w g1 x g2 y W) : W.cell? ⟨g1, 3, none⟩ = some (.int .i64 x.l) := h.e.c3
theorem KV.d3 {w : World} {g1 : Nat} {x : En} {g2 : Nat} {y : En} {W : World} (h : KV w g1 x g2 y W) : W.cell? ⟨g2, 3, none⟩ = some (.int .i64 y.l) := h.f.c3
theorem KV.c4 {w : World} {g1 : Nat} {x : En} {g2 : Nat} {y : En} {W : World} (h : KV w g1 x g2 y W) : W.cell? ⟨g1, 4, none⟩ = some (.int .i64 x.p) := h.e.c4
theorem KV.d4 {w : World} {g1 : Nat} {x : En} {g2 : Nat} {y : En} {W : World} (h : KV w g1 x g2 y W) : W.cell? ⟨g2, 4, none⟩ = some (.int .i64 y.p) := h.f.c4
theorem KV.c5 {w : World} {g1 : Nat} {x : En} {g2 : Nat} {y : En} {W : World} (h : KV w g1 x g2 y W) : W.cell? ⟨g1, 5, none⟩ = some (.int .i64 x.th) := h.e.c5
theorem KV.d5 {w : World} {g1 : Nat} {x : En} {g2 : Nat} {y : En} {W : World} (h : KV w g1 x g2 y W) : W.cell? ⟨g2, 5, none⟩ = some (.int .i64 y.th) := h.f.c5
theorem KV.c6 {w : World} {g1 : Nat} {x : En} {g2 : Nat} {y : En} {W : World} (h : KV w g1 x g2 y W) : W.cell? ⟨g1, 6, none⟩ = some (.int .i64 x.st) := h.e.c6
theorem KV.d6 {w : World} {g1 : Nat} {x : En} {g2 : Nat} {y : En} {W : World} (h : KV w g1 x g2 y W) : W.cell? ⟨g2, 6, none⟩ = some (.int .i64 y.st) := h.f.c6
theorem KV.c7 {w : World} {g1 : Nat} {x : En} {g2 : Nat} {y : En} {W : World} (h : KV w g1 x g2 y W) : W.cell? ⟨g1, 7, none⟩ = some (.bool x.sl) := h.e.c7
theorem KV.d7 {w : World} {g1 : Nat} {x : En} {g2 : Nat} {y : En} {W : World} (h : KV w g1 x g2 y W) : W.cell? ⟨g2, 7, none⟩ = some (.bool y.sl) := h.f.c7
theorem KV.c8 {w : World} {g1 : Nat} {x : En} {g2 : Nat} {y : En} {W : World} (h : KV w g1 x g2 y W) : W.cell? ⟨g1, 8, none⟩ = some (.int .u64 x.ep) := h.e.c8
theorem KV.d8 {w : World} {g1 : Nat} {x : En} {g2 : Nat} {y : En} {W : World} (h : KV w g1 x g2 y W) : W.cell? ⟨g2, 8, none⟩ = some (.int .u64 y.ep) := h.f.c8
theorem KV.c9 {w : World} {g1 : Nat} {x : En} {g2 : Nat} {y : En} {W : World} (h : KV w g1 x g2 y W) : W.cell? ⟨g1, 9, none⟩ = some (.int .u64 x.ck) := h.e.c9
theorem KV.d9 {w : World} {g1 : Nat} {x : En} {g2 : Nat} {y : En} {W : World} (h : KV w g1 x g2 y W) : W.cell? ⟨g2, 9, none⟩ = some (.int .u64 y.ck) := h.f.c9
def En.run (zs : List Int) (x : En) : Nat → En
  | 0 => x
  | j + 1 => (En.run zs x j).took (zs.getD j 0)
end Go.Proofs.YtcafhdemmchcaaaDoor
