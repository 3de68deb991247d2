/- advance.Advance: Want, New. -/
import Derived.Test.YthcmgagmbioofaaDoorAdv2
namespace Go.Proofs.YthcmgagmbioofaaDoor
set_option linter.unusedVariables false
open Go.RowKit Go.Extern.Stop Go.Stop Go.Extern
/-- An Advance's block, and that of an answer. -/
structure KQ (B : Nat) (w0 : World) (g : Nat) (x : Ad) (r : Nat) (W : World) : Prop where
  ac : AC g x W
  r0 : W.cell? ⟨r, 0, none⟩ = some (.int .i64 0)
  r1 : W.cell? ⟨r, 1, none⟩ = some (.int .i64 0)
  r2 : W.cell? ⟨r, 2, none⟩ = some (.int .u64 0)
  r3 : W.cell? ⟨r, 3, none⟩ = some (.int .u64 0)
  rz : ∀ i, W.frozen? ⟨r, i, none⟩ = false
  bl : Below B w0 W
  le : B ≤ r
theorem KQ.next {B : Nat} {w0 : World} {g : Nat} {x : Ad} {r : Nat} {W W' : World} (h : KQ B w0 g x r W) (hb : Below W.heap.size W W') : KQ B w0 g x r W' := by
  have hr : r < W.heap.size := World.block_lt_of_cell? W _ h.r0
  have c : ∀ j, W'.cell? ⟨r, j, none⟩ = W.cell? ⟨r, j, none⟩ := fun j => hb.cell (p := ⟨r, j, none⟩) hr
  exact ⟨h.ac.next hb, (c _).trans h.r0, (c _).trans h.r1, (c _).trans h.r2, (c _).trans h.r3, fun i => (hb.frozen (p := ⟨r, i, none⟩) hr).trans (h.rz i), h.bl.trans (hb.mono (Nat.le_trans h.le (Nat.le_of_lt hr))), h.le⟩
theorem KQ.drew {B : Nat} {w0 : World} {g : Nat} {x : Ad} {r : Nat} {W : World} (h : KQ B w0 g x r W) : KQ B w0 g x r W.drew := ⟨h.ac.drew, h.r0, h.r1, h.r2, h.r3, h.rz, h.bl.drew, h.le⟩
theorem KQ.start (W : World) (x : Ad) : KQ W.heap.size W W.heap.size x (W.heap.size + 1) ((W.alloc (adRow x)).alloc (.cells #[.int .i64 0, .int .i64 0, .int .u64 0, .int .u64 0] 40)) := by
  have e1 := (AC.alloc W x).next (below1 (W.alloc (adRow x)) (.cells #[.int .i64 0, .int .i64 0, .int .u64 0, .int .u64 0] 40))
  exact ⟨e1, by simp, by simp, by simp, by simp, fun i => by simp, below2 _ _ _, by omega⟩
theorem belowSets4 {B : Nat} {a w : World} (h : Below B a w) {g : Nat} (hg : B ≤ g) (u v x y : Value) : Below B a ((((w.setCell ⟨g, 0, none⟩ u).setCell ⟨g, 1, none⟩ v).setCell ⟨g, 2, none⟩ x).setCell ⟨g, 3, none⟩ y) := (((h.setCell hg u).setCell hg v).setCell hg x).setCell hg y
theorem KQ.c0 {B : Nat} {w0 : World} {g : Nat} {x : Ad} {r : Nat} {W : World} (h : KQ B w0 g x r W) : W.cell? ⟨g, 0, none⟩ = some (.int .i64 x.s) := h.ac.c0
theorem KQ.c1 {B : Nat} {w0 : World} {g : Nat} {x : Ad} {r : Nat} {W : World} (h : KQ B w0 g x r W) : W.cell? ⟨g, 1, none⟩ = some (.int .i64 x.t) := h.ac.c1
theorem KQ.c2 {B : Nat} {w0 : World} {g : Nat} {x : Ad} {r : Nat} {W : World} (h : KQ B w0 g x r W) : W.cell? ⟨g, 2, none⟩ = some (.int .i64 x.f) := h.ac.c2
theorem KQ.c3 {B : Nat} {w0 : World} {g : Nat} {x : Ad} {r : Nat} {W : World} (h : KQ B w0 g x r W) : W.cell? ⟨g, 3, none⟩ = some (.int .i64 x.l) := h.ac.c3
theorem KQ.c4 {B : Nat} {w0 : World} {g : Nat} {x : Ad} {r : Nat} {W : World} (h : KQ B w0 g x r W) : W.cell? ⟨g, 4, none⟩ = some (.int .i64 x.p) := h.ac.c4
theorem KQ.c5 {B : Nat} {w0 : World} {g : Nat} {x : Ad} {r : Nat} {W : World} (h : KQ B w0 g x r W) : W.cell? ⟨g, 5, none⟩ = some (.int .i64 x.th) := h.ac.c5
theorem KQ.c6 {B : Nat} {w0 : World} {g : Nat} {x : Ad} {r : Nat} {W : World} (h : KQ B w0 g x r W) : W.cell? ⟨g, 6, none⟩ = some (.int .i64 x.st) := h.ac.c6
theorem KQ.c7 {B : Nat} {w0 : World} {g : Nat} {x : Ad} {r : Nat} {W : World} (h : KQ B w0 g x r W) : W.cell? ⟨g, 7, none⟩ = some (.int .i64 x.oc) := h.ac.c7
theorem KQ.c8 {B : Nat} {w0 : World} {g : Nat} {x : Ad} {r : Nat} {W : World} (h : KQ B w0 g x r W) : W.cell? ⟨g, 8, none⟩ = some (.int .u64 x.ep) := h.ac.c8
theorem KQ.c9 {B : Nat} {w0 : World} {g : Nat} {x : Ad} {r : Nat} {W : World} (h : KQ B w0 g x r W) : W.cell? ⟨g, 9, none⟩ = some (.int .i64 x.ot) := h.ac.c9
theorem KQ.c10 {B : Nat} {w0 : World} {g : Nat} {x : Ad} {r : Nat} {W : World} (h : KQ B w0 g x r W) : W.cell? ⟨g, 10, none⟩ = some (.int .u64 x.wd) := h.ac.c10
theorem KQ.c11 {B : Nat} {w0 : World} {g : Nat} {x : Ad} {r : Nat} {W : World} (h : KQ B w0 g x r W) : W.cell? ⟨g, 11, none⟩ = some (.int .u64 x.ev) := h.ac.c11
theorem KQ.c12 {B : Nat} {w0 : World} {g : Nat} {x : Ad} {r : Nat} {W : World} (h : KQ B w0 g x r W) : W.cell? ⟨g, 12, none⟩ = some (.int .u64 x.ju) := h.ac.c12
set_option maxHeartbeats 800000 in
theorem awant_0 (s t f l p th oc ep ot wd ev ju : Int) (h : okL s t f l p) (W : World) :
    Calls Tryd.prog 11 #[(adV ⟨s, t, f, l, p, th, 0, oc, ep, ot, wd, ev, ju⟩)] W fun e w' => e = .returned (askV 0 0 0 0) ∧ Below W.heap.size W w' := by
  have HK := Lib.hid (KQ.start W ⟨s, t, f, l, p, th, 0, oc, ep, ot, wd, ev, ju⟩)
  have A1 := Lib.hid (at_any s t f l p 1 0 0 h)
  have A2 := Lib.hid (announce_any s t f l p ot h)
  generalize atL s t f 1 0 0 = u1 at A1 ⊢
  generalize atL s t f 4 ot 0 = u2 at A2 ⊢
  clear h
  go_enter Tryd.func11, Tryd.ntmps11
  go_wp2_with (first | (go_at_call 31; (with_reducible refine (A1.out _).mono ?_); rintro e w1 ⟨rfl, hn⟩; have h1 := HK.out.next hn; clear hn; have c0 := h1.c0; have c1 := h1.c1; have c2 := h1.c2; have c3 := h1.c3; have c4 := h1.c4; have c5 := h1.c5; have c6 := h1.c6; have c7 := h1.c7; have c8 := h1.c8; have c9 := h1.c9; have c10 := h1.c10; have c11 := h1.c11; have c12 := h1.c12; have r0 := h1.r0; have r1 := h1.r1; have r2 := h1.r2; have r3 := h1.r3; have rz := h1.rz) | (go_at_call 28; (with_reducible refine (A2.out _).mono ?_); rintro e w2 ⟨rfl, hn⟩; have h2 := h1.next hn; clear hn c0 c1 c2 c3 c4 c5 c6 c7 c8 c9 c10 c11 c12 r0 r1 r2 r3 rz; have c0 := h2.c0; have c1 := h2.c1; have c2 := h2.c2; have c3 := h2.c3; have c4 := h2.c4; have c5 := h2.c5; have c6 := h2.c6; have c7 := h2.c7; have c8 := h2.c8; have c9 := h2.c9; have c10 := h2.c10; have c11 := h2.c11; have c12 := h2.c12; have r0 := h2.r0; have r1 := h2.r1; have r2 := h2.r2; have r3 := h2.r3; have rz := h2.rz))
  exact bodyPost_ret (v := askV 0 0 0 0) (by simp [results, Tryd.results11, go_sem, r0, r1, r2, r3]) rfl ⟨rfl, belowSets4 h2.bl h2.le _ _ _ _⟩
set_option maxHeartbeats 800000 in
theorem awant_1 (s t f l p th oc ep ot wd ev ju : Int) (h : okL s t f l p) (W : World) :
    Calls Tryd.prog 11 #[(adV ⟨s, t, f, l, p, th, 1, oc, ep, ot, wd, ev, ju⟩)] W fun e w' => e = .returned (askV 1 (atL s t f 1 0 0) 0 0) ∧ Below W.heap.size W w' := by
  have HK := Lib.hid (KQ.start W ⟨s, t, f, l, p, th, 1, oc, ep, ot, wd, ev, ju⟩)
  have A1 := Lib.hid (at_any s t f l p 1 0 0 h)
  have A2 := Lib.hid (announce_any s t f l p ot h)
  generalize atL s t f 1 0 0 = u1 at A1 ⊢
  generalize atL s t f 4 ot 0 = u2 at A2 ⊢
  clear h
  go_enter Tryd.func11, Tryd.ntmps11
  go_wp2_with (first | (go_at_call 31; (with_reducible refine (A1.out _).mono ?_); rintro e w1 ⟨rfl, hn⟩; have h1 := HK.out.next hn; clear hn; have c0 := h1.c0; have c1 := h1.c1; have c2 := h1.c2; have c3 := h1.c3; have c4 := h1.c4; have c5 := h1.c5; have c6 := h1.c6; have c7 := h1.c7; have c8 := h1.c8; have c9 := h1.c9; have c10 := h1.c10; have c11 := h1.c11; have c12 := h1.c12; have r0 := h1.r0; have r1 := h1.r1; have r2 := h1.r2; have r3 := h1.r3; have rz := h1.rz) | (go_at_call 28; (with_reducible refine (A2.out _).mono ?_); rintro e w2 ⟨rfl, hn⟩; have h2 := h1.next hn; clear hn c0 c1 c2 c3 c4 c5 c6 c7 c8 c9 c10 c11 c12 r0 r1 r2 r3 rz; have c0 := h2.c0; have c1 := h2.c1; have c2 := h2.c2; have c3 := h2.c3; have c4 := h2.c4; have c5 := h2.c5; have c6 := h2.c6; have c7 := h2.c7; have c8 := h2.c8; have c9 := h2.c9; have c10 := h2.c10; have c11 := h2.c11; have c12 := h2.c12; have r0 := h2.r0; have r1 := h2.r1; have r2 := h2.r2; have r3 := h2.r3; have rz := h2.rz))
  exact bodyPost_ret (v := askV 1 u1 0 0) (by simp [results, Tryd.results11, go_sem, r0, r1, r2, r3]) rfl ⟨rfl, belowSets4 h2.bl h2.le _ _ _ _⟩
set_option maxHeartbeats 800000 in
theorem awant_2 (s t f l p th oc ep ot wd ev ju : Int) (h : okL s t f l p) (W : World) :
    Calls Tryd.prog 11 #[(adV ⟨s, t, f, l, p, th, 2, oc, ep, ot, wd, ev, ju⟩)] W fun e w' => e = .returned (askV 1 (atL s t f 4 ot 0) 0 0) ∧ Below W.heap.size W w' := by
  have HK := Lib.hid (KQ.start W ⟨s, t, f, l, p, th, 2, oc, ep, ot, wd, ev, ju⟩)
  have A1 := Lib.hid (at_any s t f l p 1 0 0 h)
  have A2 := Lib.hid (announce_any s t f l p ot h)
  generalize atL s t f 1 0 0 = u1 at A1 ⊢
  generalize atL s t f 4 ot 0 = u2 at A2 ⊢
  clear h
  go_enter Tryd.func11, Tryd.ntmps11
  go_wp2_with (first | (go_at_call 31; (with_reducible refine (A1.out _).mono ?_); rintro e w1 ⟨rfl, hn⟩; have h1 := HK.out.next hn; clear hn; have c0 := h1.c0; have c1 := h1.c1; have c2 := h1.c2; have c3 := h1.c3; have c4 := h1.c4; have c5 := h1.c5; have c6 := h1.c6; have c7 := h1.c7; have c8 := h1.c8; have c9 := h1.c9; have c10 := h1.c10; have c11 := h1.c11; have c12 := h1.c12; have r0 := h1.r0; have r1 := h1.r1; have r2 := h1.r2; have r3 := h1.r3; have rz := h1.rz) | (go_at_call 28; (with_reducible refine (A2.out _).mono ?_); rintro e w2 ⟨rfl, hn⟩; have h2 := h1.next hn; clear hn c0 c1 c2 c3 c4 c5 c6 c7 c8 c9 c10 c11 c12 r0 r1 r2 r3 rz; have c0 := h2.c0; have c1 := h2.c1; have c2 := h2.c2; have c3 := h2.c3; have c4 := h2.c4; have c5 := h2.c5; have c6 := h2.c6; have c7 := h2.c7; have c8 := h2.c8; have c9 := h2.c9; have c10 := h2.c10; have c11 := h2.c11; have c12 := h2.c12; have r0 := h2.r0; have r1 := h2.r1; have r2 := h2.r2; have r3 := h2.r3; have rz := h2.rz))
  exact bodyPost_ret (v := askV 1 u2 0 0) (by simp [results, Tryd.results11, go_sem, r0, r1, r2, r3]) rfl ⟨rfl, belowSets4 h2.bl h2.le _ _ _ _⟩
set_option maxHeartbeats 800000 in
theorem awant_3 (s t f l p th oc ep ot wd ev ju : Int) (h : okL s t f l p) (W : World) :
    Calls Tryd.prog 11 #[(adV ⟨s, t, f, l, p, th, 3, oc, ep, ot, wd, ev, ju⟩)] W fun e w' => e = .returned (askV 1 (atL s t f 2 0 0) 0 0) ∧ Below W.heap.size W w' := by
  have HK := Lib.hid (KQ.start W ⟨s, t, f, l, p, th, 3, oc, ep, ot, wd, ev, ju⟩)
  have A1 := Lib.hid (at_any s t f l p 1 0 0 h)
  have A2 := Lib.hid (announce_any s t f l p ot h)
  have A3 := Lib.hid (at_any s t f l p 2 0 0 h)
  generalize atL s t f 2 0 0 = u3 at A3 ⊢
  generalize atL s t f 1 0 0 = u1 at A1 ⊢
  generalize atL s t f 4 ot 0 = u2 at A2 ⊢
  clear h
  go_enter Tryd.func11, Tryd.ntmps11
  go_wp2_with (first | (go_at_call 31; (with_reducible refine (A1.out _).mono ?_); rintro e w1 ⟨rfl, hn⟩; have h1 := HK.out.next hn; clear hn; have c0 := h1.c0; have c1 := h1.c1; have c2 := h1.c2; have c3 := h1.c3; have c4 := h1.c4; have c5 := h1.c5; have c6 := h1.c6; have c7 := h1.c7; have c8 := h1.c8; have c9 := h1.c9; have c10 := h1.c10; have c11 := h1.c11; have c12 := h1.c12; have r0 := h1.r0; have r1 := h1.r1; have r2 := h1.r2; have r3 := h1.r3; have rz := h1.rz) | (go_at_call 28; (with_reducible refine (A2.out _).mono ?_); rintro e w2 ⟨rfl, hn⟩; have h2 := h1.next hn; clear hn c0 c1 c2 c3 c4 c5 c6 c7 c8 c9 c10 c11 c12 r0 r1 r2 r3 rz; have c0 := h2.c0; have c1 := h2.c1; have c2 := h2.c2; have c3 := h2.c3; have c4 := h2.c4; have c5 := h2.c5; have c6 := h2.c6; have c7 := h2.c7; have c8 := h2.c8; have c9 := h2.c9; have c10 := h2.c10; have c11 := h2.c11; have c12 := h2.c12; have r0 := h2.r0; have r1 := h2.r1; have r2 := h2.r2; have r3 := h2.r3; have rz := h2.rz) | (go_at_call 31; (with_reducible refine (A3.out _).mono ?_); rintro e w3 ⟨rfl, hn⟩; have h3 := h2.next hn; clear hn c0 c1 c2 c3 c4 c5 c6 c7 c8 c9 c10 c11 c12 r0 r1 r2 r3 rz; have c0 := h3.c0; have c1 := h3.c1; have c2 := h3.c2; have c3 := h3.c3; have c4 := h3.c4; have c5 := h3.c5; have c6 := h3.c6; have c7 := h3.c7; have c8 := h3.c8; have c9 := h3.c9; have c10 := h3.c10; have c11 := h3.c11; have c12 := h3.c12; have r0 := h3.r0; have r1 := h3.r1; have r2 := h3.r2; have r3 := h3.r3; have rz := h3.rz))
  exact bodyPost_ret (v := askV 1 u3 0 0) (by simp [results, Tryd.results11, go_sem, r0, r1, r2, r3]) rfl ⟨rfl, belowSets4 h3.bl h3.le _ _ _ _⟩
set_option maxHeartbeats 800000 in
theorem awant_4 (s t f l p th oc ep ot ev ju : Int) (wd : Nat) (hwd : wd < 18446744073709551616) (h : okL s t f l p) (W : World) :
    Calls Tryd.prog 11 #[(adV ⟨s, t, f, l, p, th, 4, oc, ep, ot, (wd : Nat), ev, ju⟩)] W fun e w' => e = .returned (askV 3 (atL s t f 4 ot 0) (wd : Nat) (wd - wd % 4 + 2 : Nat)) ∧ Below W.heap.size W w' := by
  have HK := Lib.hid (KQ.start W ⟨s, t, f, l, p, th, 4, oc, ep, ot, (wd : Nat), ev, ju⟩)
  have A1 := Lib.hid (at_any s t f l p 1 0 0 h)
  have A2 := Lib.hid (announce_any s t f l p ot h)
  have M := Lib.hid (aevict_any wd hwd)
  generalize wd - wd % 4 + 2 = v4 at M ⊢
  generalize atL s t f 1 0 0 = u1 at A1 ⊢
  generalize atL s t f 4 ot 0 = u2 at A2 ⊢
  clear h
  go_enter Tryd.func11, Tryd.ntmps11
  go_wp2_with (first | (go_at_call 31; (with_reducible refine (A1.out _).mono ?_); rintro e w1 ⟨rfl, hn⟩; have h1 := HK.out.next hn; clear hn; have c0 := h1.c0; have c1 := h1.c1; have c2 := h1.c2; have c3 := h1.c3; have c4 := h1.c4; have c5 := h1.c5; have c6 := h1.c6; have c7 := h1.c7; have c8 := h1.c8; have c9 := h1.c9; have c10 := h1.c10; have c11 := h1.c11; have c12 := h1.c12; have r0 := h1.r0; have r1 := h1.r1; have r2 := h1.r2; have r3 := h1.r3; have rz := h1.rz) | (go_at_call 28; (with_reducible refine (A2.out _).mono ?_); rintro e w2 ⟨rfl, hn⟩; have h2 := h1.next hn; clear hn c0 c1 c2 c3 c4 c5 c6 c7 c8 c9 c10 c11 c12 r0 r1 r2 r3 rz; have c0 := h2.c0; have c1 := h2.c1; have c2 := h2.c2; have c3 := h2.c3; have c4 := h2.c4; have c5 := h2.c5; have c6 := h2.c6; have c7 := h2.c7; have c8 := h2.c8; have c9 := h2.c9; have c10 := h2.c10; have c11 := h2.c11; have c12 := h2.c12; have r0 := h2.r0; have r1 := h2.r1; have r2 := h2.r2; have r3 := h2.r3; have rz := h2.rz))
  have HD := Lib.hid h2.drew
  clear c0 c1 c2 c3 c4 c5 c6 c7 c8 c9 c10 c11 c12 r0 r1 r2 r3 rz h1 h2
  refine wp_region_class_tail (C := KQ W.heap.size W W.heap.size ⟨s, t, f, l, p, th, 4, oc, ep, ot, (wd : Nat), ev, ju⟩ (W.heap.size + 1)) 7 (by kernel_rfl) (by kernel_rfl) (HD.out) ?_
  simp only [List.take_succ_cons, List.take_zero, List.drop_succ_cons, List.drop_zero]
  repeat (first
    | go_big_quiet_skip
    | (go_big_quiet_want; go_big_quiet_op; go_big_quiet_on)
    | (go_big_quiet_want; go_big_quiet_op; refine ⟨_, fun _ _ => rfl, ?_⟩; go_big_quiet_on)
    | (go_big_quiet_want
       apply quiet_mk
       · intro u hu
         have c0 := hu.c0; have c1 := hu.c1; have c2 := hu.c2; have c3 := hu.c3; have c4 := hu.c4; have c5 := hu.c5; have c6 := hu.c6; have c7 := hu.c7; have c8 := hu.c8; have c9 := hu.c9; have c10 := hu.c10; have c11 := hu.c11; have c12 := hu.c12
         have HU := Lib.hid hu
         clear hu
         go_simp
         first
           | with_reducible rfl
           | (go_at_call 32; refine (M.out _).mono ?_; rintro e w' ⟨rfl, rfl⟩; exact ⟨rfl, HU.out⟩)
       simp only [Act.put, List.setIfInBounds_toArray, List.set_cons_zero, List.set_cons_succ]
       go_big_quiet_on))
  refine wpQuiet_nil ?_
  intro u hu
  have r0 := hu.r0; have r1 := hu.r1; have r2 := hu.r2; have r3 := hu.r3; have rz := hu.rz
  go_wp2
  exact bodyPost_ret (v := askV 3 u2 (wd : Nat) (v4 : Nat)) (by simp [results, Tryd.results11, go_sem, r0, r1, r2, r3]) rfl ⟨rfl, belowSets4 hu.bl hu.le _ _ _ _⟩
set_option maxHeartbeats 800000 in
theorem awant_5 (s t f l p th oc ep ot wd ev ju : Int) (h : okL s t f l p) (W : World) :
    Calls Tryd.prog 11 #[(adV ⟨s, t, f, l, p, th, 5, oc, ep, ot, wd, ev, ju⟩)] W fun e w' => e = .returned (askV 3 (atL s t f 1 0 0) ep (IntKind.u64.wrap (ep + 1))) ∧ Below W.heap.size W w' := by
  have HK := Lib.hid (KQ.start W ⟨s, t, f, l, p, th, 5, oc, ep, ot, wd, ev, ju⟩)
  have A1 := Lib.hid (at_any s t f l p 1 0 0 h)
  have A2 := Lib.hid (announce_any s t f l p ot h)
  generalize atL s t f 1 0 0 = u1 at A1 ⊢
  generalize atL s t f 4 ot 0 = u2 at A2 ⊢
  clear h
  go_enter Tryd.func11, Tryd.ntmps11
  go_wp2_with (first | (go_at_call 31; (with_reducible refine (A1.out _).mono ?_); rintro e w1 ⟨rfl, hn⟩; have h1 := HK.out.next hn; clear hn; have c0 := h1.c0; have c1 := h1.c1; have c2 := h1.c2; have c3 := h1.c3; have c4 := h1.c4; have c5 := h1.c5; have c6 := h1.c6; have c7 := h1.c7; have c8 := h1.c8; have c9 := h1.c9; have c10 := h1.c10; have c11 := h1.c11; have c12 := h1.c12; have r0 := h1.r0; have r1 := h1.r1; have r2 := h1.r2; have r3 := h1.r3; have rz := h1.rz) | (go_at_call 28; (with_reducible refine (A2.out _).mono ?_); rintro e w2 ⟨rfl, hn⟩; have h2 := h1.next hn; clear hn c0 c1 c2 c3 c4 c5 c6 c7 c8 c9 c10 c11 c12 r0 r1 r2 r3 rz; have c0 := h2.c0; have c1 := h2.c1; have c2 := h2.c2; have c3 := h2.c3; have c4 := h2.c4; have c5 := h2.c5; have c6 := h2.c6; have c7 := h2.c7; have c8 := h2.c8; have c9 := h2.c9; have c10 := h2.c10; have c11 := h2.c11; have c12 := h2.c12; have r0 := h2.r0; have r1 := h2.r1; have r2 := h2.r2; have r3 := h2.r3; have rz := h2.rz))
  exact bodyPost_ret (v := askV 3 u1 ep (IntKind.u64.wrap (ep + 1))) (by simp [results, Tryd.results11, go_sem, r0, r1, r2, r3]) rfl ⟨rfl, belowSets4 h2.bl h2.le _ _ _ _⟩
structure KN (B : Nat) (w0 : World) (g : Nat) (s t f l p : Int) (r : Nat) (x : Ad) (W : World) : Prop extends K5 B w0 g s t f l p W where
  e : AC r x W
theorem KN.next {B : Nat} {w0 : World} {g : Nat} {s t f l p : Int} {r : Nat} {x : Ad} {W W' : World} (h : KN B w0 g s t f l p r x W) (hb : Below W.heap.size W W') : KN B w0 g s t f l p r x W' := ⟨h.toK5.next hb, h.e.next hb⟩
theorem KN.start (W : World) (s t f l p : Int) : KN W.heap.size W W.heap.size s t f l p (W.heap.size + 1) Ad.none ((W.alloc (.cells #[.int .i64 s, .int .i64 t, .int .i64 f, .int .i64 l, .int .i64 p] 27)).alloc (adRow Ad.none)) := by
  have e2 := AC.alloc (W.alloc (.cells #[.int .i64 s, .int .i64 t, .int .i64 f, .int .i64 l, .int .i64 p] 27)) Ad.none
  rw [show (W.alloc (.cells #[.int .i64 s, .int .i64 t, .int .i64 f, .int .i64 l, .int .i64 p] 27)).heap.size = W.heap.size + 1 by simp] at e2
  exact ⟨⟨by simp, by simp, by simp, by simp, by simp, below2 _ _ _, by simp; omega⟩, e2⟩
set_option maxHeartbeats 400000 in
theorem anew_yes (s t f l p th : Int) (h : okL s t f l p) (h0 : 0 ≤ th) (h1 : th < t) (W : World) :
    Calls Tryd.prog 7 #[layV s t f l p, .int .i64 th] W fun e w' => e = .returned (adV ⟨s, t, f, l, p, th, 1, 0, 0, 0, 0, 0, 0⟩) ∧ Below W.heap.size W w' := by
  have HK := Lib.hid (KN.start W s t f l p)
  have A := Lib.hid (announce_any s t f l p th h)
  have ha : atL s t f 4 th 0 = 3 + th := by unfold atL; rw [if_neg (by omega), if_pos rfl, if_neg (by omega)]
  rw [ha] at A
  have h9 : 0 ≤ 3 + th := by omega
  have h8 : ¬ (3 + th < 0) := by omega
  generalize 3 + th = u at A h9 h8
  clear ha h0 h1
  clear h
  go_enter Tryd.func7, Tryd.ntmps7
  go_wp2_with (go_at_call 28; refine (A.out _).mono ?_; rintro e w1 ⟨rfl, hn⟩; have h1 := HK.out.next hn; clear hn; have c0 := h1.c0; have c1 := h1.c1; have c2 := h1.c2; have c3 := h1.c3; have c4 := h1.c4; have e0 := h1.e.c0; have e1 := h1.e.c1; have e2 := h1.e.c2; have e3 := h1.e.c3; have e4 := h1.e.c4; have e5 := h1.e.c5; have e6 := h1.e.c6; have e7 := h1.e.c7; have e8 := h1.e.c8; have e9 := h1.e.c9; have e10 := h1.e.c10; have e11 := h1.e.c11; have e12 := h1.e.c12; have fz := h1.e.fz)
  exact bodyPost_ret (v := adV ⟨s, t, f, l, p, th, 1, 0, 0, 0, 0, 0, 0⟩) (by simp [results, Tryd.results7, go_sem, e0, e1, e2, e3, e4, e5, e6, e7, e8, e9, e10, e11, e12]) rfl ⟨rfl, belowA h1.bl (by omega) ⟨s, t, f, l, p, th, 1, 0, 0, 0, 0, 0, 0⟩⟩
set_option maxHeartbeats 400000 in
theorem anew_no (s t f l p th : Int) (h : okL s t f l p) (h0 : th < 0 ∨ t ≤ th) (W : World) :
    Calls Tryd.prog 7 #[layV s t f l p, .int .i64 th] W fun e w' => e = .returned (adV Ad.none) ∧ Below W.heap.size W w' := by
  have HK := Lib.hid (KN.start W s t f l p)
  have A := Lib.hid (announce_any s t f l p th h)
  have ha : atL s t f 4 th 0 = -1 := by unfold atL; rw [if_neg (by omega), if_pos rfl, if_pos (by omega)]
  rw [ha] at A
  clear ha h0
  clear h
  go_enter Tryd.func7, Tryd.ntmps7
  go_wp2_with (go_at_call 28; refine (A.out _).mono ?_; rintro e w1 ⟨rfl, hn⟩; have h1 := HK.out.next hn; clear hn; have c0 := h1.c0; have c1 := h1.c1; have c2 := h1.c2; have c3 := h1.c3; have c4 := h1.c4; have e0 := h1.e.c0; have e1 := h1.e.c1; have e2 := h1.e.c2; have e3 := h1.e.c3; have e4 := h1.e.c4; have e5 := h1.e.c5; have e6 := h1.e.c6; have e7 := h1.e.c7; have e8 := h1.e.c8; have e9 := h1.e.c9; have e10 := h1.e.c10; have e11 := h1.e.c11; have e12 := h1.e.c12; have fz := h1.e.fz)
  exact bodyPost_ret (v := adV Ad.none) (by simp [results, Tryd.results7, go_sem, e0, e1, e2, e3, e4, e5, e6, e7, e8, e9, e10, e11, e12]) rfl ⟨rfl, belowA h1.bl (by omega) Ad.none⟩
end Go.Proofs.YthcmgagmbioofaaDoor
