/- enter.Leave: Took, and what a thread that leaves goes through. -/
import Derived.Test.YtcafhdemmchcaaaDoorLeave
namespace Go.Proofs.YtcafhdemmchcaaaDoor
set_option linter.unusedVariables false
open Go.RowKit Go.Extern.Stop Go.Stop Go.Extern
/-- A Leave's block, and that of the result. -/
structure KT (B : Nat) (w0 : World) (g : Nat) (x : Lv) (r : Nat) (W : World) : Prop extends LC g x W where
  z : LC r Lv.zero W
  bl : Below B w0 W
  le : B ≤ W.heap.size
  sz : g < W.heap.size ∧ r < W.heap.size
theorem KT.next {B : Nat} {w0 : World} {g : Nat} {x : Lv} {r : Nat} {W W' : World} (h : KT B w0 g x r W) (hb : Below W.heap.size W W') : KT B w0 g x r W' :=
  ⟨h.toLC.next hb, h.z.next hb, h.bl.trans (hb.mono h.le), Nat.le_trans h.le hb.size, Nat.lt_of_lt_of_le h.sz.1 hb.size, Nat.lt_of_lt_of_le h.sz.2 hb.size⟩
theorem KT.start (W : World) (x : Lv) : KT W.heap.size W W.heap.size x (W.heap.size + 1) ((W.alloc (lvRow x)).alloc (lvRow Lv.zero)) :=
  ⟨⟨by simp, by simp, by simp, by simp, by simp, by simp, by simp, by simp, by simp, fun i => by simp⟩, ⟨by simp, by simp, by simp, by simp, by simp, by simp, by simp, by simp, by simp, fun i => by simp⟩, below2 _ _ _, by first | (simp; done) | (simp; omega), by first | (simp; done) | (simp; omega), by first | (simp; done) | (simp; omega)⟩
theorem LC.other {g r i : Nat} {y : Lv} {W : World} {v : Value} (h : LC r y W) (hne : g ≠ r) : LC r y (W.setCell ⟨g, i, none⟩ v) := by
  obtain ⟨c0, c1, c2, c3, c4, c5, c6, c7, c8, fz⟩ := h
  have hne2 : r ≠ g := fun e => hne e.symm
  exact ⟨by simp [go_sem, c0], by simp [go_sem, c1], by simp [go_sem, c2], by simp [go_sem, c3], by simp [go_sem, c4], by simp [go_sem, c5], by simp [go_sem, c6], by simp [go_sem, c7], by simp [go_sem, c8], fun j => by simp [go_sem, fz]⟩
set_option maxHeartbeats 1000000 in
theorem ltook_done (s t f l p : Int) (sl : Bool) (n : Nat) (W : World) : Calls Tryd.prog 20 #[.agg #[.int .i64 s, .int .i64 t, .int .i64 f, .int .i64 l, .int .i64 p, .int .i64 0, .int .i64 0, .int .i64 0, .bool sl], .int .u64 n] W fun e w' => e = .returned (.agg #[.int .i64 s, .int .i64 t, .int .i64 f, .int .i64 l, .int .i64 p, .int .i64 0, .int .i64 0, .int .i64 0, .bool sl]) ∧ Below W.heap.size W w' := by
  have HK := Lib.hid (KT.start W ⟨s, t, f, l, p, 0, 0, 0, sl⟩)
  have D := Lib.hid (ldone_yes s t f l p sl)
  go_enter Tryd.func20, Tryd.ntmps20
  go_wp2_with (go_at_call 18; refine (D.out _).mono ?_; rintro e w1 ⟨rfl, hn⟩; have h1 := HK.out.next hn; clear hn; obtain ⟨hs1, hs2⟩ := h1.sz; have c0 := h1.c0; have c1 := h1.c1; have c2 := h1.c2; have c3 := h1.c3; have c4 := h1.c4; have c5 := h1.c5; have c6 := h1.c6; have c7 := h1.c7; have c8 := h1.c8; have z0 := h1.z.c0; have z1 := h1.z.c1; have z2 := h1.z.c2; have z3 := h1.z.c3; have z4 := h1.z.c4; have z5 := h1.z.c5; have z6 := h1.z.c6; have z7 := h1.z.c7; have z8 := h1.z.c8; have fz := h1.z.fz; have fx := h1.fz)
  exact bodyPost_ret (v := .agg #[.int .i64 s, .int .i64 t, .int .i64 f, .int .i64 l, .int .i64 p, .int .i64 0, .int .i64 0, .int .i64 0, .bool sl]) (by simp [results, Tryd.results20, go_sem, z0, z1, z2, z3, z4, z5, z6, z7, z8]) rfl ⟨rfl, belowL h1.bl (by omega) (⟨s, t, f, l, p, 0, 0, 0, sl⟩ : Lv)⟩
set_option maxHeartbeats 1000000 in
theorem ltook_4n (s t f l p o : Int) (n : Nat) (W : World) : Calls Tryd.prog 20 #[.agg #[.int .i64 s, .int .i64 t, .int .i64 f, .int .i64 l, .int .i64 p, .int .i64 4, .int .i64 o, .int .i64 0, .bool false], .int .u64 n] W fun e w' => e = .returned (.agg #[.int .i64 0, .int .i64 0, .int .i64 0, .int .i64 0, .int .i64 0, .int .i64 0, .int .i64 0, .int .i64 0, .bool false]) ∧ Below W.heap.size W w' := by
  have HK := Lib.hid (KT.start W ⟨s, t, f, l, p, 4, o, 0, false⟩)
  have D := Lib.hid (ldone_no s t f l p 4 o 0 false rfl)
  go_enter Tryd.func20, Tryd.ntmps20
  go_wp2_with (go_at_call 18; refine (D.out _).mono ?_; rintro e w1 ⟨rfl, hn⟩; have h1 := HK.out.next hn; clear hn; obtain ⟨hs1, hs2⟩ := h1.sz; have c0 := h1.c0; have c1 := h1.c1; have c2 := h1.c2; have c3 := h1.c3; have c4 := h1.c4; have c5 := h1.c5; have c6 := h1.c6; have c7 := h1.c7; have c8 := h1.c8; have z0 := h1.z.c0; have z1 := h1.z.c1; have z2 := h1.z.c2; have z3 := h1.z.c3; have z4 := h1.z.c4; have z5 := h1.z.c5; have z6 := h1.z.c6; have z7 := h1.z.c7; have z8 := h1.z.c8; have fz := h1.z.fz; have fx := h1.fz)
  have b := belowL h1.bl (g := W.heap.size + 1) (by omega) Lv.zero
  have L : LC (W.heap.size + 1) Lv.zero ((putL w1 (W.heap.size + 1) Lv.zero).alloc (.cells #[.int .i64 5, .int .i64 o, .int .i64 0] 51)) := (h1.z.store Lv.zero).next (below1 _ _)
  have B : Below W.heap.size W ((putL w1 (W.heap.size + 1) Lv.zero).alloc (.cells #[.int .i64 5, .int .i64 o, .int .i64 0] 51)) := b.alloc b.size _
  have f0 := L.c0; have f1 := L.c1; have f2 := L.c2; have f3 := L.c3; have f4 := L.c4; have f5 := L.c5; have f6 := L.c6; have f7 := L.c7; have f8 := L.c8
  simp only [putL] at f0 f1 f2 f3 f4 f5 f6 f7 f8
  clear b L c0 c1 c2 c3 c4 c5 c6 c7 c8 z0 z1 z2 z3 z4 z5 z6 z7 z8
  exact bodyPost_ret (v := .agg #[.int .i64 0, .int .i64 0, .int .i64 0, .int .i64 0, .int .i64 0, .int .i64 0, .int .i64 0, .int .i64 0, .bool false]) (by simp [results, Tryd.results20, go_sem, f0, f1, f2, f3, f4, f5, f6, f7, f8]) rfl ⟨rfl, B⟩
set_option maxHeartbeats 1000000 in
theorem ltook_4y (s t f l p o : Int) (n : Nat) (W : World) : Calls Tryd.prog 20 #[.agg #[.int .i64 s, .int .i64 t, .int .i64 f, .int .i64 l, .int .i64 p, .int .i64 4, .int .i64 o, .int .i64 0, .bool true], .int .u64 n] W fun e w' => e = .returned (.agg #[.int .i64 s, .int .i64 t, .int .i64 f, .int .i64 l, .int .i64 p, .int .i64 5, .int .i64 o, .int .i64 0, .bool true]) ∧ Below W.heap.size W w' := by
  have HK := Lib.hid (KT.start W ⟨s, t, f, l, p, 4, o, 0, true⟩)
  have D := Lib.hid (ldone_no s t f l p 4 o 0 true rfl)
  go_enter Tryd.func20, Tryd.ntmps20
  go_wp2_with (go_at_call 18; refine (D.out _).mono ?_; rintro e w1 ⟨rfl, hn⟩; have h1 := HK.out.next hn; clear hn; obtain ⟨hs1, hs2⟩ := h1.sz; have c0 := h1.c0; have c1 := h1.c1; have c2 := h1.c2; have c3 := h1.c3; have c4 := h1.c4; have c5 := h1.c5; have c6 := h1.c6; have c7 := h1.c7; have c8 := h1.c8; have z0 := h1.z.c0; have z1 := h1.z.c1; have z2 := h1.z.c2; have z3 := h1.z.c3; have z4 := h1.z.c4; have z5 := h1.z.c5; have z6 := h1.z.c6; have z7 := h1.z.c7; have z8 := h1.z.c8; have fz := h1.z.fz; have fx := h1.fz)
  have b := belowL (((h1.bl.setCell (p := ⟨W.heap.size, 5, none⟩) (Nat.le_refl _) (.int .i64 5)).setCell (p := ⟨W.heap.size, 6, none⟩) (Nat.le_refl _) (.int .i64 o)).setCell (p := ⟨W.heap.size, 7, none⟩) (Nat.le_refl _) (.int .i64 0)) (g := W.heap.size + 1) (by omega) (⟨s, t, f, l, p, 5, o, 0, true⟩ : Lv)
  have L : LC (W.heap.size + 1) (⟨s, t, f, l, p, 5, o, 0, true⟩ : Lv) ((putL (((w1.setCell ⟨W.heap.size, 5, none⟩ (.int .i64 5)).setCell ⟨W.heap.size, 6, none⟩ (.int .i64 o)).setCell ⟨W.heap.size, 7, none⟩ (.int .i64 0)) (W.heap.size + 1) (⟨s, t, f, l, p, 5, o, 0, true⟩ : Lv)).alloc (.cells #[.int .i64 5, .int .i64 o, .int .i64 0] 51)) := ((((h1.z.other (g := W.heap.size) (i := 5) (v := .int .i64 5) (by omega)).other (g := W.heap.size) (i := 6) (v := .int .i64 o) (by omega)).other (g := W.heap.size) (i := 7) (v := .int .i64 0) (by omega)).store (⟨s, t, f, l, p, 5, o, 0, true⟩ : Lv)).next (below1 _ _)
  have B : Below W.heap.size W ((putL (((w1.setCell ⟨W.heap.size, 5, none⟩ (.int .i64 5)).setCell ⟨W.heap.size, 6, none⟩ (.int .i64 o)).setCell ⟨W.heap.size, 7, none⟩ (.int .i64 0)) (W.heap.size + 1) (⟨s, t, f, l, p, 5, o, 0, true⟩ : Lv)).alloc (.cells #[.int .i64 5, .int .i64 o, .int .i64 0] 51)) := b.alloc b.size _
  have f0 := L.c0; have f1 := L.c1; have f2 := L.c2; have f3 := L.c3; have f4 := L.c4; have f5 := L.c5; have f6 := L.c6; have f7 := L.c7; have f8 := L.c8
  simp only [putL] at f0 f1 f2 f3 f4 f5 f6 f7 f8
  clear b L c0 c1 c2 c3 c4 c5 c6 c7 c8 z0 z1 z2 z3 z4 z5 z6 z7 z8
  exact bodyPost_ret (v := .agg #[.int .i64 s, .int .i64 t, .int .i64 f, .int .i64 l, .int .i64 p, .int .i64 5, .int .i64 o, .int .i64 0, .bool true]) (by simp [results, Tryd.results20, go_sem, f0, f1, f2, f3, f4, f5, f6, f7, f8]) rfl ⟨rfl, B⟩
set_option maxHeartbeats 1000000 in
theorem ltook_50 (s t f l p o : Int) (n : Nat) (W : World) : Calls Tryd.prog 20 #[.agg #[.int .i64 s, .int .i64 t, .int .i64 f, .int .i64 l, .int .i64 p, .int .i64 5, .int .i64 o, .int .i64 0, .bool true], .int .u64 n] W fun e w' => e = .returned (.agg #[.int .i64 s, .int .i64 t, .int .i64 f, .int .i64 l, .int .i64 p, .int .i64 5, .int .i64 o, .int .i64 1, .bool true]) ∧ Below W.heap.size W w' := by
  have HK := Lib.hid (KT.start W ⟨s, t, f, l, p, 5, o, 0, true⟩)
  have D := Lib.hid (ldone_no s t f l p 5 o 0 true rfl)
  go_enter Tryd.func20, Tryd.ntmps20
  go_wp2_with (go_at_call 18; refine (D.out _).mono ?_; rintro e w1 ⟨rfl, hn⟩; have h1 := HK.out.next hn; clear hn; obtain ⟨hs1, hs2⟩ := h1.sz; have c0 := h1.c0; have c1 := h1.c1; have c2 := h1.c2; have c3 := h1.c3; have c4 := h1.c4; have c5 := h1.c5; have c6 := h1.c6; have c7 := h1.c7; have c8 := h1.c8; have z0 := h1.z.c0; have z1 := h1.z.c1; have z2 := h1.z.c2; have z3 := h1.z.c3; have z4 := h1.z.c4; have z5 := h1.z.c5; have z6 := h1.z.c6; have z7 := h1.z.c7; have z8 := h1.z.c8; have fz := h1.z.fz; have fx := h1.fz)
  have b := belowL (((h1.bl.setCell (p := ⟨W.heap.size, 5, none⟩) (Nat.le_refl _) (.int .i64 5)).setCell (p := ⟨W.heap.size, 6, none⟩) (Nat.le_refl _) (.int .i64 o)).setCell (p := ⟨W.heap.size, 7, none⟩) (Nat.le_refl _) (.int .i64 1)) (g := W.heap.size + 1) (by omega) (⟨s, t, f, l, p, 5, o, 1, true⟩ : Lv)
  have L : LC (W.heap.size + 1) (⟨s, t, f, l, p, 5, o, 1, true⟩ : Lv) ((putL (((w1.setCell ⟨W.heap.size, 5, none⟩ (.int .i64 5)).setCell ⟨W.heap.size, 6, none⟩ (.int .i64 o)).setCell ⟨W.heap.size, 7, none⟩ (.int .i64 1)) (W.heap.size + 1) (⟨s, t, f, l, p, 5, o, 1, true⟩ : Lv)).alloc (.cells #[.int .i64 5, .int .i64 o, .int .i64 1] 51)) := ((((h1.z.other (g := W.heap.size) (i := 5) (v := .int .i64 5) (by omega)).other (g := W.heap.size) (i := 6) (v := .int .i64 o) (by omega)).other (g := W.heap.size) (i := 7) (v := .int .i64 1) (by omega)).store (⟨s, t, f, l, p, 5, o, 1, true⟩ : Lv)).next (below1 _ _)
  have B : Below W.heap.size W ((putL (((w1.setCell ⟨W.heap.size, 5, none⟩ (.int .i64 5)).setCell ⟨W.heap.size, 6, none⟩ (.int .i64 o)).setCell ⟨W.heap.size, 7, none⟩ (.int .i64 1)) (W.heap.size + 1) (⟨s, t, f, l, p, 5, o, 1, true⟩ : Lv)).alloc (.cells #[.int .i64 5, .int .i64 o, .int .i64 1] 51)) := b.alloc b.size _
  have f0 := L.c0; have f1 := L.c1; have f2 := L.c2; have f3 := L.c3; have f4 := L.c4; have f5 := L.c5; have f6 := L.c6; have f7 := L.c7; have f8 := L.c8
  simp only [putL] at f0 f1 f2 f3 f4 f5 f6 f7 f8
  clear b L c0 c1 c2 c3 c4 c5 c6 c7 c8 z0 z1 z2 z3 z4 z5 z6 z7 z8
  exact bodyPost_ret (v := .agg #[.int .i64 s, .int .i64 t, .int .i64 f, .int .i64 l, .int .i64 p, .int .i64 5, .int .i64 o, .int .i64 1, .bool true]) (by simp [results, Tryd.results20, go_sem, f0, f1, f2, f3, f4, f5, f6, f7, f8]) rfl ⟨rfl, B⟩
set_option maxHeartbeats 1000000 in
theorem ltook_51 (s t f l p o : Int) (n : Nat) (W : World) : Calls Tryd.prog 20 #[.agg #[.int .i64 s, .int .i64 t, .int .i64 f, .int .i64 l, .int .i64 p, .int .i64 5, .int .i64 o, .int .i64 1, .bool true], .int .u64 n] W fun e w' => e = .returned (.agg #[.int .i64 0, .int .i64 0, .int .i64 0, .int .i64 0, .int .i64 0, .int .i64 0, .int .i64 0, .int .i64 0, .bool false]) ∧ Below W.heap.size W w' := by
  have HK := Lib.hid (KT.start W ⟨s, t, f, l, p, 5, o, 1, true⟩)
  have D := Lib.hid (ldone_no s t f l p 5 o 1 true rfl)
  go_enter Tryd.func20, Tryd.ntmps20
  go_wp2_with (go_at_call 18; refine (D.out _).mono ?_; rintro e w1 ⟨rfl, hn⟩; have h1 := HK.out.next hn; clear hn; obtain ⟨hs1, hs2⟩ := h1.sz; have c0 := h1.c0; have c1 := h1.c1; have c2 := h1.c2; have c3 := h1.c3; have c4 := h1.c4; have c5 := h1.c5; have c6 := h1.c6; have c7 := h1.c7; have c8 := h1.c8; have z0 := h1.z.c0; have z1 := h1.z.c1; have z2 := h1.z.c2; have z3 := h1.z.c3; have z4 := h1.z.c4; have z5 := h1.z.c5; have z6 := h1.z.c6; have z7 := h1.z.c7; have z8 := h1.z.c8; have fz := h1.z.fz; have fx := h1.fz)
  have b := belowL h1.bl (g := W.heap.size + 1) (by omega) Lv.zero
  have L : LC (W.heap.size + 1) Lv.zero ((putL w1 (W.heap.size + 1) Lv.zero).alloc (.cells #[.int .i64 5, .int .i64 o, .int .i64 2] 51)) := (h1.z.store Lv.zero).next (below1 _ _)
  have B : Below W.heap.size W ((putL w1 (W.heap.size + 1) Lv.zero).alloc (.cells #[.int .i64 5, .int .i64 o, .int .i64 2] 51)) := b.alloc b.size _
  have f0 := L.c0; have f1 := L.c1; have f2 := L.c2; have f3 := L.c3; have f4 := L.c4; have f5 := L.c5; have f6 := L.c6; have f7 := L.c7; have f8 := L.c8
  simp only [putL] at f0 f1 f2 f3 f4 f5 f6 f7 f8
  clear b L c0 c1 c2 c3 c4 c5 c6 c7 c8 z0 z1 z2 z3 z4 z5 z6 z7 z8
  exact bodyPost_ret (v := .agg #[.int .i64 0, .int .i64 0, .int .i64 0, .int .i64 0, .int .i64 0, .int .i64 0, .int .i64 0, .int .i64 0, .bool false]) (by simp [results, Tryd.results20, go_sem, f0, f1, f2, f3, f4, f5, f6, f7, f8]) rfl ⟨rfl, B⟩
end Go.Proofs.YtcafhdemmchcaaaDoor
