/- config.numbers, config.refused: a configuration that may be, and one that may not. -/
import Derived.Test.YthcmgagmbioofaaDoorTold
namespace Go.Proofs.YthcmgagmbioofaaDoor
set_option linter.unusedVariables false
open Go.RowKit Go.Extern.Stop Go.Stop Go.Extern

/-- The words of a configuration's numbers. -/
def wordB : Nat → ByteArray
  | 0 => ⟨#[115, 108, 111, 116, 115]⟩
  | 1 => ⟨#[116, 104, 114, 101, 97, 100, 115]⟩
  | 2 => ⟨#[102, 97, 110]⟩
  | 3 => ⟨#[108, 105, 109, 98, 111]⟩
  | _ => ⟨#[112, 97, 116, 105, 101, 110, 99, 101]⟩

/-- What config.bounds holds. -/
structure Bnd (W : World) : Prop where
  w0 : W.cell? ⟨0, 0, none⟩ = some (.string ⟨#[115, 108, 111, 116, 115]⟩)
  l0 : W.cell? ⟨0, 1, none⟩ = some (.int .i64 1)
  m0 : W.cell? ⟨0, 2, none⟩ = some (.int .i64 1000)
  w1 : W.cell? ⟨0, 3, none⟩ = some (.string ⟨#[116, 104, 114, 101, 97, 100, 115]⟩)
  l1 : W.cell? ⟨0, 4, none⟩ = some (.int .i64 1)
  m1 : W.cell? ⟨0, 5, none⟩ = some (.int .i64 64)
  w2 : W.cell? ⟨0, 6, none⟩ = some (.string ⟨#[102, 97, 110]⟩)
  l2 : W.cell? ⟨0, 7, none⟩ = some (.int .i64 4)
  m2 : W.cell? ⟨0, 8, none⟩ = some (.int .i64 64)
  w3 : W.cell? ⟨0, 9, none⟩ = some (.string ⟨#[108, 105, 109, 98, 111]⟩)
  l3 : W.cell? ⟨0, 10, none⟩ = some (.int .i64 1)
  m3 : W.cell? ⟨0, 11, none⟩ = some (.int .i64 64)
  w4 : W.cell? ⟨0, 12, none⟩ = some (.string ⟨#[112, 97, 116, 105, 101, 110, 99, 101]⟩)
  l4 : W.cell? ⟨0, 13, none⟩ = some (.int .i64 1)
  m4 : W.cell? ⟨0, 14, none⟩ = some (.int .i64 1048576)
theorem Bnd.next {W W' : World} (h : Bnd W) (hb : Below W.heap.size W W') : Bnd W' :=
  have c : ∀ i, W'.cell? ⟨0, i, none⟩ = W.cell? ⟨0, i, none⟩ := fun i => hb.cell (p := ⟨0, i, none⟩) (show 0 < W.heap.size from World.block_lt_of_cell? W _ h.w0)
  ⟨(c _).trans h.w0, (c _).trans h.l0, (c _).trans h.m0, (c _).trans h.w1, (c _).trans h.l1, (c _).trans h.m1, (c _).trans h.w2, (c _).trans h.l2, (c _).trans h.m2, (c _).trans h.w3, (c _).trans h.l3, (c _).trans h.m3, (c _).trans h.w4, (c _).trans h.l4, (c _).trans h.m4⟩
/-- The package-level variables, as they were laid. -/
structure GL (W : World) : Prop where
  et : errorT W
  bd : Bnd W
theorem GL.next {W W' : World} (h : GL W) (hb : Below W.heap.size W W') : GL W' := ⟨h.et.next hb, h.bd.next hb⟩
/-- A configuration's value. -/
abbrev cfgV (s t f l p : Int) : Value := .agg #[.int .i64 s, .int .i64 t, .int .i64 f, .int .i64 l, .int .i64 p]
def okC (s t f l p : Int) : Prop := (1 ≤ s ∧ s ≤ 1000) ∧ (1 ≤ t ∧ t ≤ 64) ∧ (4 ≤ f ∧ f ≤ 64) ∧ (1 ≤ l ∧ l ≤ 64) ∧ (1 ≤ p ∧ p ≤ 1048576)
instance (s t f l p : Int) : Decidable (okC s t f l p) := by unfold okC; infer_instance
theorem numbers_any (s t f l p : Int) (W : World) :
    Calls Tryd.prog 74 #[cfgV s t f l p] W fun e w' => e = .returned (cfgV s t f l p) ∧ Below W.heap.size W w' := by
  go_enter Tryd.func74, Tryd.ntmps74
  go_wp2
  exact bodyPost_ret (v := cfgV s t f l p) (by simp [results, Tryd.results74, go_sem]) rfl ⟨rfl, by repeat (first | exact Below.refl _ _ | exact Nat.le_refl _ | (refine Below.setCell ?_ (by simp) _) | (refine Below.alloc ?_ (by simp) _))⟩

/-- Rounds of refused's loop. -/
theorem bnd_at {W w1 : World} (h : Bnd W) (hb : Below W.heap.size W w1) : Bnd w1 := h.next hb

set_option maxHeartbeats 4000000 in
theorem refused_ok (s t f l p : Int) (W : World) (hG : Bnd W) (a0 : 1 ≤ s) (b0 : s ≤ 1000) (a1 : 1 ≤ t) (b1 : t ≤ 64) (a2 : 4 ≤ f) (b2 : f ≤ 64) (a3 : 1 ≤ l) (b3 : l ≤ 64) (a4 : 1 ≤ p) (b4 : p ≤ 1048576) :
    Calls Tryd.prog 62 #[cfgV s t f l p] W fun e w' => e = .returned (.nilIface) ∧ Below W.heap.size W w' := by
  have HG := Lib.hid hG
  clear hG
  have N := Lib.hid (numbers_any s t f l p)
  have i0 : ∀ w, (Instr.index 97 (cfgV s t f l p) (.int .i64 0)).run Tryd.prog w = .ok (.int .i64 s) w := fun _ => by kernel_rfl
  have i1 : ∀ w, (Instr.index 97 (cfgV s t f l p) (.int .i64 1)).run Tryd.prog w = .ok (.int .i64 t) w := fun _ => by kernel_rfl
  have i2 : ∀ w, (Instr.index 97 (cfgV s t f l p) (.int .i64 2)).run Tryd.prog w = .ok (.int .i64 f) w := fun _ => by kernel_rfl
  have i3 : ∀ w, (Instr.index 97 (cfgV s t f l p) (.int .i64 3)).run Tryd.prog w = .ok (.int .i64 l) w := fun _ => by kernel_rfl
  have i4 : ∀ w, (Instr.index 97 (cfgV s t f l p) (.int .i64 4)).run Tryd.prog w = .ok (.int .i64 p) w := fun _ => by kernel_rfl
  go_enter Tryd.func62, Tryd.ntmps62
  go_wp2_with (go_at_call 74; refine (N.out _).mono ?_; rintro e w1 ⟨rfl, hb⟩; have hb1 := Lib.hid (((Below.refl W.heap.size W).alloc (Nat.le_refl _) (.cells #[.int .i64 s, .int .i64 t, .int .i64 f, .int .i64 l, .int .i64 p] 23)).trans (hb.mono (by simp))); clear hb)
  obtain ⟨w0, l0, m0, w1', l1, m1, w2, l2, m2, w3, l3, m3, w4, l4, m4⟩ := HG.out.next hb1.out
  have hz : 0 < w1.heap.size := World.block_lt_of_cell? w1 _ w0
  refine wp_loop_rounds 6 ?_
  rw [rounds_succ]
  go_wp2
  rw [rounds_succ]
  go_wp2
  rw [rounds_succ]
  go_wp2
  rw [rounds_succ]
  go_wp2
  rw [rounds_succ]
  go_wp2
  rw [rounds_succ]
  go_wp2
  go_ret
  exact ⟨rfl, by repeat (first | exact hb1.out | exact Nat.le_refl _ | (refine Below.setCell ?_ (by have := hb1.out.size; simp; omega) _) | (refine Below.alloc ?_ (by have := hb1.out.size; simp; omega) _))⟩
set_option maxHeartbeats 4000000 in
theorem refused_0 (s t f l p : Int) (W : World) (hG : Bnd W) (hx : s < 1 ∨ 1000 < s) :
    Calls Tryd.prog 62 #[cfgV s t f l p] W fun e w' => e = .returned (.iface 93 (wrongV (wordB 0) 9)) ∧ Below W.heap.size W w' := by
  have HG := Lib.hid hG
  clear hG
  have N := Lib.hid (numbers_any s t f l p)
  have i0 : ∀ w, (Instr.index 97 (cfgV s t f l p) (.int .i64 0)).run Tryd.prog w = .ok (.int .i64 s) w := fun _ => by kernel_rfl
  have i1 : ∀ w, (Instr.index 97 (cfgV s t f l p) (.int .i64 1)).run Tryd.prog w = .ok (.int .i64 t) w := fun _ => by kernel_rfl
  have i2 : ∀ w, (Instr.index 97 (cfgV s t f l p) (.int .i64 2)).run Tryd.prog w = .ok (.int .i64 f) w := fun _ => by kernel_rfl
  have i3 : ∀ w, (Instr.index 97 (cfgV s t f l p) (.int .i64 3)).run Tryd.prog w = .ok (.int .i64 l) w := fun _ => by kernel_rfl
  have i4 : ∀ w, (Instr.index 97 (cfgV s t f l p) (.int .i64 4)).run Tryd.prog w = .ok (.int .i64 p) w := fun _ => by kernel_rfl
  rcases hx with hx | hx
  all_goals
    go_enter Tryd.func62, Tryd.ntmps62
    go_wp2_with (go_at_call 74; refine (N.out _).mono ?_; rintro e w1 ⟨rfl, hb⟩; have hb1 := Lib.hid (((Below.refl W.heap.size W).alloc (Nat.le_refl _) (.cells #[.int .i64 s, .int .i64 t, .int .i64 f, .int .i64 l, .int .i64 p] 23)).trans (hb.mono (by simp))); clear hb)
    obtain ⟨w0, l0, m0, w1', l1, m1, w2, l2, m2, w3, l3, m3, w4, l4, m4⟩ := HG.out.next hb1.out
    have hz : 0 < w1.heap.size := World.block_lt_of_cell? w1 _ w0
    refine wp_loop_rounds 1 ?_
    rw [rounds_succ]
    go_wp2
    go_ret
    exact ⟨rfl, by repeat (first | exact hb1.out | exact Nat.le_refl _ | (refine Below.setCell ?_ (by have := hb1.out.size; simp; omega) _) | (refine Below.alloc ?_ (by have := hb1.out.size; simp; omega) _))⟩
set_option maxHeartbeats 4000000 in
theorem refused_1 (s t f l p : Int) (W : World) (hG : Bnd W) (a0 : 1 ≤ s) (b0 : s ≤ 1000) (hx : t < 1 ∨ 64 < t) :
    Calls Tryd.prog 62 #[cfgV s t f l p] W fun e w' => e = .returned (.iface 93 (wrongV (wordB 1) 9)) ∧ Below W.heap.size W w' := by
  have HG := Lib.hid hG
  clear hG
  have N := Lib.hid (numbers_any s t f l p)
  have i0 : ∀ w, (Instr.index 97 (cfgV s t f l p) (.int .i64 0)).run Tryd.prog w = .ok (.int .i64 s) w := fun _ => by kernel_rfl
  have i1 : ∀ w, (Instr.index 97 (cfgV s t f l p) (.int .i64 1)).run Tryd.prog w = .ok (.int .i64 t) w := fun _ => by kernel_rfl
  have i2 : ∀ w, (Instr.index 97 (cfgV s t f l p) (.int .i64 2)).run Tryd.prog w = .ok (.int .i64 f) w := fun _ => by kernel_rfl
  have i3 : ∀ w, (Instr.index 97 (cfgV s t f l p) (.int .i64 3)).run Tryd.prog w = .ok (.int .i64 l) w := fun _ => by kernel_rfl
  have i4 : ∀ w, (Instr.index 97 (cfgV s t f l p) (.int .i64 4)).run Tryd.prog w = .ok (.int .i64 p) w := fun _ => by kernel_rfl
  rcases hx with hx | hx
  all_goals
    go_enter Tryd.func62, Tryd.ntmps62
    go_wp2_with (go_at_call 74; refine (N.out _).mono ?_; rintro e w1 ⟨rfl, hb⟩; have hb1 := Lib.hid (((Below.refl W.heap.size W).alloc (Nat.le_refl _) (.cells #[.int .i64 s, .int .i64 t, .int .i64 f, .int .i64 l, .int .i64 p] 23)).trans (hb.mono (by simp))); clear hb)
    obtain ⟨w0, l0, m0, w1', l1, m1, w2, l2, m2, w3, l3, m3, w4, l4, m4⟩ := HG.out.next hb1.out
    have hz : 0 < w1.heap.size := World.block_lt_of_cell? w1 _ w0
    refine wp_loop_rounds 2 ?_
    rw [rounds_succ]
    go_wp2
    rw [rounds_succ]
    go_wp2
    go_ret
    exact ⟨rfl, by repeat (first | exact hb1.out | exact Nat.le_refl _ | (refine Below.setCell ?_ (by have := hb1.out.size; simp; omega) _) | (refine Below.alloc ?_ (by have := hb1.out.size; simp; omega) _))⟩
set_option maxHeartbeats 4000000 in
theorem refused_2 (s t f l p : Int) (W : World) (hG : Bnd W) (a0 : 1 ≤ s) (b0 : s ≤ 1000) (a1 : 1 ≤ t) (b1 : t ≤ 64) (hx : f < 4 ∨ 64 < f) :
    Calls Tryd.prog 62 #[cfgV s t f l p] W fun e w' => e = .returned (.iface 93 (wrongV (wordB 2) 9)) ∧ Below W.heap.size W w' := by
  have HG := Lib.hid hG
  clear hG
  have N := Lib.hid (numbers_any s t f l p)
  have i0 : ∀ w, (Instr.index 97 (cfgV s t f l p) (.int .i64 0)).run Tryd.prog w = .ok (.int .i64 s) w := fun _ => by kernel_rfl
  have i1 : ∀ w, (Instr.index 97 (cfgV s t f l p) (.int .i64 1)).run Tryd.prog w = .ok (.int .i64 t) w := fun _ => by kernel_rfl
  have i2 : ∀ w, (Instr.index 97 (cfgV s t f l p) (.int .i64 2)).run Tryd.prog w = .ok (.int .i64 f) w := fun _ => by kernel_rfl
  have i3 : ∀ w, (Instr.index 97 (cfgV s t f l p) (.int .i64 3)).run Tryd.prog w = .ok (.int .i64 l) w := fun _ => by kernel_rfl
  have i4 : ∀ w, (Instr.index 97 (cfgV s t f l p) (.int .i64 4)).run Tryd.prog w = .ok (.int .i64 p) w := fun _ => by kernel_rfl
  rcases hx with hx | hx
  all_goals
    go_enter Tryd.func62, Tryd.ntmps62
    go_wp2_with (go_at_call 74; refine (N.out _).mono ?_; rintro e w1 ⟨rfl, hb⟩; have hb1 := Lib.hid (((Below.refl W.heap.size W).alloc (Nat.le_refl _) (.cells #[.int .i64 s, .int .i64 t, .int .i64 f, .int .i64 l, .int .i64 p] 23)).trans (hb.mono (by simp))); clear hb)
    obtain ⟨w0, l0, m0, w1', l1, m1, w2, l2, m2, w3, l3, m3, w4, l4, m4⟩ := HG.out.next hb1.out
    have hz : 0 < w1.heap.size := World.block_lt_of_cell? w1 _ w0
    refine wp_loop_rounds 3 ?_
    rw [rounds_succ]
    go_wp2
    rw [rounds_succ]
    go_wp2
    rw [rounds_succ]
    go_wp2
    go_ret
    exact ⟨rfl, by repeat (first | exact hb1.out | exact Nat.le_refl _ | (refine Below.setCell ?_ (by have := hb1.out.size; simp; omega) _) | (refine Below.alloc ?_ (by have := hb1.out.size; simp; omega) _))⟩
set_option maxHeartbeats 4000000 in
theorem refused_3 (s t f l p : Int) (W : World) (hG : Bnd W) (a0 : 1 ≤ s) (b0 : s ≤ 1000) (a1 : 1 ≤ t) (b1 : t ≤ 64) (a2 : 4 ≤ f) (b2 : f ≤ 64) (hx : l < 1 ∨ 64 < l) :
    Calls Tryd.prog 62 #[cfgV s t f l p] W fun e w' => e = .returned (.iface 93 (wrongV (wordB 3) 9)) ∧ Below W.heap.size W w' := by
  have HG := Lib.hid hG
  clear hG
  have N := Lib.hid (numbers_any s t f l p)
  have i0 : ∀ w, (Instr.index 97 (cfgV s t f l p) (.int .i64 0)).run Tryd.prog w = .ok (.int .i64 s) w := fun _ => by kernel_rfl
  have i1 : ∀ w, (Instr.index 97 (cfgV s t f l p) (.int .i64 1)).run Tryd.prog w = .ok (.int .i64 t) w := fun _ => by kernel_rfl
  have i2 : ∀ w, (Instr.index 97 (cfgV s t f l p) (.int .i64 2)).run Tryd.prog w = .ok (.int .i64 f) w := fun _ => by kernel_rfl
  have i3 : ∀ w, (Instr.index 97 (cfgV s t f l p) (.int .i64 3)).run Tryd.prog w = .ok (.int .i64 l) w := fun _ => by kernel_rfl
  have i4 : ∀ w, (Instr.index 97 (cfgV s t f l p) (.int .i64 4)).run Tryd.prog w = .ok (.int .i64 p) w := fun _ => by kernel_rfl
  rcases hx with hx | hx
  all_goals
    go_enter Tryd.func62, Tryd.ntmps62
    go_wp2_with (go_at_call 74; refine (N.out _).mono ?_; rintro e w1 ⟨rfl, hb⟩; have hb1 := Lib.hid (((Below.refl W.heap.size W).alloc (Nat.le_refl _) (.cells #[.int .i64 s, .int .i64 t, .int .i64 f, .int .i64 l, .int .i64 p] 23)).trans (hb.mono (by simp))); clear hb)
    obtain ⟨w0, l0, m0, w1', l1, m1, w2, l2, m2, w3, l3, m3, w4, l4, m4⟩ := HG.out.next hb1.out
    have hz : 0 < w1.heap.size := World.block_lt_of_cell? w1 _ w0
    refine wp_loop_rounds 4 ?_
    rw [rounds_succ]
    go_wp2
    rw [rounds_succ]
    go_wp2
    rw [rounds_succ]
    go_wp2
    rw [rounds_succ]
    go_wp2
    go_ret
    exact ⟨rfl, by repeat (first | exact hb1.out | exact Nat.le_refl _ | (refine Below.setCell ?_ (by have := hb1.out.size; simp; omega) _) | (refine Below.alloc ?_ (by have := hb1.out.size; simp; omega) _))⟩
set_option maxHeartbeats 4000000 in
theorem refused_4 (s t f l p : Int) (W : World) (hG : Bnd W) (a0 : 1 ≤ s) (b0 : s ≤ 1000) (a1 : 1 ≤ t) (b1 : t ≤ 64) (a2 : 4 ≤ f) (b2 : f ≤ 64) (a3 : 1 ≤ l) (b3 : l ≤ 64) (hx : p < 1 ∨ 1048576 < p) :
    Calls Tryd.prog 62 #[cfgV s t f l p] W fun e w' => e = .returned (.iface 93 (wrongV (wordB 4) 9)) ∧ Below W.heap.size W w' := by
  have HG := Lib.hid hG
  clear hG
  have N := Lib.hid (numbers_any s t f l p)
  have i0 : ∀ w, (Instr.index 97 (cfgV s t f l p) (.int .i64 0)).run Tryd.prog w = .ok (.int .i64 s) w := fun _ => by kernel_rfl
  have i1 : ∀ w, (Instr.index 97 (cfgV s t f l p) (.int .i64 1)).run Tryd.prog w = .ok (.int .i64 t) w := fun _ => by kernel_rfl
  have i2 : ∀ w, (Instr.index 97 (cfgV s t f l p) (.int .i64 2)).run Tryd.prog w = .ok (.int .i64 f) w := fun _ => by kernel_rfl
  have i3 : ∀ w, (Instr.index 97 (cfgV s t f l p) (.int .i64 3)).run Tryd.prog w = .ok (.int .i64 l) w := fun _ => by kernel_rfl
  have i4 : ∀ w, (Instr.index 97 (cfgV s t f l p) (.int .i64 4)).run Tryd.prog w = .ok (.int .i64 p) w := fun _ => by kernel_rfl
  rcases hx with hx | hx
  all_goals
    go_enter Tryd.func62, Tryd.ntmps62
    go_wp2_with (go_at_call 74; refine (N.out _).mono ?_; rintro e w1 ⟨rfl, hb⟩; have hb1 := Lib.hid (((Below.refl W.heap.size W).alloc (Nat.le_refl _) (.cells #[.int .i64 s, .int .i64 t, .int .i64 f, .int .i64 l, .int .i64 p] 23)).trans (hb.mono (by simp))); clear hb)
    obtain ⟨w0, l0, m0, w1', l1, m1, w2, l2, m2, w3, l3, m3, w4, l4, m4⟩ := HG.out.next hb1.out
    have hz : 0 < w1.heap.size := World.block_lt_of_cell? w1 _ w0
    refine wp_loop_rounds 5 ?_
    rw [rounds_succ]
    go_wp2
    rw [rounds_succ]
    go_wp2
    rw [rounds_succ]
    go_wp2
    rw [rounds_succ]
    go_wp2
    rw [rounds_succ]
    go_wp2
    go_ret
    exact ⟨rfl, by repeat (first | exact hb1.out | exact Nat.le_refl _ | (refine Below.setCell ?_ (by have := hb1.out.size; simp; omega) _) | (refine Below.alloc ?_ (by have := hb1.out.size; simp; omega) _))⟩
end Go.Proofs.YthcmgagmbioofaaDoor
