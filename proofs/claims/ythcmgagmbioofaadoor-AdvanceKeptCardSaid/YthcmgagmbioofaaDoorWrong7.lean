/- gleaningref07.Numbers, Wrong: the place of the first number that is out of its bounds. -/
import Derived.Test.YthcmgagmbioofaaDoorConf2
namespace Go.Proofs.YthcmgagmbioofaaDoor
set_option linter.unusedVariables false
open Go.RowKit Go.Extern.Stop Go.Stop Go.Extern
theorem numbers7_any (s t f l p : Int) (W : World) :
    Calls Tryd.prog 40 #[cfgV s t f l p] W fun e w' => e = .returned (.slice (some ⟨W.heap.size + 1, 0, none⟩) 5 5) ∧ w' = (W.alloc (.cells #[.int .i64 s, .int .i64 t, .int .i64 f, .int .i64 l, .int .i64 p] 23)).alloc (.cells #[.int .i64 s, .int .i64 t, .int .i64 f, .int .i64 l, .int .i64 p] 3) := by
  go_enter Tryd.func40, Tryd.ntmps40
  go_wp2
  go_ret
  exact ⟨rfl, rfl⟩

theorem below_drewN7 {B : Nat} {a w : World} (h : Below B a w) (n : Nat) : Below B a (w.drewN n) := ⟨h.os, h.tape, h.output, h.size, h.block⟩
set_option maxHeartbeats 2000000 in
theorem rwrong_ok (s t f l p : Int) (W : World) (a0 : 1 ≤ s) (b0 : s ≤ 1000) (a1 : 1 ≤ t) (b1 : t ≤ 64) (a2 : 4 ≤ f) (b2 : f ≤ 64) (a3 : 1 ≤ l) (b3 : l ≤ 64) (a4 : 1 ≤ p) (b4 : p ≤ 1048576) :
    Calls Tryd.prog 19 #[cfgV s t f l p] W fun e w' => e = .returned (.int .i64 (-1)) ∧ Below W.heap.size W w' := by
  have N := Lib.hid (numbers7_any s t f l p)
  have D0l : Hid (decide (s < 1) = false) := Lib.hid (by simp; omega)
  have D0h : Hid (decide (1000 < s) = false) := Lib.hid (by simp; omega)
  have D1l : Hid (decide (t < 1) = false) := Lib.hid (by simp; omega)
  have D1h : Hid (decide (64 < t) = false) := Lib.hid (by simp; omega)
  have D2l : Hid (decide (f < 4) = false) := Lib.hid (by simp; omega)
  have D2h : Hid (decide (64 < f) = false) := Lib.hid (by simp; omega)
  have D3l : Hid (decide (l < 1) = false) := Lib.hid (by simp; omega)
  have D3h : Hid (decide (64 < l) = false) := Lib.hid (by simp; omega)
  have D4l : Hid (decide (p < 1) = false) := Lib.hid (by simp; omega)
  have D4h : Hid (decide (1048576 < p) = false) := Lib.hid (by simp; omega)
  clear a0 b0 a1 b1 a2 b2 a3 b3 a4 b4
  go_enter Tryd.func19, Tryd.ntmps19
  go_wp2_with (go_at_call 40; refine (N.out _).mono ?_; rintro e w1 ⟨rfl, rfl⟩)
  refine wp_loop_rounds 6 ?_
  rw [rounds_succ]
  go_wp2
  have d0l := D0l.out
  have d0h := D0h.out
  go_quiet (fail)
  clear d0l d0h
  go_wp2
  rw [rounds_succ]
  go_wp2
  have d1l := D1l.out
  have d1h := D1h.out
  go_quiet (fail)
  clear d1l d1h
  go_wp2
  rw [rounds_succ]
  go_wp2
  have d2l := D2l.out
  have d2h := D2h.out
  go_quiet (fail)
  clear d2l d2h
  go_wp2
  rw [rounds_succ]
  go_wp2
  have d3l := D3l.out
  have d3h := D3h.out
  go_quiet (fail)
  clear d3l d3h
  go_wp2
  rw [rounds_succ]
  go_wp2
  have d4l := D4l.out
  have d4h := D4h.out
  go_quiet (fail)
  clear d4l d4h
  go_wp2
  rw [rounds_succ]
  go_wp2
  go_ret
  exact ⟨rfl, by repeat (first | exact Below.refl _ _ | exact Nat.le_refl _ | (refine below_drewN7 ?_ _) | (refine Below.alloc ?_ (by first | (simp; done) | (simp; omega)) _))⟩
set_option maxHeartbeats 2000000 in
theorem rwrong_0 (s t f l p : Int) (W : World) (hx : s < 1 ∨ 1000 < s) :
    Calls Tryd.prog 19 #[cfgV s t f l p] W fun e w' => e = .returned (.int .i64 (0)) ∧ Below W.heap.size W w' := by
  have N := Lib.hid (numbers7_any s t f l p)
  rcases hx with hx | hx
  · have D0l : Hid (decide (s < 1) = true) := Lib.hid (by simp; omega)
    clear hx
    go_enter Tryd.func19, Tryd.ntmps19
    go_wp2_with (go_at_call 40; refine (N.out _).mono ?_; rintro e w1 ⟨rfl, rfl⟩)
    refine wp_loop_rounds 1 ?_
    rw [rounds_succ]
    go_wp2
    have d0l := D0l.out
    go_quiet (fail)
    clear d0l
    go_wp2
    go_ret
    exact ⟨rfl, by repeat (first | exact Below.refl _ _ | exact Nat.le_refl _ | (refine below_drewN7 ?_ _) | (refine Below.alloc ?_ (by first | (simp; done) | (simp; omega)) _))⟩
  · have hx0 : 1 ≤ s := by omega
    have D0l : Hid (decide (s < 1) = false) := Lib.hid (by simp; omega)
    have D0h : Hid (decide (1000 < s) = true) := Lib.hid (by simp; omega)
    clear hx0 hx
    go_enter Tryd.func19, Tryd.ntmps19
    go_wp2_with (go_at_call 40; refine (N.out _).mono ?_; rintro e w1 ⟨rfl, rfl⟩)
    refine wp_loop_rounds 1 ?_
    rw [rounds_succ]
    go_wp2
    have d0l := D0l.out
    have d0h := D0h.out
    go_quiet (fail)
    clear d0l d0h
    go_wp2
    go_ret
    exact ⟨rfl, by repeat (first | exact Below.refl _ _ | exact Nat.le_refl _ | (refine below_drewN7 ?_ _) | (refine Below.alloc ?_ (by first | (simp; done) | (simp; omega)) _))⟩
set_option maxHeartbeats 2000000 in
theorem rwrong_1 (s t f l p : Int) (W : World) (a0 : 1 ≤ s) (b0 : s ≤ 1000) (hx : t < 1 ∨ 64 < t) :
    Calls Tryd.prog 19 #[cfgV s t f l p] W fun e w' => e = .returned (.int .i64 (1)) ∧ Below W.heap.size W w' := by
  have N := Lib.hid (numbers7_any s t f l p)
  rcases hx with hx | hx
  · have D0l : Hid (decide (s < 1) = false) := Lib.hid (by simp; omega)
    have D0h : Hid (decide (1000 < s) = false) := Lib.hid (by simp; omega)
    have D1l : Hid (decide (t < 1) = true) := Lib.hid (by simp; omega)
    clear a0 b0 hx
    go_enter Tryd.func19, Tryd.ntmps19
    go_wp2_with (go_at_call 40; refine (N.out _).mono ?_; rintro e w1 ⟨rfl, rfl⟩)
    refine wp_loop_rounds 2 ?_
    rw [rounds_succ]
    go_wp2
    have d0l := D0l.out
    have d0h := D0h.out
    go_quiet (fail)
    clear d0l d0h
    go_wp2
    rw [rounds_succ]
    go_wp2
    have d1l := D1l.out
    go_quiet (fail)
    clear d1l
    go_wp2
    go_ret
    exact ⟨rfl, by repeat (first | exact Below.refl _ _ | exact Nat.le_refl _ | (refine below_drewN7 ?_ _) | (refine Below.alloc ?_ (by first | (simp; done) | (simp; omega)) _))⟩
  · have hx0 : 1 ≤ t := by omega
    have D0l : Hid (decide (s < 1) = false) := Lib.hid (by simp; omega)
    have D0h : Hid (decide (1000 < s) = false) := Lib.hid (by simp; omega)
    have D1l : Hid (decide (t < 1) = false) := Lib.hid (by simp; omega)
    have D1h : Hid (decide (64 < t) = true) := Lib.hid (by simp; omega)
    clear hx0 a0 b0 hx
    go_enter Tryd.func19, Tryd.ntmps19
    go_wp2_with (go_at_call 40; refine (N.out _).mono ?_; rintro e w1 ⟨rfl, rfl⟩)
    refine wp_loop_rounds 2 ?_
    rw [rounds_succ]
    go_wp2
    have d0l := D0l.out
    have d0h := D0h.out
    go_quiet (fail)
    clear d0l d0h
    go_wp2
    rw [rounds_succ]
    go_wp2
    have d1l := D1l.out
    have d1h := D1h.out
    go_quiet (fail)
    clear d1l d1h
    go_wp2
    go_ret
    exact ⟨rfl, by repeat (first | exact Below.refl _ _ | exact Nat.le_refl _ | (refine below_drewN7 ?_ _) | (refine Below.alloc ?_ (by first | (simp; done) | (simp; omega)) _))⟩
set_option maxHeartbeats 2000000 in
theorem rwrong_2 (s t f l p : Int) (W : World) (a0 : 1 ≤ s) (b0 : s ≤ 1000) (a1 : 1 ≤ t) (b1 : t ≤ 64) (hx : f < 4 ∨ 64 < f) :
    Calls Tryd.prog 19 #[cfgV s t f l p] W fun e w' => e = .returned (.int .i64 (2)) ∧ Below W.heap.size W w' := by
  have N := Lib.hid (numbers7_any s t f l p)
  rcases hx with hx | hx
  · have D0l : Hid (decide (s < 1) = false) := Lib.hid (by simp; omega)
    have D0h : Hid (decide (1000 < s) = false) := Lib.hid (by simp; omega)
    have D1l : Hid (decide (t < 1) = false) := Lib.hid (by simp; omega)
    have D1h : Hid (decide (64 < t) = false) := Lib.hid (by simp; omega)
    have D2l : Hid (decide (f < 4) = true) := Lib.hid (by simp; omega)
    clear a0 b0 a1 b1 hx
    go_enter Tryd.func19, Tryd.ntmps19
    go_wp2_with (go_at_call 40; refine (N.out _).mono ?_; rintro e w1 ⟨rfl, rfl⟩)
    refine wp_loop_rounds 3 ?_
    rw [rounds_succ]
    go_wp2
    have d0l := D0l.out
    have d0h := D0h.out
    go_quiet (fail)
    clear d0l d0h
    go_wp2
    rw [rounds_succ]
    go_wp2
    have d1l := D1l.out
    have d1h := D1h.out
    go_quiet (fail)
    clear d1l d1h
    go_wp2
    rw [rounds_succ]
    go_wp2
    have d2l := D2l.out
    go_quiet (fail)
    clear d2l
    go_wp2
    go_ret
    exact ⟨rfl, by repeat (first | exact Below.refl _ _ | exact Nat.le_refl _ | (refine below_drewN7 ?_ _) | (refine Below.alloc ?_ (by first | (simp; done) | (simp; omega)) _))⟩
  · have hx0 : 4 ≤ f := by omega
    have D0l : Hid (decide (s < 1) = false) := Lib.hid (by simp; omega)
    have D0h : Hid (decide (1000 < s) = false) := Lib.hid (by simp; omega)
    have D1l : Hid (decide (t < 1) = false) := Lib.hid (by simp; omega)
    have D1h : Hid (decide (64 < t) = false) := Lib.hid (by simp; omega)
    have D2l : Hid (decide (f < 4) = false) := Lib.hid (by simp; omega)
    have D2h : Hid (decide (64 < f) = true) := Lib.hid (by simp; omega)
    clear hx0 a0 b0 a1 b1 hx
    go_enter Tryd.func19, Tryd.ntmps19
    go_wp2_with (go_at_call 40; refine (N.out _).mono ?_; rintro e w1 ⟨rfl, rfl⟩)
    refine wp_loop_rounds 3 ?_
    rw [rounds_succ]
    go_wp2
    have d0l := D0l.out
    have d0h := D0h.out
    go_quiet (fail)
    clear d0l d0h
    go_wp2
    rw [rounds_succ]
    go_wp2
    have d1l := D1l.out
    have d1h := D1h.out
    go_quiet (fail)
    clear d1l d1h
    go_wp2
    rw [rounds_succ]
    go_wp2
    have d2l := D2l.out
    have d2h := D2h.out
    go_quiet (fail)
    clear d2l d2h
    go_wp2
    go_ret
    exact ⟨rfl, by repeat (first | exact Below.refl _ _ | exact Nat.le_refl _ | (refine below_drewN7 ?_ _) | (refine Below.alloc ?_ (by first | (simp; done) | (simp; omega)) _))⟩
set_option maxHeartbeats 2000000 in
theorem rwrong_3 (s t f l p : Int) (W : World) (a0 : 1 ≤ s) (b0 : s ≤ 1000) (a1 : 1 ≤ t) (b1 : t ≤ 64) (a2 : 4 ≤ f) (b2 : f ≤ 64) (hx : l < 1 ∨ 64 < l) :
    Calls Tryd.prog 19 #[cfgV s t f l p] W fun e w' => e = .returned (.int .i64 (3)) ∧ Below W.heap.size W w' := by
  have N := Lib.hid (numbers7_any s t f l p)
  rcases hx with hx | hx
  · have D0l : Hid (decide (s < 1) = false) := Lib.hid (by simp; omega)
    have D0h : Hid (decide (1000 < s) = false) := Lib.hid (by simp; omega)
    have D1l : Hid (decide (t < 1) = false) := Lib.hid (by simp; omega)
    have D1h : Hid (decide (64 < t) = false) := Lib.hid (by simp; omega)
    have D2l : Hid (decide (f < 4) = false) := Lib.hid (by simp; omega)
    have D2h : Hid (decide (64 < f) = false) := Lib.hid (by simp; omega)
    have D3l : Hid (decide (l < 1) = true) := Lib.hid (by simp; omega)
    clear a0 b0 a1 b1 a2 b2 hx
    go_enter Tryd.func19, Tryd.ntmps19
    go_wp2_with (go_at_call 40; refine (N.out _).mono ?_; rintro e w1 ⟨rfl, rfl⟩)
    refine wp_loop_rounds 4 ?_
    rw [rounds_succ]
    go_wp2
    have d0l := D0l.out
    have d0h := D0h.out
    go_quiet (fail)
    clear d0l d0h
    go_wp2
    rw [rounds_succ]
    go_wp2
    have d1l := D1l.out
    have d1h := D1h.out
    go_quiet (fail)
    clear d1l d1h
    go_wp2
    rw [rounds_succ]
    go_wp2
    have d2l := D2l.out
    have d2h := D2h.out
    go_quiet (fail)
    clear d2l d2h
    go_wp2
    rw [rounds_succ]
    go_wp2
    have d3l := D3l.out
    go_quiet (fail)
    clear d3l
    go_wp2
    go_ret
    exact ⟨rfl, by repeat (first | exact Below.refl _ _ | exact Nat.le_refl _ | (refine below_drewN7 ?_ _) | (refine Below.alloc ?_ (by first | (simp; done) | (simp; omega)) _))⟩
  · have hx0 : 1 ≤ l := by omega
    have D0l : Hid (decide (s < 1) = false) := Lib.hid (by simp; omega)
    have D0h : Hid (decide (1000 < s) = false) := Lib.hid (by simp; omega)
    have D1l : Hid (decide (t < 1) = false) := Lib.hid (by simp; omega)
    have D1h : Hid (decide (64 < t) = false) := Lib.hid (by simp; omega)
    have D2l : Hid (decide (f < 4) = false) := Lib.hid (by simp; omega)
    have D2h : Hid (decide (64 < f) = false) := Lib.hid (by simp; omega)
    have D3l : Hid (decide (l < 1) = false) := Lib.hid (by simp; omega)
    have D3h : Hid (decide (64 < l) = true) := Lib.hid (by simp; omega)
    clear hx0 a0 b0 a1 b1 a2 b2 hx
    go_enter Tryd.func19, Tryd.ntmps19
    go_wp2_with (go_at_call 40; refine (N.out _).mono ?_; rintro e w1 ⟨rfl, rfl⟩)
    refine wp_loop_rounds 4 ?_
    rw [rounds_succ]
    go_wp2
    have d0l := D0l.out
    have d0h := D0h.out
    go_quiet (fail)
    clear d0l d0h
    go_wp2
    rw [rounds_succ]
    go_wp2
    have d1l := D1l.out
    have d1h := D1h.out
    go_quiet (fail)
    clear d1l d1h
    go_wp2
    rw [rounds_succ]
    go_wp2
    have d2l := D2l.out
    have d2h := D2h.out
    go_quiet (fail)
    clear d2l d2h
    go_wp2
    rw [rounds_succ]
    go_wp2
    have d3l := D3l.out
    have d3h := D3h.out
    go_quiet (fail)
    clear d3l d3h
    go_wp2
    go_ret
    exact ⟨rfl, by repeat (first | exact Below.refl _ _ | exact Nat.le_refl _ | (refine below_drewN7 ?_ _) | (refine Below.alloc ?_ (by first | (simp; done) | (simp; omega)) _))⟩
set_option maxHeartbeats 2000000 in
theorem rwrong_4 (s t f l p : Int) (W : World) (a0 : 1 ≤ s) (b0 : s ≤ 1000) (a1 : 1 ≤ t) (b1 : t ≤ 64) (a2 : 4 ≤ f) (b2 : f ≤ 64) (a3 : 1 ≤ l) (b3 : l ≤ 64) (hx : p < 1 ∨ 1048576 < p) :
    Calls Tryd.prog 19 #[cfgV s t f l p] W fun e w' => e = .returned (.int .i64 (4)) ∧ Below W.heap.size W w' := by
  have N := Lib.hid (numbers7_any s t f l p)
  rcases hx with hx | hx
  · have D0l : Hid (decide (s < 1) = false) := Lib.hid (by simp; omega)
    have D0h : Hid (decide (1000 < s) = false) := Lib.hid (by simp; omega)
    have D1l : Hid (decide (t < 1) = false) := Lib.hid (by simp; omega)
    have D1h : Hid (decide (64 < t) = false) := Lib.hid (by simp; omega)
    have D2l : Hid (decide (f < 4) = false) := Lib.hid (by simp; omega)
    have D2h : Hid (decide (64 < f) = false) := Lib.hid (by simp; omega)
    have D3l : Hid (decide (l < 1) = false) := Lib.hid (by simp; omega)
    have D3h : Hid (decide (64 < l) = false) := Lib.hid (by simp; omega)
    have D4l : Hid (decide (p < 1) = true) := Lib.hid (by simp; omega)
    clear a0 b0 a1 b1 a2 b2 a3 b3 hx
    go_enter Tryd.func19, Tryd.ntmps19
    go_wp2_with (go_at_call 40; refine (N.out _).mono ?_; rintro e w1 ⟨rfl, rfl⟩)
    refine wp_loop_rounds 5 ?_
    rw [rounds_succ]
    go_wp2
    have d0l := D0l.out
    have d0h := D0h.out
    go_quiet (fail)
    clear d0l d0h
    go_wp2
    rw [rounds_succ]
    go_wp2
    have d1l := D1l.out
    have d1h := D1h.out
    go_quiet (fail)
    clear d1l d1h
    go_wp2
    rw [rounds_succ]
    go_wp2
    have d2l := D2l.out
    have d2h := D2h.out
    go_quiet (fail)
    clear d2l d2h
    go_wp2
    rw [rounds_succ]
    go_wp2
    have d3l := D3l.out
    have d3h := D3h.out
    go_quiet (fail)
    clear d3l d3h
    go_wp2
    rw [rounds_succ]
    go_wp2
    have d4l := D4l.out
    go_quiet (fail)
    clear d4l
    go_wp2
    go_ret
    exact ⟨rfl, by repeat (first | exact Below.refl _ _ | exact Nat.le_refl _ | (refine below_drewN7 ?_ _) | (refine Below.alloc ?_ (by first | (simp; done) | (simp; omega)) _))⟩
  · have hx0 : 1 ≤ p := by omega
    have D0l : Hid (decide (s < 1) = false) := Lib.hid (by simp; omega)
    have D0h : Hid (decide (1000 < s) = false) := Lib.hid (by simp; omega)
    have D1l : Hid (decide (t < 1) = false) := Lib.hid (by simp; omega)
    have D1h : Hid (decide (64 < t) = false) := Lib.hid (by simp; omega)
    have D2l : Hid (decide (f < 4) = false) := Lib.hid (by simp; omega)
    have D2h : Hid (decide (64 < f) = false) := Lib.hid (by simp; omega)
    have D3l : Hid (decide (l < 1) = false) := Lib.hid (by simp; omega)
    have D3h : Hid (decide (64 < l) = false) := Lib.hid (by simp; omega)
    have D4l : Hid (decide (p < 1) = false) := Lib.hid (by simp; omega)
    have D4h : Hid (decide (1048576 < p) = true) := Lib.hid (by simp; omega)
    clear hx0 a0 b0 a1 b1 a2 b2 a3 b3 hx
    go_enter Tryd.func19, Tryd.ntmps19
    go_wp2_with (go_at_call 40; refine (N.out _).mono ?_; rintro e w1 ⟨rfl, rfl⟩)
    refine wp_loop_rounds 5 ?_
    rw [rounds_succ]
    go_wp2
    have d0l := D0l.out
    have d0h := D0h.out
    go_quiet (fail)
    clear d0l d0h
    go_wp2
    rw [rounds_succ]
    go_wp2
    have d1l := D1l.out
    have d1h := D1h.out
    go_quiet (fail)
    clear d1l d1h
    go_wp2
    rw [rounds_succ]
    go_wp2
    have d2l := D2l.out
    have d2h := D2h.out
    go_quiet (fail)
    clear d2l d2h
    go_wp2
    rw [rounds_succ]
    go_wp2
    have d3l := D3l.out
    have d3h := D3h.out
    go_quiet (fail)
    clear d3l d3h
    go_wp2
    rw [rounds_succ]
    go_wp2
    have d4l := D4l.out
    have d4h := D4h.out
    go_quiet (fail)
    clear d4l d4h
    go_wp2
    go_ret
    exact ⟨rfl, by repeat (first | exact Below.refl _ _ | exact Nat.le_refl _ | (refine below_drewN7 ?_ _) | (refine Below.alloc ?_ (by first | (simp; done) | (simp; omega)) _))⟩
theorem rwrong_any (s t f l p : Int) (W : World) :
    Calls Tryd.prog 19 #[cfgV s t f l p] W fun e w' => e = .returned (.int .i64 (if wrongN s t f l p = 5 then -1 else (wrongN s t f l p : Int))) ∧ Below W.heap.size W w' := by
  by_cases h1 : 1 ≤ s ∧ s ≤ 1000
  · by_cases h2 : 1 ≤ t ∧ t ≤ 64
    · by_cases h3 : 4 ≤ f ∧ f ≤ 64
      · by_cases h4 : 1 ≤ l ∧ l ≤ 64
        · by_cases h5 : 1 ≤ p ∧ p ≤ 1048576
          · have e : wrongN s t f l p = 5 := wrongN_ok ⟨h1, h2, h3, h4, h5⟩
            rw [e]
            exact rwrong_ok s t f l p W h1.1 h1.2 h2.1 h2.2 h3.1 h3.2 h4.1 h4.2 h5.1 h5.2
          · have e : wrongN s t f l p = 4 := by unfold wrongN; rw [if_neg (fun hn => hn h1), if_neg (fun hn => hn h2), if_neg (fun hn => hn h3), if_neg (fun hn => hn h4), if_pos h5]
            rw [e]
            exact rwrong_4 s t f l p W h1.1 h1.2 h2.1 h2.2 h3.1 h3.2 h4.1 h4.2 (by omega)
        · have e : wrongN s t f l p = 3 := by unfold wrongN; rw [if_neg (fun hn => hn h1), if_neg (fun hn => hn h2), if_neg (fun hn => hn h3), if_pos h4]
          rw [e]
          exact rwrong_3 s t f l p W h1.1 h1.2 h2.1 h2.2 h3.1 h3.2 (by omega)
      · have e : wrongN s t f l p = 2 := by unfold wrongN; rw [if_neg (fun hn => hn h1), if_neg (fun hn => hn h2), if_pos h3]
        rw [e]
        exact rwrong_2 s t f l p W h1.1 h1.2 h2.1 h2.2 (by omega)
    · have e : wrongN s t f l p = 1 := by unfold wrongN; rw [if_neg (fun hn => hn h1), if_pos h2]
      rw [e]
      exact rwrong_1 s t f l p W h1.1 h1.2 (by omega)
  · have e : wrongN s t f l p = 0 := by unfold wrongN; rw [if_pos h1]
    rw [e]
    exact rwrong_0 s t f l p W (by omega)
theorem wrongN_no {s t f l p : Int} (h : ¬ okC s t f l p) : wrongN s t f l p < 5 := by
  unfold wrongN
  unfold okC at h
  (repeat' split) <;> first | omega | (exfalso; apply h; omega)
theorem rwrong_yes (s t f l p : Int) (h : okC s t f l p) (W : World) :
    Calls Tryd.prog 19 #[cfgV s t f l p] W fun e w' => e = .returned (.int .i64 (-1)) ∧ Below W.heap.size W w' := by
  have := rwrong_any s t f l p W
  rw [if_pos (wrongN_ok h)] at this
  exact this
theorem rwrong_no (s t f l p : Int) (h : ¬ okC s t f l p) : ∃ k : Nat, wrongN s t f l p = k ∧ k < 5 ∧ ∀ W, 
    Calls Tryd.prog 19 #[cfgV s t f l p] W fun e w' => e = .returned (.int .i64 k) ∧ Below W.heap.size W w' := by
  have hk := wrongN_no h
  refine ⟨wrongN s t f l p, rfl, hk, fun W => ?_⟩
  have := rwrong_any s t f l p W
  rw [if_neg (by omega)] at this
  exact this
end Go.Proofs.YthcmgagmbioofaaDoor
