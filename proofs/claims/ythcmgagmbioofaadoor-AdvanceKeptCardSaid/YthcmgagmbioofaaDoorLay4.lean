/- layout.Announce, Hazard, Version, Shape, Link, Key, Value; chapter 8's example. -/
import Derived.Test.YthcmgagmbioofaaDoorLay3
namespace Go.Proofs.YthcmgagmbioofaaDoor
set_option linter.unusedVariables false
open Go.RowKit Go.Extern.Stop Go.Stop Go.Extern
theorem below1 (W : World) (a : Obj) : Below W.heap.size W (W.alloc a) := (Below.refl _ _).alloc (Nat.le_refl _) _

theorem announce_any (s t f l p o : Int) (h : okL s t f l p) (W : World) :
    Calls Tryd.prog 28 #[layV s t f l p, .int .i64 o] W fun e w' => e = .returned (.int .i64 (atL s t f 4 o 0)) ∧ Below W.heap.size W w' := by
  have A := Lib.hid (at_any s t f l p 4 o 0 h)
  generalize atL s t f 4 o 0 = r at A ⊢
  have hb := Lib.hid (below1 W)
  clear h
  go_enter Tryd.func28, Tryd.ntmps28
  go_wp2_with (go_at_call 31; refine (A.out _).mono ?_; rintro e w1 ⟨rfl, h1⟩)
  go_ret
  exact ⟨rfl, (hb.out _).trans (h1.mono (by simp))⟩

/-- A layout's variable, just made. -/
theorem K5.alloc {W w1 : World} (h : Below W.heap.size W w1) (s t f l p : Int) : K5 W.heap.size W w1.heap.size s t f l p (w1.alloc (.cells #[.int .i64 s, .int .i64 t, .int .i64 f, .int .i64 l, .int .i64 p] 27)) :=
  ⟨by simp, by simp, by simp, by simp, by simp, h.alloc h.size _, by have := h.size; simp; omega⟩
/-- Whatever the configuration: a layout. -/
theorem new_ex (s t f l p : Int) : ∃ s' t' f' l' p' : Int, okL s' t' f' l' p' ∧ ∀ W, GL W → Calls Tryd.prog 8 #[cfgV s t f l p] W fun e w' => e = .returned (layV s' t' f' l' p') ∧ Below W.heap.size W w' := by
  by_cases h : okC s t f l p
  · exact ⟨s, t, f, l, p, .inl h, fun W hG => new_yes s t f l p W hG h⟩
  · exact ⟨0, 0, 0, 0, 0, .inr ⟨rfl, rfl, rfl, rfl, rfl⟩, fun W hG => new_no s t f l p W hG h⟩
end Go.Proofs.YthcmgagmbioofaaDoor
