/- layout.Announce, Hazard, Version, Shape, Link, Key, Value; chapter 8's example. -/
import Derived.Test.YtcdmcnncigfclaaDoorLay3
namespace Go.Proofs.YtcdmcnncigfclaaDoor
set_option linter.unusedVariables false
open Go.RowKit Go.Extern.Stop Go.Stop Go.Extern
theorem below1 (W : World) (a : Obj) : Below W.heap.size W (W.alloc a) := (Below.refl _ _).alloc (Nat.le_refl _) _

theorem announce_any (s t f l p o : Int) (h : okL s t f l p) (W : World) :
    Calls Tryd.prog 25 #[layV s t f l p, .int .i64 o] W fun e w' => e = .returned (.int .i64 (atL s t f 4 o 0)) ∧ Below W.heap.size W w' := by
  have A := Lib.hid (at_any s t f l p 4 o 0 h)
  generalize atL s t f 4 o 0 = r at A ⊢
  have hb := Lib.hid (below1 W)
  clear h
  go_enter Tryd.func25, Tryd.ntmps25
  go_wp2_with (go_at_call 22; refine (A.out _).mono ?_; rintro e w1 ⟨rfl, h1⟩)
  go_ret
  exact ⟨rfl, (hb.out _).trans (h1.mono (by simp))⟩

theorem hazard_any (s t f l p o i : Int) (h : okL s t f l p) (W : World) :
    Calls Tryd.prog 26 #[layV s t f l p, .int .i64 o, .int .i64 i] W fun e w' => e = .returned (.int .i64 (atL s t f 5 o i)) ∧ Below W.heap.size W w' := by
  have A := Lib.hid (at_any s t f l p 5 o i h)
  generalize atL s t f 5 o i = r at A ⊢
  have hb := Lib.hid (below1 W)
  clear h
  go_enter Tryd.func26, Tryd.ntmps26
  go_wp2_with (go_at_call 22; refine (A.out _).mono ?_; rintro e w1 ⟨rfl, h1⟩)
  go_ret
  exact ⟨rfl, (hb.out _).trans (h1.mono (by simp))⟩

theorem version_any (s t f l p o : Int) (h : okL s t f l p) (W : World) :
    Calls Tryd.prog 27 #[layV s t f l p, .int .i64 o] W fun e w' => e = .returned (.int .i64 (atL s t f 6 o 0)) ∧ Below W.heap.size W w' := by
  have A := Lib.hid (at_any s t f l p 6 o 0 h)
  generalize atL s t f 6 o 0 = r at A ⊢
  have hb := Lib.hid (below1 W)
  clear h
  go_enter Tryd.func27, Tryd.ntmps27
  go_wp2_with (go_at_call 22; refine (A.out _).mono ?_; rintro e w1 ⟨rfl, h1⟩)
  go_ret
  exact ⟨rfl, (hb.out _).trans (h1.mono (by simp))⟩

theorem shape_any (s t f l p o : Int) (h : okL s t f l p) (W : World) :
    Calls Tryd.prog 28 #[layV s t f l p, .int .i64 o] W fun e w' => e = .returned (.int .i64 (atL s t f 7 o 0)) ∧ Below W.heap.size W w' := by
  have A := Lib.hid (at_any s t f l p 7 o 0 h)
  generalize atL s t f 7 o 0 = r at A ⊢
  have hb := Lib.hid (below1 W)
  clear h
  go_enter Tryd.func28, Tryd.ntmps28
  go_wp2_with (go_at_call 22; refine (A.out _).mono ?_; rintro e w1 ⟨rfl, h1⟩)
  go_ret
  exact ⟨rfl, (hb.out _).trans (h1.mono (by simp))⟩

theorem link_any (s t f l p o : Int) (h : okL s t f l p) (W : World) :
    Calls Tryd.prog 29 #[layV s t f l p, .int .i64 o] W fun e w' => e = .returned (.int .i64 (atL s t f 8 o 0)) ∧ Below W.heap.size W w' := by
  have A := Lib.hid (at_any s t f l p 8 o 0 h)
  generalize atL s t f 8 o 0 = r at A ⊢
  have hb := Lib.hid (below1 W)
  clear h
  go_enter Tryd.func29, Tryd.ntmps29
  go_wp2_with (go_at_call 22; refine (A.out _).mono ?_; rintro e w1 ⟨rfl, h1⟩)
  go_ret
  exact ⟨rfl, (hb.out _).trans (h1.mono (by simp))⟩

theorem key_any (s t f l p o i : Int) (h : okL s t f l p) (W : World) :
    Calls Tryd.prog 30 #[layV s t f l p, .int .i64 o, .int .i64 i] W fun e w' => e = .returned (.int .i64 (atL s t f 9 o i)) ∧ Below W.heap.size W w' := by
  have A := Lib.hid (at_any s t f l p 9 o i h)
  generalize atL s t f 9 o i = r at A ⊢
  have hb := Lib.hid (below1 W)
  clear h
  go_enter Tryd.func30, Tryd.ntmps30
  go_wp2_with (go_at_call 22; refine (A.out _).mono ?_; rintro e w1 ⟨rfl, h1⟩)
  go_ret
  exact ⟨rfl, (hb.out _).trans (h1.mono (by simp))⟩

theorem value_any (s t f l p o i : Int) (h : okL s t f l p) (W : World) :
    Calls Tryd.prog 31 #[layV s t f l p, .int .i64 o, .int .i64 i] W fun e w' => e = .returned (.int .i64 (atL s t f 10 o i)) ∧ Below W.heap.size W w' := by
  have A := Lib.hid (at_any s t f l p 10 o i h)
  generalize atL s t f 10 o i = r at A ⊢
  have hb := Lib.hid (below1 W)
  clear h
  go_enter Tryd.func31, Tryd.ntmps31
  go_wp2_with (go_at_call 22; refine (A.out _).mono ?_; rintro e w1 ⟨rfl, h1⟩)
  go_ret
  exact ⟨rfl, (hb.out _).trans (h1.mono (by simp))⟩

/-- A layout's variable, just made. -/
theorem K5.alloc {W w1 : World} (h : Below W.heap.size W w1) (s t f l p : Int) : K5 W.heap.size W w1.heap.size s t f l p (w1.alloc (.cells #[.int .i64 s, .int .i64 t, .int .i64 f, .int .i64 l, .int .i64 p] 35)) :=
  ⟨by simp, by simp, by simp, by simp, by simp, h.alloc h.size _, by have := h.size; simp; omega⟩
set_option maxHeartbeats 1000000 in
theorem awake8_any (W : World) (hG : GL W) :
    Calls Tryd.prog 23 #[] W fun e w' => e = .returned (.bool true) ∧ Below W.heap.size W w' := by
  have ok : okC 3 2 4 1 1 := by decide
  have okl : okL 3 2 4 1 1 := .inl ok
  have N := Lib.hid (new_yes 3 2 4 1 1 W hG ok)
  have A := Lib.hid (show ∀ W, Calls Tryd.prog 25 #[layV 3 2 4 1 1, .int .i64 1] W fun e w' => e = .returned (.int .i64 4) ∧ Below W.heap.size W w' from fun W => announce_any 3 2 4 1 1 1 okl W)
  have H := Lib.hid (show ∀ W, Calls Tryd.prog 26 #[layV 3 2 4 1 1, .int .i64 1, .int .i64 0] W fun e w' => e = .returned (.int .i64 7) ∧ Below W.heap.size W w' from fun W => hazard_any 3 2 4 1 1 1 0 okl W)
  have V := Lib.hid (show ∀ W, Calls Tryd.prog 27 #[layV 3 2 4 1 1, .int .i64 0] W fun e w' => e = .returned (.int .i64 9) ∧ Below W.heap.size W w' from fun W => version_any 3 2 4 1 1 0 okl W)
  have Y := Lib.hid (show ∀ W, Calls Tryd.prog 30 #[layV 3 2 4 1 1, .int .i64 1, .int .i64 2] W fun e w' => e = .returned (.int .i64 25) ∧ Below W.heap.size W w' from fun W => key_any 3 2 4 1 1 1 2 okl W)
  have S := Lib.hid (show ∀ W, Calls Tryd.prog 18 #[layV 3 2 4 1 1] W fun e w' => e = .returned (.int .i64 53) ∧ Below W.heap.size W w' from fun W => size_any 3 2 4 1 1 okl W)
  clear ok okl hG
  go_enter Tryd.func23, Tryd.ntmps23
  go_wp2_with (first
    | (go_at_call 17; refine N.out.mono ?_; rintro e w1 ⟨rfl, h1⟩; have h0 := K5.alloc h1 3 2 4 1 1)
    | (go_at_call 25; refine (A.out _).mono ?_; rintro e w2 ⟨rfl, hn⟩; have h2 := h0.next hn; clear hn h0; have c0 := h2.c0; have c1 := h2.c1; have c2 := h2.c2; have c3 := h2.c3; have c4 := h2.c4)
    | (go_at_call 26; refine (H.out _).mono ?_; rintro e w3 ⟨rfl, hn⟩; have h3 := h2.next hn; clear hn h2 c0 c1 c2 c3 c4; have c0 := h3.c0; have c1 := h3.c1; have c2 := h3.c2; have c3 := h3.c3; have c4 := h3.c4)
    | (go_at_call 27; refine (V.out _).mono ?_; rintro e w4 ⟨rfl, hn⟩; have h4 := h3.next hn; clear hn h3 c0 c1 c2 c3 c4; have c0 := h4.c0; have c1 := h4.c1; have c2 := h4.c2; have c3 := h4.c3; have c4 := h4.c4)
    | (go_at_call 30; refine (Y.out _).mono ?_; rintro e w5 ⟨rfl, hn⟩; have h5 := h4.next hn; clear hn h4 c0 c1 c2 c3 c4; have c0 := h5.c0; have c1 := h5.c1; have c2 := h5.c2; have c3 := h5.c3; have c4 := h5.c4)
    | (go_at_call 18; refine (S.out _).mono ?_; rintro e w6 ⟨rfl, hn⟩; have h6 := h5.next hn; clear hn h5 c0 c1 c2 c3 c4))
  go_ret
  exact ⟨rfl, h6.bl⟩
/-- Whatever the configuration: a layout. -/
theorem new_ex (s t f l p : Int) : ∃ s' t' f' l' p' : Int, okL s' t' f' l' p' ∧ ∀ W, GL W → Calls Tryd.prog 17 #[cfgV s t f l p] W fun e w' => e = .returned (layV s' t' f' l' p') ∧ Below W.heap.size W w' := by
  by_cases h : okC s t f l p
  · exact ⟨s, t, f, l, p, .inl h, fun W hG => new_yes s t f l p W hG h⟩
  · exact ⟨0, 0, 0, 0, 0, .inr ⟨rfl, rfl, rfl, rfl, rfl⟩, fun W hG => new_no s t f l p W hG h⟩
end Go.Proofs.YtcdmcnncigfclaaDoor
