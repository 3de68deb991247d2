/- Which place a word is, by definition; gleaningref08.Size, Place. -/
import Derived.Test.YthcmgagmbioofaaDoorLay4
import Derived.Test.YthcmgagmbioofaaDoorWrong7
import Derived.LoopTactic
namespace Go.Proofs.YthcmgagmbioofaaDoor
set_option linter.unusedVariables false
open Go.RowKit Go.Extern.Stop Go.Stop Go.Extern
/-- The kind, the owner and the number of a word. -/
def whatL (s t f at' : Int) : Int × Int × Int :=
  if at' < 0 ∨ sizeL s t f ≤ at' then (0, 0, 0)
  else if at' < 3 then (at' + 1, 0, 0)
  else if at' < 3 + t then (4, at' - 3, 0)
  else if at' < 3 + t + 2 * t then (5, (at' - (3 + t)) / 2, (at' - (3 + t)) % 2)
  else if (at' - (3 + t + 2 * t)) % (3 + 2 * f) < 3 then (6 + (at' - (3 + t + 2 * t)) % (3 + 2 * f), (at' - (3 + t + 2 * t)) / (3 + 2 * f), 0)
  else if (at' - (3 + t + 2 * t)) % (3 + 2 * f) < 3 + f then (9, (at' - (3 + t + 2 * t)) / (3 + 2 * f), (at' - (3 + t + 2 * t)) % (3 + 2 * f) - 3)
  else (10, (at' - (3 + t + 2 * t)) / (3 + 2 * f), (at' - (3 + t + 2 * t)) % (3 + 2 * f) - 3 - f)
theorem rsize_yes (s t f l p : Int) (h : okC s t f l p) (W : World) :
    Calls Tryd.prog 20 #[cfgV s t f l p] W fun e w' => e = .returned (.int .i64 (sizeL s t f)) ∧ Below W.heap.size W w' := by
  have R := Lib.hid (rwrong_yes s t f l p h)
  have hk : K5 W.heap.size W W.heap.size s t f l p (W.alloc (.cells #[.int .i64 s, .int .i64 t, .int .i64 f, .int .i64 l, .int .i64 p] 23)) := ⟨by simp, by simp, by simp, by simp, by simp, below1 _ _, by simp⟩
  have HK := Lib.hid hk
  obtain ⟨⟨h1, h2⟩, ⟨h3, h4⟩, ⟨h5, h6⟩, h7, h8⟩ := h
  have hs : sizeL s t f = 3 + t + 2 * t + (s + 1) * (3 + 2 * f) := by unfold sizeL; rw [if_neg (by omega)]
  rw [hs]
  obtain ⟨m1, m2⟩ := mul_bd (a := s + 1) (b := 3 + 2 * f) (x := 1001) (y := 131) (by omega) (by omega) (by omega) (by omega) (by omega)
  clear hk hs h7 h8
  go_enter Tryd.func20, Tryd.ntmps20
  go_wp2_with (go_at_call 19; refine (R.out _).mono ?_; rintro e u1 ⟨rfl, hn⟩; have h9 := HK.out.next hn; clear hn; have c0 := h9.c0; have c1 := h9.c1; have c2 := h9.c2)
  go_ret
  exact ⟨ret_i (by omega), h9.bl⟩
theorem rsize_no (s t f l p : Int) (h : ¬ okC s t f l p) (W : World) :
    Calls Tryd.prog 20 #[cfgV s t f l p] W fun e w' => e = .returned (.int .i64 0) ∧ Below W.heap.size W w' := by
  obtain ⟨k, _, hk5, R⟩ := rwrong_no s t f l p h
  have R := Lib.hid R
  have HB := Lib.hid (below1 W (.cells #[.int .i64 s, .int .i64 t, .int .i64 f, .int .i64 l, .int .i64 p] 23))
  clear h
  go_enter Tryd.func20, Tryd.ntmps20
  go_wp2_with (go_at_call 19; refine (R.out _).mono ?_; rintro e u1 ⟨rfl, hn⟩)
  go_ret
  exact ⟨rfl, HB.out.trans (hn.mono HB.out.size)⟩
theorem ret_t3 {a b c a' b' c' : Int} (h1 : a = a') (h2 : b = b') (h3 : c = c') : Ending.returned (.tuple #[.int .i64 a, .int .i64 b, .int .i64 c]) = .returned (.tuple #[.int .i64 a', .int .i64 b', .int .i64 c']) := by rw [h1, h2, h3]
abbrev tripV (x : Int × Int × Int) : Value := .tuple #[.int .i64 x.1, .int .i64 x.2.1, .int .i64 x.2.2]
end Go.Proofs.YthcmgagmbioofaaDoor
