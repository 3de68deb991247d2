/- config.Least, gleaningref07.Word, chapter 7's example. -/
import Derived.Test.YtcdmcnncigfclaaDoorLay4
import Derived.Test.YtcdmcnncigfclaaDoorWrong7
namespace Go.Proofs.YtcdmcnncigfclaaDoor
set_option linter.unusedVariables false
open Go.RowKit Go.Extern.Stop Go.Stop Go.Extern
theorem least_yes (s t f l p : Int) (W : World) (hG : GL W) (h : okC s t f l p) :
    Calls Tryd.prog 12 #[cfgV s t f l p] W fun e w' => e = .returned (.int .i64 (f / 2)) ∧ Below W.heap.size W w' := by
  have R := right_any s t f l p _ (hG.next (below1 W (.cells #[.int .i64 s, .int .i64 t, .int .i64 f, .int .i64 l, .int .i64 p] 23)))
  have e : okB s t f l p = true := by unfold okB; exact decide_eq_true h
  rw [e] at R
  have R := Lib.hid R
  have k : K5 W.heap.size W W.heap.size s t f l p (W.alloc (.cells #[.int .i64 s, .int .i64 t, .int .i64 f, .int .i64 l, .int .i64 p] 23)) := ⟨by simp, by simp, by simp, by simp, by simp, below1 _ _, by simp⟩
  have HK := Lib.hid k
  have f1 : 4 ≤ f := h.2.2.1.1
  have f2 : f ≤ 64 := h.2.2.1.2
  clear h hG e k
  go_enter Tryd.func12, Tryd.ntmps12
  go_wp2_with (go_at_call 11; refine R.out.mono ?_; rintro e w1 ⟨rfl, h1⟩; have H1 := HK.out.next h1; have c2 := H1.c2; clear h1)
  go_ret
  exact ⟨rfl, H1.bl⟩
theorem least_no (s t f l p : Int) (W : World) (hG : GL W) (h : ¬ okC s t f l p) :
    Calls Tryd.prog 12 #[cfgV s t f l p] W fun e w' => e = .returned (.int .i64 0) ∧ Below W.heap.size W w' := by
  have R := right_any s t f l p _ (hG.next (below1 W (.cells #[.int .i64 s, .int .i64 t, .int .i64 f, .int .i64 l, .int .i64 p] 23)))
  have e : okB s t f l p = false := by unfold okB; exact decide_eq_false h
  rw [e] at R
  have R := Lib.hid R
  have HB := Lib.hid (below1 W (.cells #[.int .i64 s, .int .i64 t, .int .i64 f, .int .i64 l, .int .i64 p] 23))
  clear h hG e
  go_enter Tryd.func12, Tryd.ntmps12
  go_wp2_with (go_at_call 11; refine R.out.mono ?_; rintro e w1 ⟨rfl, h1⟩)
  go_ret
  exact ⟨rfl, HB.out.trans (h1.mono HB.out.size)⟩
theorem word_any (k : Nat) (hk : k < 5) (W : World) :
    Calls Tryd.prog 14 #[.int .i64 k] W fun e w' => e = .returned (.string (wordB k)) ∧ Below W.heap.size W w' := by
  obtain rfl | rfl | rfl | rfl | rfl : k = 0 ∨ k = 1 ∨ k = 2 ∨ k = 3 ∨ k = 4 := by omega
  all_goals
    clear hk
    go_enter Tryd.func14, Tryd.ntmps14
    go_wp2
    go_ret
    exact ⟨rfl, below1 _ _⟩
theorem awake7_any (W : World) (hG : GL W) :
    Calls Tryd.prog 13 #[] W fun e w' => e = .returned (.bool true) ∧ Below W.heap.size W w' := by
  have C := check_no 9 2 3 0 0 W hG (by decide)
  have e : wrongN 9 2 3 0 0 = 2 := by decide
  rw [e] at C
  have C := Lib.hid (show Calls Tryd.prog 9 #[cfgV 9 2 3 0 0] W fun e w' => e = .returned (.tuple #[.string ⟨#[102, 97, 110]⟩, .int .i64 9]) ∧ Below W.heap.size W w' from C)
  have L := Lib.hid (show ∀ W, GL W → Calls Tryd.prog 12 #[cfgV 9 2 5 1 1] W fun e w' => e = .returned (.int .i64 2) ∧ Below W.heap.size W w' from fun W hW => least_yes 9 2 5 1 1 W hW (by decide))
  have HG := Lib.hid hG
  clear hG e
  go_enter Tryd.func13, Tryd.ntmps13
  go_wp2_with (first | (go_at_call 9; refine C.out.mono ?_; rintro e w1 ⟨rfl, h1⟩; have HG1 := Lib.hid (HG.out.next h1)) | (go_at_call 12; refine (L.out _ HG1.out).mono ?_; rintro e w2 ⟨rfl, h2⟩))
  go_ret
  exact ⟨rfl, h1.trans (h2.mono h1.size)⟩
end Go.Proofs.YtcdmcnncigfclaaDoor
