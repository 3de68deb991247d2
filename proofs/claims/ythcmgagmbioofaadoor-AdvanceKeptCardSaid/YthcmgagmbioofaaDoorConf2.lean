/- config.Check, Right, Least; layout.New, hazards, slots, width, Size, first. -/
import Derived.Test.YthcmgagmbioofaaDoorConf
import Derived.Deep.QuietTactic
import Derived.BigQuiet
namespace Go.Proofs.YthcmgagmbioofaaDoor
set_option linter.unusedVariables false
open Go.RowKit Go.Extern.Stop Go.Stop Go.Extern

/-- The place of the first number that is out of its bounds; 5: none. -/
def wrongN (s t f l p : Int) : Nat := if ¬(1 ≤ s ∧ s ≤ 1000) then 0 else if ¬(1 ≤ t ∧ t ≤ 64) then 1 else if ¬(4 ≤ f ∧ f ≤ 64) then 2 else if ¬(1 ≤ l ∧ l ≤ 64) then 3 else if ¬(1 ≤ p ∧ p ≤ 1048576) then 4 else 5
theorem wrongN_ok {s t f l p : Int} (h : okC s t f l p) : wrongN s t f l p = 5 := by
  obtain ⟨h1, h2, h3, h4, h5⟩ := h
  unfold wrongN
  rw [if_neg (fun hn => hn h1), if_neg (fun hn => hn h2), if_neg (fun hn => hn h3), if_neg (fun hn => hn h4), if_neg (fun hn => hn h5)]
theorem refused_no (s t f l p : Int) (W : World) (hG : Bnd W) (h : ¬ okC s t f l p) :
    wrongN s t f l p < 5 ∧ Calls Tryd.prog 62 #[cfgV s t f l p] W fun e w' => e = .returned (.iface 93 (wrongV (wordB (wrongN s t f l p)) 9)) ∧ Below W.heap.size W w' := by
  unfold wrongN
  by_cases h1 : 1 ≤ s ∧ s ≤ 1000
  · rw [if_neg (fun hn => hn h1)]
    by_cases h2 : 1 ≤ t ∧ t ≤ 64
    · rw [if_neg (fun hn => hn h2)]
      by_cases h3 : 4 ≤ f ∧ f ≤ 64
      · rw [if_neg (fun hn => hn h3)]
        by_cases h4 : 1 ≤ l ∧ l ≤ 64
        · rw [if_neg (fun hn => hn h4)]
          by_cases h5 : 1 ≤ p ∧ p ≤ 1048576
          · exact absurd ⟨h1, h2, h3, h4, h5⟩ h
          · rw [if_pos h5]
            exact ⟨by omega, refused_4 s t f l p W hG h1.1 h1.2 h2.1 h2.2 h3.1 h3.2 h4.1 h4.2 (by omega)⟩
        · rw [if_pos h4]
          exact ⟨by omega, refused_3 s t f l p W hG h1.1 h1.2 h2.1 h2.2 h3.1 h3.2 (by omega)⟩
      · rw [if_pos h3]
        exact ⟨by omega, refused_2 s t f l p W hG h1.1 h1.2 h2.1 h2.2 (by omega)⟩
    · rw [if_pos h2]
      exact ⟨by omega, refused_1 s t f l p W hG h1.1 h1.2 (by omega)⟩
  · rw [if_pos h1]
    exact ⟨by omega, refused_0 s t f l p W hG (by omega)⟩
theorem refused_yes (s t f l p : Int) (W : World) (hG : Bnd W) (h : okC s t f l p) :
    Calls Tryd.prog 62 #[cfgV s t f l p] W fun e w' => e = .returned .nilIface ∧ Below W.heap.size W w' := by
  obtain ⟨h1, h2, h3, h4, h5⟩ := h
  exact refused_ok s t f l p W hG h1.1 h1.2 h2.1 h2.2 h3.1 h3.2 h4.1 h4.2 h5.1 h5.2

theorem check_yes (s t f l p : Int) (W : World) (hG : GL W) (h : okC s t f l p) :
    Calls Tryd.prog 50 #[cfgV s t f l p] W fun e w' => e = .returned (.tuple #[.string ⟨#[]⟩, .int .i64 0]) ∧ Below W.heap.size W w' := by
  have hb0 : Below W.heap.size W (W.alloc (.cells #[.int .i64 s, .int .i64 t, .int .i64 f, .int .i64 l, .int .i64 p] 23)) := (Below.refl _ _).alloc (Nat.le_refl _) _
  have R := Lib.hid (refused_yes s t f l p _ (hG.next hb0).bd h)
  have T := Lib.hid told_nil
  have HB := Lib.hid hb0
  clear h hb0 hG
  go_enter Tryd.func50, Tryd.ntmps50
  go_wp2_with (first | (go_at_call 62; refine R.out.mono ?_; rintro e w1 ⟨rfl, h1⟩; have H1 := Lib.hid (HB.out.trans (h1.mono HB.out.size)); clear h1) | (go_at_call 61; refine (T.out _).mono ?_; rintro e w2 ⟨rfl, h2⟩; have H2 := Lib.hid (H1.out.trans (h2.mono H1.out.size)); clear h2))
  go_ret2
  exact ⟨rfl, H2.out⟩
theorem check_no (s t f l p : Int) (W : World) (hG : GL W) (h : ¬ okC s t f l p) :
    Calls Tryd.prog 50 #[cfgV s t f l p] W fun e w' => e = .returned (.tuple #[.string (wordB (wrongN s t f l p)), .int .i64 9]) ∧ Below W.heap.size W w' := by
  have hb0 : Below W.heap.size W (W.alloc (.cells #[.int .i64 s, .int .i64 t, .int .i64 f, .int .i64 l, .int .i64 p] 23)) := (Below.refl _ _).alloc (Nat.le_refl _) _
  have R := Lib.hid (refused_no s t f l p _ (hG.next hb0).bd h).2
  generalize wordB (wrongN s t f l p) = word at R
  have T := Lib.hid (told_9 word)
  have HE := Lib.hid (hG.next hb0).et
  have HB := Lib.hid hb0
  clear h hb0 hG
  go_enter Tryd.func50, Tryd.ntmps50
  go_wp2_with (first | (go_at_call 62; refine R.out.mono ?_; rintro e w1 ⟨rfl, h1⟩; have HE1 := Lib.hid (HE.out.next h1); have H1 := Lib.hid (HB.out.trans (h1.mono HB.out.size)); clear h1) | (go_at_call 61; refine (T.out _ HE1.out).mono ?_; rintro e w2 ⟨rfl, h2⟩; have H2 := Lib.hid (H1.out.trans (h2.mono H1.out.size)); clear h2))
  go_ret2
  exact ⟨rfl, H2.out⟩
def okB (s t f l p : Int) : Bool := decide (okC s t f l p)
theorem right_any (s t f l p : Int) (W : World) (hG : GL W) :
    Calls Tryd.prog 29 #[cfgV s t f l p] W fun e w' => e = .returned (.bool (okB s t f l p)) ∧ Below W.heap.size W w' := by
  have hb0 : Below W.heap.size W (W.alloc (.cells #[.int .i64 s, .int .i64 t, .int .i64 f, .int .i64 l, .int .i64 p] 23)) := (Below.refl _ _).alloc (Nat.le_refl _) _
  have HB := Lib.hid hb0
  by_cases h : okC s t f l p
  · have C := Lib.hid (check_yes s t f l p _ (hG.next hb0) h)
    have e : okB s t f l p = true := by unfold okB; exact decide_eq_true h
    rw [e]
    clear h hb0 hG e
    go_enter Tryd.func29, Tryd.ntmps29
    go_wp2_with (go_at_call 50; refine C.out.mono ?_; rintro e w1 ⟨rfl, h1⟩; have H1 := Lib.hid (HB.out.trans (h1.mono HB.out.size)); clear h1)
    go_ret
    exact ⟨rfl, H1.out⟩
  · have C := Lib.hid (check_no s t f l p _ (hG.next hb0) h)
    have e : okB s t f l p = false := by unfold okB; exact decide_eq_false h
    rw [e]
    generalize wordB (wrongN s t f l p) = word at C
    clear h hb0 hG e
    go_enter Tryd.func29, Tryd.ntmps29
    go_wp2_with (go_at_call 50; refine C.out.mono ?_; rintro e w1 ⟨rfl, h1⟩; have H1 := Lib.hid (HB.out.trans (h1.mono HB.out.size)); clear h1)
    go_ret
    exact ⟨rfl, H1.out⟩
end Go.Proofs.YthcmgagmbioofaaDoor
