/- Which place a word is, by definition; gleaningref08.Size, Place. -/
import Derived.Test.YtcdmcnncigfclaaDoorLay4
import Derived.Test.YtcdmcnncigfclaaDoorWrong7
import Derived.LoopTactic
namespace Go.Proofs.YtcdmcnncigfclaaDoor
set_option linter.unusedVariables false
open Go.RowKit Go.Extern.Stop Go.Stop Go.Extern
/-- The kind, the owner and the number of a word. -/
def whatL (s t f at' : Int) : Int × Int × Int :=
  if at' < 0 ∨ sizeL s t f ≤ at' then (0, 0, 0)
  else if at' < 3 then (at' + 1, 0, 0)
  else if at' < 3 + t then (4, at' - 3, 0)
  else if at' < 3 + t + 2 * t then (5, (at' - (3 + t)) / 2, (at' - (3 + t)) % 2)
  else if (at' - (3 + t + 2 * t)) % (3 + 2 * f) < 3 then (6 + (at' - (3 + t + 2 * t)) % (3 + 2 * f), (at' - (3 + t + 2 * t)) / (3 + 2 * f), 0)
  else if (at' - (3 + t + 2 * t)) % (3 + 2 * f) < 3 + f then (9, (at' - (3 + t + 2 * t)) / (3 + 2 * f), (at' - (3 + t + 2 * t)) % (3 + 2 * f) - 3)
  else (10, (at' - (3 + t + 2 * t)) / (3 + 2 * f), (at' - (3 + t + 2 * t)) % (3 + 2 * f) - 3 - f)
theorem rsize_yes (s t f l p : Int) (h : okC s t f l p) (W : World) :
    Calls Tryd.prog 19 #[cfgV s t f l p] W fun e w' => e = .returned (.int .i64 (sizeL s t f)) ∧ Below W.heap.size W w' := by
  have R := Lib.hid (rwrong_yes s t f l p h)
  have hk : K5 W.heap.size W W.heap.size s t f l p (W.alloc (.cells #[.int .i64 s, .int .i64 t, .int .i64 f, .int .i64 l, .int .i64 p] 23)) := ⟨by simp, by simp, by simp, by simp, by simp, below1 _ _, by simp⟩
  have HK := Lib.hid hk
  obtain ⟨⟨h1, h2⟩, ⟨h3, h4⟩, ⟨h5, h6⟩, h7, h8⟩ := h
  have hs : sizeL s t f = 3 + t + 2 * t + (s + 1) * (3 + 2 * f) := by unfold sizeL; rw [if_neg (by omega)]
  rw [hs]
  obtain ⟨m1, m2⟩ := mul_bd (a := s + 1) (b := 3 + 2 * f) (x := 1001) (y := 131) (by omega) (by omega) (by omega) (by omega) (by omega)
  clear hk hs h7 h8
  go_enter Tryd.func19, Tryd.ntmps19
  go_wp2_with (go_at_call 10; refine (R.out _).mono ?_; rintro e u1 ⟨rfl, hn⟩; have h9 := HK.out.next hn; clear hn; have c0 := h9.c0; have c1 := h9.c1; have c2 := h9.c2)
  go_ret
  exact ⟨ret_i (by omega), h9.bl⟩
theorem rsize_no (s t f l p : Int) (h : ¬ okC s t f l p) (W : World) :
    Calls Tryd.prog 19 #[cfgV s t f l p] W fun e w' => e = .returned (.int .i64 0) ∧ Below W.heap.size W w' := by
  obtain ⟨k, _, hk5, R⟩ := rwrong_no s t f l p h
  have R := Lib.hid R
  have HB := Lib.hid (below1 W (.cells #[.int .i64 s, .int .i64 t, .int .i64 f, .int .i64 l, .int .i64 p] 23))
  clear h
  go_enter Tryd.func19, Tryd.ntmps19
  go_wp2_with (go_at_call 10; refine (R.out _).mono ?_; rintro e u1 ⟨rfl, hn⟩)
  go_ret
  exact ⟨rfl, HB.out.trans (hn.mono HB.out.size)⟩
theorem ret_t3 {a b c a' b' c' : Int} (h1 : a = a') (h2 : b = b') (h3 : c = c') : Ending.returned (.tuple #[.int .i64 a, .int .i64 b, .int .i64 c]) = .returned (.tuple #[.int .i64 a', .int .i64 b', .int .i64 c']) := by rw [h1, h2, h3]
abbrev tripV (x : Int × Int × Int) : Value := .tuple #[.int .i64 x.1, .int .i64 x.2.1, .int .i64 x.2.2]
set_option maxHeartbeats 2000000 in
theorem place_out (s t f l p at' : Int) (h : okC s t f l p) (ha : at' < 0 ∨ sizeL s t f ≤ at') (W : World) :
    Calls Tryd.prog 24 #[cfgV s t f l p, .int .i64 at'] W fun e w' => e = .returned (tripV (whatL s t f at')) ∧ Below W.heap.size W w' := by
  have hw : whatL s t f at' = (0, 0, 0) := by unfold whatL; rw [if_pos ha]
  rw [hw]
  have R := Lib.hid (rsize_yes s t f l p h)
  have HB := Lib.hid (below1 W (.cells #[.int .i64 s, .int .i64 t, .int .i64 f, .int .i64 l, .int .i64 p] 23))
  clear hw h
  generalize sizeL s t f = n at R ha
  rcases ha with ha | ha
  · go_enter Tryd.func24, Tryd.ntmps24
    go_wp2
    go_ret3
    exact ⟨rfl, HB.out⟩
  · by_cases h0 : at' < 0
    · go_enter Tryd.func24, Tryd.ntmps24
      go_wp2
      go_ret3
      exact ⟨rfl, HB.out⟩
    · have h1 : 0 ≤ at' := by omega
      clear h0
      go_enter Tryd.func24, Tryd.ntmps24
      go_wp2_with (go_at_call 19; refine (R.out _).mono ?_; rintro e u1 ⟨rfl, hn⟩)
      go_ret3
      exact ⟨rfl, HB.out.trans (hn.mono HB.out.size)⟩
set_option maxHeartbeats 4000000 in
theorem place_in (s t f l p at' : Int) (h : okC s t f l p) (h0 : 0 ≤ at') (ha : at' < sizeL s t f) (W : World) :
    Calls Tryd.prog 24 #[cfgV s t f l p, .int .i64 at'] W fun e w' => e = .returned (tripV (whatL s t f at')) ∧ Below W.heap.size W w' := by
  have R := Lib.hid (rsize_yes s t f l p h)
  have hk : K5 W.heap.size W W.heap.size s t f l p (W.alloc (.cells #[.int .i64 s, .int .i64 t, .int .i64 f, .int .i64 l, .int .i64 p] 23)) := ⟨by simp, by simp, by simp, by simp, by simp, below1 _ _, by simp⟩
  have HK := Lib.hid hk
  obtain ⟨⟨h1, h2⟩, ⟨h3, h4⟩, ⟨h5, h6⟩, h7, h8⟩ := h
  obtain ⟨tn, rfl⟩ : ∃ tn : Nat, t = tn := ⟨t.toNat, by omega⟩
  have hs : sizeL s tn f ≤ 200000 := by
    unfold sizeL; rw [if_neg (by omega)]
    obtain ⟨m1, m2⟩ := mul_bd (a := s + 1) (b := 3 + 2 * f) (x := 1001) (y := 131) (by omega) (by omega) (by omega) (by omega) (by omega)
    omega
  have ha2 : at' ≤ 200000 := by omega
  have W0 : Hid (whatL s tn f at' = if at' < 3 then (at' + 1, 0, 0) else if at' < 3 + tn then (4, at' - 3, 0) else if at' < 3 + tn + 2 * tn then (5, (at' - (3 + tn)) / 2, (at' - (3 + tn)) % 2) else if (at' - (3 + tn + 2 * tn)) % (3 + 2 * f) < 3 then (6 + (at' - (3 + tn + 2 * tn)) % (3 + 2 * f), (at' - (3 + tn + 2 * tn)) / (3 + 2 * f), 0) else if (at' - (3 + tn + 2 * tn)) % (3 + 2 * f) < 3 + f then (9, (at' - (3 + tn + 2 * tn)) / (3 + 2 * f), (at' - (3 + tn + 2 * tn)) % (3 + 2 * f) - 3) else (10, (at' - (3 + tn + 2 * tn)) / (3 + 2 * f), (at' - (3 + tn + 2 * tn)) % (3 + 2 * f) - 3 - f)) := Lib.hid (by
    unfold whatL; rw [if_neg (by omega)])
  clear hk hs h7 h8
  generalize whatL s tn f at' = res at W0 ⊢
  generalize sizeL s tn f = n at R ha
  by_cases a3 : at' < 3
  · have e := W0.out
    rw [if_pos a3] at e
    have E := Lib.hid e
    clear e W0
    go_enter Tryd.func24, Tryd.ntmps24
    go_wp2_with (go_at_call 19; refine (R.out _).mono ?_; rintro e u1 ⟨rfl, hn⟩; have h9 := HK.out.next hn; clear hn)
    go_ret3
    exact ⟨by rw [E.out]; rfl, h9.bl⟩
  · have a3' : 3 ≤ at' := by omega
    clear a3
    go_enter Tryd.func24, Tryd.ntmps24
    go_wp2_with (go_at_call 19; refine (R.out _).mono ?_; rintro e u1 ⟨rfl, hn⟩; have h9 := HK.out.next hn; clear hn; have c1 := h9.c1; have c2 := h9.c2; have BL := Lib.hid h9.bl; clear h9)
    go_loop [7, 8] (fun n i => ∃ k : Nat, k ≤ tn ∧ n = .int .i64 (3 + (k : Int)) ∧ i = .int .i64 k ∧ 3 + (k : Int) ≤ at') (fun _ i => tn - (intOf i).toNat)
    case atStart => exact ⟨0, by omega, rfl, rfl, by omega⟩
    case round =>
      obtain ⟨k, hk, rfl, rfl, hka⟩ := hrel
      by_cases hlt : k < tn
      · have hlt2 : (k : Int) < tn := by omega
        by_cases he : at' = 3 + (k : Int)
        · have hb : (at' == 3 + (k : Int)) = true := by simp; omega
          go_wp2
          go_ret3
          exact ⟨by rw [W0.out, if_neg (by omega), if_pos (by omega)]; exact ret_t3 rfl (by simp; omega) rfl, BL.out⟩
        · have hb : (at' == 3 + (k : Int)) = false := by simp; omega
          go_wp2
          go_round
          case rel => exact ⟨k + 1, by omega, by go_num, by go_num, by omega⟩
          case measure => simp [intOf]; omega
      · obtain rfl : k = tn := by omega
        clear hlt
        go_wp2
        go_loop [7, 9, 10] (fun n i _ => ∃ j : Nat, j ≤ k ∧ n = .int .i64 (3 + (k : Int) + 2 * (j : Int)) ∧ i = .int .i64 j ∧ 3 + (k : Int) + 2 * (j : Int) ≤ at') (fun _ i _ => k - (intOf i).toNat)
        case atStart => exact ⟨0, by omega, by go_num, rfl, by omega⟩
        case round =>
          obtain ⟨j, hj, rfl, rfl, hja⟩ := hrel
          by_cases hlt : j < k
          · have hlt2 : (j : Int) < k := by omega
            by_cases he : at' = 3 + (k : Int) + 2 * (j : Int)
            · have hb : (at' == 3 + (k : Int) + 2 * (j : Int)) = true := by simp; omega
              go_wp2
              refine wp_loop_rounds 1 ?_
              rw [rounds_succ]
              go_wp2
              go_ret3
              exact ⟨by rw [W0.out, if_neg (by omega), if_neg (by omega), if_pos (by omega)]; exact ret_t3 rfl (by simp; omega) (by simp; omega), BL.out⟩
            · have hb : (at' == 3 + (k : Int) + 2 * (j : Int)) = false := by simp; omega
              by_cases he2 : at' = 3 + (k : Int) + 2 * (j : Int) + 1
              · have hb2 : (at' == 3 + (k : Int) + 2 * (j : Int) + 1) = true := by simp; omega
                go_wp2
                refine wp_loop_rounds 2 ?_
                rw [rounds_succ]
                go_wp2
                rw [rounds_succ]
                go_wp2
                go_ret3
                exact ⟨by rw [W0.out, if_neg (by omega), if_neg (by omega), if_pos (by omega)]; exact ret_t3 rfl (by simp; omega) (by simp; omega), BL.out⟩
              · have hb2 : (at' == 3 + (k : Int) + 2 * (j : Int) + 1) = false := by simp; omega
                go_wp2
                refine wp_loop_rounds 3 ?_
                rw [rounds_succ]
                go_wp2
                rw [rounds_succ]
                go_wp2
                rw [rounds_succ]
                go_wp2
                go_round
                case rel => exact ⟨j + 1, by omega, by go_num, by go_num, by omega⟩
                case measure => simp [intOf]; omega
          · obtain rfl : j = k := by omega
            clear hlt
            have hx : 0 ≤ at' - (3 + (j : Int) + 2 * (j : Int)) := by omega
            have hr0 := Int.emod_nonneg (at' - (3 + (j : Int) + 2 * (j : Int))) (show (3 + 2 * f) ≠ 0 by omega)
            have hr1 := Int.emod_lt_of_pos (at' - (3 + (j : Int) + 2 * (j : Int))) (show 0 < (3 + 2 * f) by omega)
            have hq0 : 0 ≤ (at' - (3 + (j : Int) + 2 * (j : Int))) / (3 + 2 * f) := Int.ediv_nonneg hx (by omega)
            by_cases hr : (at' - (3 + (j : Int) + 2 * (j : Int))) % (3 + 2 * f) < 3
            · go_wp2
              go_ret3
              exact ⟨by rw [W0.out, if_neg (by omega), if_neg (by omega), if_neg (by omega), if_pos hr]; rfl, BL.out⟩
            · have hr3 : 3 ≤ (at' - (3 + (j : Int) + 2 * (j : Int))) % (3 + 2 * f) := by omega
              by_cases hf : (at' - (3 + (j : Int) + 2 * (j : Int))) % (3 + 2 * f) < 3 + f
              · go_wp2
                go_ret3
                exact ⟨by rw [W0.out, if_neg (by omega), if_neg (by omega), if_neg (by omega), if_neg (Int.not_lt.2 hr3), if_pos hf]; rfl, BL.out⟩
              · have hf2 : 3 + f ≤ (at' - (3 + (j : Int) + 2 * (j : Int))) % (3 + 2 * f) := by omega
                go_wp2
                go_quiet (fail)
                go_wp2
                go_ret3
                exact ⟨by rw [W0.out, if_neg (by omega), if_neg (by omega), if_neg (by omega), if_neg (Int.not_lt.2 hr3), if_neg (Int.not_lt.2 hf2)]; rfl, below_drewN7 BL.out _⟩
end Go.Proofs.YtcdmcnncigfclaaDoor
