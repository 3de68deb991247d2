/- Contracts of the document's answers for version words (gleaningref04). -/
import Derived.Test.YtmpfajnieanfnaaVword2
namespace Go.Proofs.Ytmpfajnieanfnaa
set_option linter.unusedVariables false
open Go.RowKit

def wordI (l d : Bool) (c g : Int) : Int := g % 16777216 * 1099511627776 + c % 274877906944 * 4 + (if d then 2 else 0) + (if l then 1 else 0)
theorem word_lock (w : Nat) (h : w < 18446744073709551616) : wordI true (ddB w) (cN w) (gN w) = (lockN w : Nat) := by
  unfold wordI ddB cN gN lockN
  by_cases k : w / 2 % 2 = 1 <;> simp [k] <;> omega
theorem word_undo (w : Nat) (h : w < 18446744073709551616) : wordI false (ddB w) (cN w) (gN w) = (undoN w : Nat) := by
  unfold wordI ddB cN gN undoN
  by_cases k : w / 2 % 2 = 1 <;> simp [k] <;> omega
theorem word_bump (w : Nat) (h : w < 18446744073709551616) : wordI false (ddB w) ((cN w : Int) + 1) (gN w) = (bumpN w : Nat) := by
  unfold wordI ddB cN gN bumpN undoN countN
  by_cases k : w / 2 % 2 = 1 <;> simp [k] <;> omega
theorem word_kill (w : Nat) (h : w < 18446744073709551616) : wordI false true ((cN w : Int) + 1) (gN w) = (killN w : Nat) := by
  unfold wordI cN gN killN deadN bumpN undoN countN
  simp; omega
theorem word_renew (w : Nat) (h : w < 18446744073709551616) : wordI true false ((cN w : Int) + 1) ((gN w : Int) + 1) = (renewN w : Nat) := by
  unfold wordI cN gN renewN genN countN deadN lockN
  simp; omega

theorem rof_any (w : Nat) (hw : w < 18446744073709551616) (W : World) :
    Calls Try.prog 13 #[.int .u64 w] W fun e w' => e = .returned (.agg #[.bool (lkB w), .bool (ddB w), .int .u64 (cN w), .int .u64 (gN w)]) ∧ Below W.heap.size W w' := by
  have e1 : ((w : Int) % 2 == 1) = lkB w := by unfold lkB; rw [Bool.eq_iff_iff]; simp; omega
  have e2 : ((w : Int) / 2 % 2 == 1) = ddB w := by unfold ddB; rw [Bool.eq_iff_iff]; simp; omega
  have e3 : (w : Int) / 4 % 274877906944 = ((cN w : Nat) : Int) := by unfold cN; omega
  have e4 : (w : Int) / 1099511627776 = ((gN w : Nat) : Int) := by unfold gN; omega
  go_enter Try.func13, Try.ntmps13
  go_wp2
  exact bodyPost_ret (v := .agg #[.bool (lkB w), .bool (ddB w), .int .u64 (cN w), .int .u64 (gN w)]) (by simp [results, Try.results13, go_sem]) rfl ⟨rfl, by repeat (first | exact Below.refl _ _ | assumption | refine below_drewN ?_ _ | refine Below.alloc ?_ (by first | omega | (simp; done) | (simp; omega)) _ | refine Below.setCell ?_ (by first | omega | (simp; done) | (simp; omega)) _)⟩
set_option maxHeartbeats 1000000 in
theorem rword_any (l d : Bool) (c g : Int) (hc0 : 0 ≤ c) (hc : c < 18446744073709551616) (hg0 : 0 ≤ g) (hg : g < 18446744073709551616) (W : World) :
    Calls Try.prog 14 #[.agg #[.bool l, .bool d, .int .u64 c, .int .u64 g]] W fun e w' => e = .returned (.int .u64 (wordI l d c g)) ∧ Below W.heap.size W w' := by
  cases l <;> cases d
  all_goals
    go_enter Try.func14, Try.ntmps14
    go_wp2
    go_ret
    exact ⟨ret_i (by unfold wordI; simp <;> omega), (Below.refl _ _).alloc (Nat.le_refl _) _⟩
set_option maxHeartbeats 1000000 in
theorem rlock_any (w : Nat) (hw : w < 18446744073709551616) (W : World) :
    Calls Try.prog 21 #[.int .u64 w] W fun e w' => e = .returned (.int .u64 (lockN w : Nat)) ∧ Below W.heap.size W w' := by
  have E := Lib.hid (word_lock w hw)
  have hc := cN_lt w
  have hg := gN_lt w hw
  go_enter Try.func21, Try.ntmps21
  go_wp2_with (first | (go_at_call 13; refine (rof_any _ hw _).mono ?_; rintro e w1 ⟨rfl, hb1⟩; have hz1 := hb1.size) | (go_at_call 14; refine (rword_any _ _ _ _ (by omega) (by omega) (by omega) (by omega) _).mono ?_; rintro e w2 ⟨rfl, hb2⟩))
  go_ret
  exact ⟨ret_i E.out, Below.trans (by repeat (first | exact Below.refl _ _ | assumption | refine below_drewN ?_ _ | refine Below.alloc ?_ (by first | omega | (simp; done) | (simp; omega)) _ | refine Below.setCell ?_ (by first | omega | (simp; done) | (simp; omega)) _)) (hb2.mono (by first | (simp; done) | (simp; omega)))⟩
set_option maxHeartbeats 1000000 in
theorem rundo_any (w : Nat) (hw : w < 18446744073709551616) (W : World) :
    Calls Try.prog 23 #[.int .u64 w] W fun e w' => e = .returned (.int .u64 (undoN w : Nat)) ∧ Below W.heap.size W w' := by
  have E := Lib.hid (word_undo w hw)
  have hc := cN_lt w
  have hg := gN_lt w hw
  go_enter Try.func23, Try.ntmps23
  go_wp2_with (first | (go_at_call 13; refine (rof_any _ hw _).mono ?_; rintro e w1 ⟨rfl, hb1⟩; have hz1 := hb1.size) | (go_at_call 14; refine (rword_any _ _ _ _ (by omega) (by omega) (by omega) (by omega) _).mono ?_; rintro e w2 ⟨rfl, hb2⟩))
  go_ret
  exact ⟨ret_i E.out, Below.trans (by repeat (first | exact Below.refl _ _ | assumption | refine below_drewN ?_ _ | refine Below.alloc ?_ (by first | omega | (simp; done) | (simp; omega)) _ | refine Below.setCell ?_ (by first | omega | (simp; done) | (simp; omega)) _)) (hb2.mono (by first | (simp; done) | (simp; omega)))⟩
set_option maxHeartbeats 1000000 in
theorem rbump_any (w : Nat) (hw : w < 18446744073709551616) (W : World) :
    Calls Try.prog 25 #[.int .u64 w] W fun e w' => e = .returned (.int .u64 (bumpN w : Nat)) ∧ Below W.heap.size W w' := by
  have E := Lib.hid (word_bump w hw)
  have hc := cN_lt w
  have hg := gN_lt w hw
  go_enter Try.func25, Try.ntmps25
  go_wp2_with (first | (go_at_call 13; refine (rof_any _ hw _).mono ?_; rintro e w1 ⟨rfl, hb1⟩; have hz1 := hb1.size) | (go_at_call 14; refine (rword_any _ _ _ _ (by omega) (by omega) (by omega) (by omega) _).mono ?_; rintro e w2 ⟨rfl, hb2⟩))
  go_ret
  exact ⟨ret_i E.out, Below.trans (by repeat (first | exact Below.refl _ _ | assumption | refine below_drewN ?_ _ | refine Below.alloc ?_ (by first | omega | (simp; done) | (simp; omega)) _ | refine Below.setCell ?_ (by first | omega | (simp; done) | (simp; omega)) _)) (hb2.mono (by first | (simp; done) | (simp; omega)))⟩
set_option maxHeartbeats 1000000 in
theorem rkill_any (w : Nat) (hw : w < 18446744073709551616) (W : World) :
    Calls Try.prog 27 #[.int .u64 w] W fun e w' => e = .returned (.int .u64 (killN w : Nat)) ∧ Below W.heap.size W w' := by
  have E := Lib.hid (word_kill w hw)
  have hc := cN_lt w
  have hg := gN_lt w hw
  go_enter Try.func27, Try.ntmps27
  go_wp2_with (first | (go_at_call 13; refine (rof_any _ hw _).mono ?_; rintro e w1 ⟨rfl, hb1⟩; have hz1 := hb1.size) | (go_at_call 14; refine (rword_any _ _ _ _ (by omega) (by omega) (by omega) (by omega) _).mono ?_; rintro e w2 ⟨rfl, hb2⟩))
  go_ret
  exact ⟨ret_i E.out, Below.trans (by repeat (first | exact Below.refl _ _ | assumption | refine below_drewN ?_ _ | refine Below.alloc ?_ (by first | omega | (simp; done) | (simp; omega)) _ | refine Below.setCell ?_ (by first | omega | (simp; done) | (simp; omega)) _)) (hb2.mono (by first | (simp; done) | (simp; omega)))⟩
set_option maxHeartbeats 1000000 in
theorem rrenew_any (w : Nat) (hw : w < 18446744073709551616) (W : World) :
    Calls Try.prog 29 #[.int .u64 w] W fun e w' => e = .returned (.int .u64 (renewN w : Nat)) ∧ Below W.heap.size W w' := by
  have E := Lib.hid (word_renew w hw)
  have hc := cN_lt w
  have hg := gN_lt w hw
  go_enter Try.func29, Try.ntmps29
  go_wp2_with (first | (go_at_call 13; refine (rof_any _ hw _).mono ?_; rintro e w1 ⟨rfl, hb1⟩; have hz1 := hb1.size) | (go_at_call 14; refine (rword_any _ _ _ _ (by omega) (by omega) (by omega) (by omega) _).mono ?_; rintro e w2 ⟨rfl, hb2⟩))
  go_ret
  exact ⟨ret_i E.out, Below.trans (by repeat (first | exact Below.refl _ _ | assumption | refine below_drewN ?_ _ | refine Below.alloc ?_ (by first | omega | (simp; done) | (simp; omega)) _ | refine Below.setCell ?_ (by first | omega | (simp; done) | (simp; omega)) _)) (hb2.mono (by first | (simp; done) | (simp; omega)))⟩
/-- How a node is begun, by the document. -/
theorem rbegin_any (h w : Nat) (hh : h < 18446744073709551616) (hw : w < 18446744073709551616) (W : World) :
    Calls Try.prog 31 #[.int .u64 h, .int .u64 w] W fun e w' => e = .returned (.int .i64 (beginN h w)) ∧ Below W.heap.size W w' := by
  have O := rof_any w hw
  have R : beginN h w = if gN w = hgN h ∧ ddB w = false then (if lkB w then 2 else 3) else 1 := rfl
  have e1 : (h : Int) / 65536 % 16777216 = ((hgN h : Nat) : Int) := by unfold hgN; omega
  have hg := gN_lt w hw
  generalize beginN h w = r at R ⊢
  generalize gN w = x at O R hg
  generalize hgN h = y at e1 R
  generalize ddB w = d at O R
  generalize lkB w = l at O R
  generalize cN w = c at O
  have O := Lib.hid O
  by_cases k : x = y
  · subst k
    cases d <;> cases l
    all_goals
      simp at R
      subst R
      go_enter Try.func31, Try.ntmps31
      go_wp2_with (go_at_call 13; refine (O.out _).mono ?_; rintro e w1 ⟨rfl, hb1⟩; have hz1 := hb1.size)
      go_ret
      exact ⟨rfl, by repeat (first | exact Below.refl _ _ | assumption | refine below_drewN ?_ _ | refine Below.alloc ?_ (by first | omega | (simp; done) | (simp; omega)) _ | refine Below.setCell ?_ (by first | omega | (simp; done) | (simp; omega)) _)⟩
  · have hk : ((x : Int) != (y : Int)) = true := by simp; omega
    obtain rfl : r = 1 := by rw [R, if_neg (fun c => k c.1)]
    clear k R
    go_enter Try.func31, Try.ntmps31
    go_wp2_with (go_at_call 13; refine (O.out _).mono ?_; rintro e w1 ⟨rfl, hb1⟩; have hz1 := hb1.size)
    go_ret
    exact ⟨rfl, by repeat (first | exact Below.refl _ _ | assumption | refine below_drewN ?_ _ | refine Below.alloc ?_ (by first | omega | (simp; done) | (simp; omega)) _ | refine Below.setCell ?_ (by first | omega | (simp; done) | (simp; omega)) _)⟩
end Go.Proofs.Ytmpfajnieanfnaa
