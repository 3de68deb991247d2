/- A turn by its number; how far two words' counts lie apart. -/
import Derived.Test.YtmpfajnieanfnaaAwake4
namespace Go.Proofs.Ytmpfajnieanfnaa
set_option linter.unusedVariables false
open Go.RowKit
def vStep (k : Int) (w : Nat) : Nat := if k = 0 then lockN w else if k = 1 then undoN w else if k = 2 then bumpN w else if k = 3 then killN w else renewN w
theorem vStep_lt {k : Int} {w : Nat} (h : w < 18446744073709551616) : vStep k w < 18446744073709551616 := by
  unfold vStep
  repeat' split
  · exact lockN_lt h
  · exact undoN_lt h
  · exact bumpN_lt h
  · exact killN_lt h
  · exact renewN_lt h
theorem cN_undo (w : Nat) : cN (undoN w) = cN w := by unfold cN undoN; omega
theorem cN_lock (w : Nat) : cN (lockN w) = cN w := by unfold cN lockN; omega
theorem cN_dead (w v : Nat) (h : v ≤ 1) : cN (deadN w v) = cN w := by unfold cN deadN; omega
theorem cN_count (w : Nat) : cN (countN w) = (cN w + 1) % 274877906944 := by unfold cN countN; omega
theorem cN_gen (w : Nat) : cN (genN w) = cN w := by unfold cN genN; omega
theorem cN_step (k : Int) (w : Nat) (h0 : 0 ≤ k) : cN (vStep k w) = if k < 2 then cN w else (cN w + 1) % 274877906944 := by
  unfold vStep
  by_cases h : k = 0
  · rw [if_pos h, if_pos (by omega), cN_lock]
  rw [if_neg h]
  by_cases h1 : k = 1
  · rw [if_pos h1, if_pos (by omega), cN_undo]
  have e : (if k < 2 then cN w else (cN w + 1) % 274877906944) = (cN w + 1) % 274877906944 := if_neg (by omega)
  rw [if_neg h1, e]
  repeat' split
  · unfold bumpN; rw [cN_count, cN_undo]
  · unfold killN bumpN; rw [cN_dead _ _ (by omega), cN_count, cN_undo]
  · unfold renewN; rw [cN_gen, cN_count, cN_dead _ _ (by omega), cN_lock]
/-- x comes behind u, by at most i counts. -/
def aft (u x i : Nat) : Prop := 1 ≤ (cN x + 274877906944 - cN u) % 274877906944 ∧ (cN x + 274877906944 - cN u) % 274877906944 ≤ i
theorem aft_step {u x i : Nat} {k : Int} (h0 : 0 ≤ k) (hi : i < 1000) (h : aft u x i) : aft u (vStep k x) (i + 1) := by
  unfold aft at *
  have hc := cN_step k x h0
  have h1 := cN_lt x
  have h2 := cN_lt u
  by_cases hk : k < 2
  · rw [if_pos hk] at hc
    rw [hc]; omega
  · rw [if_neg hk] at hc
    rw [hc]; omega
theorem aft_new {x : Nat} {k : Int} (i : Nat) (hk : 2 ≤ k) : aft (undoN x) (vStep k x) (i + 1) := by
  unfold aft
  have hc := cN_step k x (by omega)
  rw [if_neg (by omega)] at hc
  have h1 := cN_lt x
  rw [hc, cN_undo]; omega
theorem aft_ne {u x i : Nat} (h : aft u x i) : undoN x ≠ u := by
  unfold aft at h
  intro he
  have h1 := cN_lt x
  rw [← he, cN_undo] at h
  omega
set_option maxHeartbeats 1000000 in
theorem turn_any (k : Int) (w : Nat) (hk0 : 0 ≤ k) (hk : k ≤ 4) (hw : w < 18446744073709551616) (W : World) :
    Calls Try.prog 32 #[.int .i64 k, .int .u64 w] W fun e w' => e = .returned (.int .u64 (vStep k w : Nat)) ∧ Below W.heap.size W w' := by
  have h5 : k = 0 ∨ k = 1 ∨ k = 2 ∨ k = 3 ∨ k = 4 := by omega
  clear hk0 hk
  rcases h5 with rfl | rfl | rfl | rfl | rfl
  all_goals
    go_enter Try.func32, Try.ntmps32
    go_wp2_with (first | (go_at_call 21; refine (rlock_any _ (by omega) _).mono ?_; rintro e wn ⟨rfl, hn⟩) | (go_at_call 23; refine (rundo_any _ (by omega) _).mono ?_; rintro e wn ⟨rfl, hn⟩) | (go_at_call 25; refine (rbump_any _ (by omega) _).mono ?_; rintro e wn ⟨rfl, hn⟩) | (go_at_call 27; refine (rkill_any _ (by omega) _).mono ?_; rintro e wn ⟨rfl, hn⟩) | (go_at_call 29; refine (rrenew_any _ (by omega) _).mono ?_; rintro e wn ⟨rfl, hn⟩))
    go_ret
    exact ⟨rfl, hn⟩
set_option maxHeartbeats 1000000 in
theorem program_any (k : Int) (w : Nat) (hk0 : 0 ≤ k) (hk : k ≤ 4) (hw : w < 18446744073709551616) (W : World) :
    Calls Try.prog 33 #[.int .i64 k, .int .u64 w] W fun e w' => e = .returned (.int .u64 (vStep k w : Nat)) ∧ Below W.heap.size W w' := by
  have h5 : k = 0 ∨ k = 1 ∨ k = 2 ∨ k = 3 ∨ k = 4 := by omega
  clear hk0 hk
  rcases h5 with rfl | rfl | rfl | rfl | rfl
  all_goals
    go_enter Try.func33, Try.ntmps33
    go_wp2_with (first | (go_at_call 20; refine (lock_any _ (by omega) _).mono ?_; rintro e wn ⟨rfl, hn⟩) | (go_at_call 22; refine (undo_any _ (by omega) _).mono ?_; rintro e wn ⟨rfl, hn⟩) | (go_at_call 24; refine (bump_any _ (by omega) _).mono ?_; rintro e wn ⟨rfl, hn⟩) | (go_at_call 26; refine (kill_any _ (by omega) _).mono ?_; rintro e wn ⟨rfl, hn⟩) | (go_at_call 28; refine (renew_any _ (by omega) _).mono ?_; rintro e wn ⟨rfl, hn⟩))
    go_ret
    exact ⟨rfl, hn⟩
end Go.Proofs.Ytmpfajnieanfnaa
