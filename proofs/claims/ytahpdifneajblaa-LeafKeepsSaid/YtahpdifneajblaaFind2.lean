/- leaf.Find, gleaningref12.Find. -/
import Derived.Test.YtahpdifneajblaaFind
import Derived.Deep.RegionHeld3
namespace Go.Proofs.Ytahpdifneajblaa
set_option linter.unusedVariables false
open Go.RowKit
/-- Is a key there? -/
def hasB (ks : List Nat) (q : Nat) : Bool := decide (q ∈ ks)
theorem cnt_snoc (ks : List Nat) (q x : Nat) : cnt (ks ++ [x]) q = cnt ks q + (if x < q then 1 else 0) := by
  unfold cnt
  rw [List.filter_append, List.length_append]
  by_cases h : x < q <;> simp [h]
theorem has_snoc (ks : List Nat) (q x : Nat) : hasB (ks ++ [x]) q = (hasB ks q || decide (x = q)) := by
  unfold hasB
  have h3 : (q = x) ↔ (x = q) := ⟨Eq.symm, Eq.symm⟩
  by_cases h1 : q ∈ ks <;> by_cases h2 : x = q <;> simp [h1, h2, h3]
theorem cnt_le (ks : List Nat) (q : Nat) : cnt ks q ≤ ks.length := List.length_filter_le _ _
theorem cnt_facts (ks : List Nat) (q : Nat) (h : ris ks) : (∀ i, i < cnt ks q → ks.getD i 0 < q) ∧ ∀ i, cnt ks q ≤ i → i < ks.length → q ≤ ks.getD i 0 := by
  obtain ⟨j, e, h1, h2, h3⟩ := fin_low ks q (ris_lt h) ks.length 0 ks.length (by omega) (by omega) (by omega) (fun i hi => by omega) (fun i h1 h2 => by omega)
  rw [cnt_low ks q j h1 h2 h3]
  exact ⟨h2, h3⟩
theorem has_at (ks : List Nat) (q : Nat) (h : ris ks) : hasB ks q = true ↔ cnt ks q < ks.length ∧ ks.getD (cnt ks q) 0 = q := by
  obtain ⟨f1, f2⟩ := cnt_facts ks q h
  unfold hasB
  rw [decide_eq_true_eq]
  constructor
  · intro hm
    obtain ⟨i, hi, e⟩ := List.mem_iff_getElem.1 hm
    have e' : ks.getD i 0 = q := by simp [List.getD, hi, e]
    have hge : cnt ks q ≤ i := by
      rcases Nat.lt_or_ge i (cnt ks q) with hl | hl
      · have := f1 i hl; omega
      · exact hl
    have hc : cnt ks q < ks.length := by omega
    refine ⟨hc, ?_⟩
    have g := f2 (cnt ks q) (Nat.le_refl _) hc
    rcases Nat.lt_or_ge (cnt ks q) i with hl | hl
    · have := ris_lt h _ _ hl hi; omega
    · have : cnt ks q = i := by omega
      rw [this]; exact e'
  · rintro ⟨hc, e⟩
    have : ks.getD (cnt ks q) 0 = ks[cnt ks q] := by simp [List.getD, hc]
    rw [← e, this]
    exact List.getElem_mem hc
set_option maxHeartbeats 1000000 in
theorem rfind_any (x : Nd) (q : Nat) (hl : x.ks.length ≤ 1000) (W : World) (hx : NR W x) :
    Calls Try.prog 16 #[ndV x, .int .u64 (q : Nat)] W fun e w' => e = .returned (.tuple #[.int .i64 (cnt x.ks q : Nat), .bool (hasB x.ks q)]) ∧ Below W.heap.size W w' := by
  obtain ⟨inner, ks, vs, lk, A1, c1, A2, c2⟩ := x
  simp only at hl
  have HX := Lib.hid hx
  have K0 := Lib.hid (NC.alloc W ⟨inner, ks, vs, lk, A1, c1, A2, c2⟩)
  have B0 := Lib.hid (nl1 W (ndRow ⟨inner, ks, vs, lk, A1, c1, A2, c2⟩))
  have hmx : ks.length ≤ maxLen := by unfold maxLen; omega
  clear hx
  go_enter Try.func16, Try.ntmps16
  go_wp2
  go_loopg [6, 7, 8] ks.length (fun g at0 is i wr => ∃ j : Nat, j ≤ ks.length ∧ g = ks.length - j ∧ at0 = .int .i64 (cnt (ks.take j) q : Nat) ∧ is = .bool (hasB (ks.take j) q) ∧ i = .int .i64 j ∧ NC W.heap.size ⟨inner, ks, vs, lk, A1, c1, A2, c2⟩ wr ∧ Below W.heap.size W wr)
  case atStart => exact ⟨0, by omega, by omega, by simp [cnt], by simp [hasB], rfl, K0.out, B0.out⟩
  case round =>
    clear K0 B0
    obtain ⟨j, hj, hg, rfl, rfl, rfl, hc, hb⟩ := hrel
    have d1 := hc.c1
    by_cases hlt : j < ks.length
    · obtain ⟨b1, o1, rfl, q1⟩ := HX.out.at1 j hlt
      have p0 := (hb.cell (p := ⟨b1, o1 + j, none⟩) (World.block_lt_of_cell? W _ q1)).trans q1
      have T1 := Lib.hid (take_snoc ks j hlt)
      have hcl : cnt (ks.take j) q ≤ 1000 := Nat.le_trans (cnt_le _ _) (by simp; omega)
      have C1 := Lib.hid (cnt_snoc (ks.take j) q)
      have C2 := Lib.hid (has_snoc (ks.take j) q)
      clear q1
      simp only at p0
      generalize ks.getD j 0 = x at p0 T1
      generalize cnt (ks.take j) q = cn at hcl C1
      generalize hasB (ks.take j) q = hs at C2
      have HC := Lib.hid hc
      have HB := Lib.hid hb
      clear hc hb
      rcases Nat.lt_trichotomy x q with h | h | h
      · have h1 : (x : Int) < (q : Int) := by omega
        have h2 : ¬ (x : Int) = (q : Int) := by omega
        have e2 : decide (x = q) = false := by simp; omega
        have E1 := Lib.hid (show (if x < q then 1 else 0) = 1 by simp [h])
        have E2 := Lib.hid e2
        clear e2 h
        go_wp2
        go_roundg (ks.length - (j + 1))
        case rel => exact ⟨j + 1, by omega, rfl, by rw [T1.out, C1.out, E1.out]; go_num, by rw [T1.out, C2.out, E2.out, Bool.or_false], by go_num, HC.out, HB.out⟩
        case measure => omega
      · subst h
        have h1 : ¬ (x : Int) < (x : Int) := by omega
        have E1 := Lib.hid (show (if x < x then 1 else 0) = 0 by simp)
        go_wp2
        go_roundg (ks.length - (j + 1))
        case rel => exact ⟨j + 1, by omega, rfl, by rw [T1.out, C1.out, E1.out]; go_num, by rw [T1.out, C2.out]; simp, by go_num, HC.out, HB.out⟩
        case measure => omega
      · have h1 : ¬ (x : Int) < (q : Int) := by omega
        have h2 : ¬ (x : Int) = (q : Int) := by omega
        have e2 : decide (x = q) = false := by simp; omega
        have h3 : ¬ x < q := by omega
        have E1 := Lib.hid (show (if x < q then 1 else 0) = 0 by simp [h3])
        have E2 := Lib.hid e2
        clear e2 h h3
        go_wp2
        go_roundg (ks.length - (j + 1))
        case rel => exact ⟨j + 1, by omega, rfl, by rw [T1.out, C1.out, E1.out]; go_num, by rw [T1.out, C2.out, E2.out, Bool.or_false], by go_num, HC.out, HB.out⟩
        case measure => omega
    · obtain rfl : j = ks.length := by omega
      rw [List.take_length]
      have HB := Lib.hid hb
      clear hc hb
      go_wp2
      exact bodyPost_ret (v := .tuple #[.int .i64 (cnt ks q : Nat), .bool (hasB ks q)]) (by simp [results, Try.results16, go_sem]) rfl ⟨rfl, HB.out⟩
theorem find_no (x : Nd) (q : Nat) (hl : x.ks.length ≤ 1000) (hr : ¬ rightP x) (W : World) (hx : NR W x) :
    Calls Try.prog 10 #[ndV x, .int .u64 (q : Nat)] W fun e w' => e = .returned (.tuple #[.int .i64 0, .bool false]) ∧ Below W.heap.size W w' := by
  have RT := Lib.hid (fun W' h => right_any x (by omega) false (by simp [hr]) W' h)
  have K0 := Lib.hid (L0.start W x hx)
  clear hx hr
  go_enter Try.func10, Try.ntmps10
  go_wp2_with (go_at_call 14; refine (RT.out _ K0.out.r).mono ?_; rintro e w1 ⟨rfl, hn⟩; have K1 := Lib.hid (K0.out.next hn); clear hn)
  exact bodyPost_ret (v := .tuple #[.int .i64 0, .bool false]) (by simp [results, Try.results10, go_sem]) rfl ⟨rfl, K1.out.bl⟩
end Go.Proofs.Ytahpdifneajblaa
