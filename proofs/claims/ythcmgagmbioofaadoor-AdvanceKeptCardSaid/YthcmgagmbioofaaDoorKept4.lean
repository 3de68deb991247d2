/- An epoch that goes on over words that nobody else turns. -/
import Derived.Test.YthcmgagmbioofaaDoorKept3
import Derived.Test.YthcmgagmbioofaaDoorAdv4
namespace Go.Proofs.YthcmgagmbioofaaDoor
set_option linter.unusedVariables false
open Go.RowKit
/-- Which other thread blocks, which is stalled; who is counted. -/
def blk (us : List Nat) (th : Int) (j : Nat) : Bool := decide ((j : Int) ≠ th) && awBlocks (us.getD (3 + j) 0) (us.getD 0 0)
def stl (us : List Nat) (p : Int) (j : Nat) : Bool := awStalled (us.getD (3 + j) 0) (us.getD 1 0) p
def evx (x : Nat) : Nat := x - x % 4 + 2
def upd (us : List Nat) (th : Int) : Nat → List Nat
  | 0 => us
  | j + 1 => if blk us th j = true then (upd us th j).set (3 + j) (evx (us.getD (3 + j) 0)) else upd us th j
def frs (us : List Nat) (th p : Int) (o : Nat) : Prop := ∀ j, j < o → blk us th j = true → stl us p j = true
def cnN (th : Int) (o : Nat) : Nat := o - (if th < o then 1 else 0)
theorem evx_lt {x : Nat} (h : x < 18446744073709551616) : evx x < 18446744073709551616 := by unfold evx; omega
theorem upd_len (us : List Nat) (th : Int) : ∀ o, (upd us th o).length = us.length
  | 0 => rfl
  | o + 1 => by
    unfold upd
    split
    · rw [List.length_set]; exact upd_len us th o
    · exact upd_len us th o
theorem upd_get (us : List Nat) (th : Int) : ∀ (o i : Nat), 3 + o ≤ us.length → (upd us th o).getD i 0 = if 3 ≤ i ∧ i < 3 + o ∧ blk us th (i - 3) = true then evx (us.getD i 0) else us.getD i 0
  | 0, i, _ => by rw [if_neg (by omega)]; rfl
  | o + 1, i, h => by
    have ih := upd_get us th o i (by omega)
    unfold upd
    by_cases hb : blk us th o = true
    · rw [if_pos hb, set_getD _ _ _ _ (by rw [upd_len]; omega)]
      by_cases he : i = 3 + o
      · subst he
        rw [if_pos rfl, if_pos ⟨by omega, by omega, by rw [show 3 + o - 3 = o by omega]; exact hb⟩]
      · rw [if_neg he, ih]
        by_cases hc : 3 ≤ i ∧ i < 3 + o ∧ blk us th (i - 3) = true
        · rw [if_pos hc, if_pos ⟨hc.1, by omega, hc.2.2⟩]
        · rw [if_neg hc, if_neg (fun hd => hc ⟨hd.1, by omega, hd.2.2⟩)]
    · rw [if_neg hb, ih]
      by_cases hc : 3 ≤ i ∧ i < 3 + o ∧ blk us th (i - 3) = true
      · rw [if_pos hc, if_pos ⟨hc.1, by omega, hc.2.2⟩]
      · rw [if_neg hc, if_neg (fun hd => hc ⟨hd.1, by
          rcases Nat.lt_or_ge i (3 + o) with h1 | h1
          · exact h1
          · obtain rfl : i = 3 + o := by omega
            exact absurd (by have := hd.2.2; rw [show 3 + o - 3 = o by omega] at this; exact this) hb, hd.2.2⟩)]
theorem upd_low (us : List Nat) (th : Int) (o i : Nat) (h : 3 + o ≤ us.length) (hi : i < 3 ∨ 3 + o ≤ i) : (upd us th o).getD i 0 = us.getD i 0 := by
  rw [upd_get us th o i h, if_neg (by omega)]
theorem blk_own (us : List Nat) {th : Int} {j : Nat} (h : (j : Int) = th) : blk us th j = false := by unfold blk; simp [h]
theorem upd_skip (us : List Nat) {th : Int} {j : Nat} (h : blk us th j = false) : upd us th (j + 1) = upd us th j := by
  show (if blk us th j = true then _ else _) = _
  rw [if_neg (by simp [h])]
theorem frs_skip {us : List Nat} {th p : Int} {j : Nat} (h : frs us th p j) (hb : blk us th j = true → stl us p j = true) : frs us th p (j + 1) := fun i hi h2 => by
  by_cases he : i = j
  · subst he; exact hb h2
  · exact h i (by omega) h2
theorem cn_own {th : Int} {j : Nat} (h : (j : Int) = th) : cnN th (j + 1) = cnN th j := by unfold cnN; rw [if_pos (by omega), if_neg (by omega)]; omega
theorem cn_next {th : Int} {j : Nat} (h : (j : Int) ≠ th) (h0 : 0 ≤ th) : cnN th (j + 1) = cnN th j + 1 := by
  unfold cnN
  by_cases hl : th < (j : Int)
  · rw [if_pos (by omega), if_pos hl]; omega
  · rw [if_neg (by omega), if_neg hl]; omega
/-- Where it is: the automaton, the words, how many accesses there were. -/
inductive Run (s t f l p th : Int) (us : List Nat) : Ad → List Nat → Nat → Prop
  | begins : Run s t f l p th us ⟨s, t, f, l, p, th, 1, 0, ((0 : Nat) : Int), 0, 0, ((0 : Nat) : Int), ((0 : Nat) : Int)⟩ us 0
  | ann (o : Nat) (wx v ju : Int) (n : Nat) (ho : (o : Int) < t) (hne : (o : Int) ≠ th) (hf : frs us th p o) (hn : n ≤ 1 + 3 * cnN th o) :
      Run s t f l p th us ⟨s, t, f, l, p, th, 2, 0, (us.getD 0 0 : Nat), (o : Nat), wx, v, ju⟩ (upd us th o) n
  | clk (o : Nat) (v : Int) (n : Nat) (ho : (o : Int) < t) (hne : (o : Int) ≠ th) (hf : frs us th p o) (hb : blk us th o = true) (hn : n ≤ 2 + 3 * cnN th o) :
      Run s t f l p th us ⟨s, t, f, l, p, th, 3, 0, (us.getD 0 0 : Nat), (o : Nat), (us.getD (3 + o) 0 : Nat), v, ((0 : Nat) : Int)⟩ (upd us th o) n
  | evi (o : Nat) (v : Int) (n : Nat) (ho : (o : Int) < t) (hne : (o : Int) ≠ th) (hf : frs us th p o) (hb : blk us th o = true) (hs : stl us p o = true) (hn : n ≤ 3 + 3 * cnN th o) :
      Run s t f l p th us ⟨s, t, f, l, p, th, 4, 0, (us.getD 0 0 : Nat), (o : Nat), (us.getD (3 + o) 0 : Nat), v, ((0 : Nat) : Int)⟩ (upd us th o) n
  | go (wx v ju : Int) (n : Nat) (hf : frs us th p t.toNat) (hn : (n : Int) ≤ 1 + 3 * (t - 1)) :
      Run s t f l p th us ⟨s, t, f, l, p, th, 5, 0, (us.getD 0 0 : Nat), 0, wx, v, ju⟩ (upd us th t.toNat) n
  | gone (wx v ju : Int) (n : Nat) (hf : frs us th p t.toNat) (hn : (n : Int) ≤ 2 + 3 * (t - 1)) :
      Run s t f l p th us ⟨s, t, f, l, p, th, 0, 3, (us.getD 0 0 : Nat), 0, wx, v, ju⟩ ((upd us th t.toNat).set 0 ((us.getD 0 0 + 1) % 18446744073709551616)) n
  | stuck (o : Nat) (wx v ju : Int) (n : Nat) (ho : (o : Int) < t) (hf : frs us th p o) (hb : blk us th o = true) (hs : stl us p o = false) (hn : (n : Int) ≤ 2 + 3 * (t - 1)) :
      Run s t f l p th us ⟨s, t, f, l, p, th, 0, 1, (us.getD 0 0 : Nat), (o : Nat), wx, v, ju⟩ (upd us th o) n
theorem run_turn {s t f l p th : Int} {us : List Nat} (st : Int) (ot wx v ju : Int) (m n : Nat) (h0 : 0 ≤ th) (ht : th < t) (hm : (m : Int) ≤ t) (hf : frs us th p m) (hn : n ≤ 1 + 3 * cnN th m) :
    Run s t f l p th us (Ad.turn ⟨s, t, f, l, p, th, st, 0, (us.getD 0 0 : Nat), ot, wx, v, ju⟩ (m : Nat)) (upd us th m) n := by
  unfold Ad.turn
  simp only
  obtain ⟨k, hk, hk2, hku, hkf, hkn, hkt⟩ : ∃ k : Nat, (if (m : Int) = th then (m : Int) + 1 else (m : Int)) = (k : Nat) ∧ (k : Int) ≠ th ∧ upd us th k = upd us th m ∧ frs us th p k ∧ n ≤ 1 + 3 * cnN th k ∧ (k : Int) ≤ t := by
    by_cases he : (m : Int) = th
    · rw [if_pos he]
      exact ⟨m + 1, by omega, by omega, upd_skip us (blk_own us he), frs_skip hf (fun h => by rw [blk_own us he] at h; cases h), by rw [cn_own he]; exact hn, by omega⟩
    · rw [if_neg he]
      exact ⟨m, rfl, he, rfl, hf, hn, hm⟩
  rw [hk]
  by_cases hl : t ≤ (k : Int)
  · rw [if_pos hl]
    obtain rfl : k = t.toNat := by omega
    rw [← hku]
    refine .go wx v ju n hkf ?_
    unfold cnN at hkn
    rw [if_pos (by omega)] at hkn
    omega
  · rw [if_neg hl, ← hku]
    exact .ann k wx v ju n (by omega) hk2 hkf hkn
end Go.Proofs.YthcmgagmbioofaaDoor
