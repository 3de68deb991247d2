/- advance.threads: what it hands a loop's body. -/
import Derived.RangeFuncNested
import Derived.RangeFuncBound
import Derived.RangeFuncCalls
import Derived.RangeFuncLeaves
import Derived.RangeFuncBox
import Derived.Shelf.Abstract
import Derived.Shelf.RegionOpen
import Derived.WalkKit
import Derived.OwnWalkIn
import Derived.TacticsInMore
import Derived.LoopNIn
import Derived.LoopIn
import Derived.Maps.AppendAt
import Derived.Sort.LoopGhostIn
import Derived.Test.YthcmgagmbioofaaDoorMath
import Derived.Test.YthcmgagmbioofaaDoorFrame
namespace Go.Proofs.YthcmgagmbioofaaDoor
set_option linter.unusedVariables false
open Go.RowKit Go.Shelf
attribute [local go_sem] Oper.semAt_some
/-- The numbers of a word's bits that are 1, below k. -/
def bitsTo (w : Nat) (k : Nat) : List Int := ((List.range k).filter fun i => w.testBit i).map fun (i : Nat) => (i : Int)
theorem bitsTo_zero (w : Nat) : bitsTo w 0 = [] := rfl
theorem bitsTo_yes {w k : Nat} (h : w.testBit k = true) : bitsTo w (k + 1) = bitsTo w k ++ [(k : Int)] := by
  unfold bitsTo; rw [List.range_succ, List.filter_append, List.map_append]; simp [h]
theorem bitsTo_no {w k : Nat} (h : w.testBit k = false) : bitsTo w (k + 1) = bitsTo w k := by
  unfold bitsTo; rw [List.range_succ, List.filter_append, List.map_append]; simp [h]
theorem bitsTo_len (w k : Nat) : (bitsTo w k).length ≤ k := by
  unfold bitsTo; rw [List.length_map]; exact Nat.le_trans (List.length_filter_le _ _) (by simp)
theorem bit_test (w k : Nat) : (M.bitn w k = 1) ↔ w.testBit k = true := by
  unfold M.bitn
  rw [Nat.testBit_eq_decide_div_mod_eq]; simp
/-- A bit above all others. -/
theorem bitsTo_or (w k : Nat) (h : ∀ i, k ≤ i → w.testBit i = false) : ∀ n, bitsTo (w ||| 2 ^ k) n = if n ≤ k then bitsTo w n else bitsTo w n ++ [(k : Int)]
  | 0 => by simp [bitsTo_zero]
  | n + 1 => by
    have ih := bitsTo_or w k h n
    have ht : (w ||| 2 ^ k).testBit n = (w.testBit n || decide (k = n)) := by rw [Nat.testBit_or, Nat.testBit_two_pow]
    by_cases hn : n < k
    · rw [if_pos (by omega)] at ih ⊢
      have ht' : (w ||| 2 ^ k).testBit n = w.testBit n := by rw [ht]; simp; omega
      cases hb : w.testBit n with
      | true => rw [bitsTo_yes (ht'.trans hb), bitsTo_yes hb, ih]
      | false => rw [bitsTo_no (ht'.trans hb), bitsTo_no hb, ih]
    · by_cases he : n = k
      · subst he
        rw [if_pos (Nat.le_refl _)] at ih
        rw [if_neg (by omega), bitsTo_yes (by rw [ht]; simp), ih, bitsTo_no (h n (Nat.le_refl _))]
      · rw [if_neg (by omega)] at ih ⊢
        have hb := h n (by omega)
        rw [bitsTo_no (by rw [ht, hb]; simp; omega), bitsTo_no hb, ih]
theorem bitsTo_pow (k : Nat) (hk : k < 64) : bitsTo (2 ^ k) 64 = [(k : Int)] := by
  have h := bitsTo_or 0 k (fun _ _ => Nat.zero_testBit _) 64
  rw [if_neg (by omega), Nat.zero_or] at h
  rw [h]
  have z : ∀ n, bitsTo 0 n = [] := fun n => by
    induction n with
    | zero => rfl
    | succ n ih => rw [bitsTo_no (Nat.zero_testBit _), ih]
  rw [z]; rfl
theorem bitsTo_none (n : Nat) : bitsTo 0 n = [] := by
  induction n with
  | zero => rfl
  | succ n ih => rw [bitsTo_no (Nat.zero_testBit _), ih]
/-- The shape of a word with one bit. -/
theorem bits_pow_first (m k : Nat) (h : (2 ^ m).testBit k = true) : k = m := by
  rw [Nat.testBit_two_pow] at h
  exact (by simpa using h : m = k).symm
/-- What a round keeps: the word's box. -/
def KpW (g : Nat) (W W' : World) : Prop := W'.heap[g]? = W.heap[g]?
theorem kpW_t {g : Nat} {A B C : World} (h1 : KpW g A B) (h2 : KpW g B C) : KpW g A C := (show C.heap[g]? = B.heap[g]? from h2).trans h1
theorem kpW_b {g n : Nat} (hg : g < n) (W : World) (l : Nat) (o o' : Obj) (hl : n ≤ l) (_ : W.heap[l]? = some o) (_ : o.isCells = false) (_ : o.isWalk = false) : KpW g W (W.putObj l o') := World.putObj_heap_other (by omega)
set_option maxRecDepth 100000 in
set_option maxHeartbeats 2000000 in
theorem thr1_in (n : Nat) (hn : 1 ≤ n) (l Bw w : Nat) (hw : w < 18446744073709551616) (J Jx : List Int → World → Prop)
    (hY : ∀ pre x W1, J pre W1 → pre.length < 64 → YieldAt Fence.wide (n - 1) Tryd.prog l #[.int .i64 x] W1 fun e W' =>
      (e = .returned (.bool true) ∧ J (pre ++ [x]) W' ∧ KpW Bw W1 W') ∨ (e = .returned (.bool false) ∧ Jx (pre ++ [x]) W'))
    (W : World) (hBw : W.cell? ⟨Bw, 0, none⟩ = some (.int .u64 (w : Nat))) (h0 : J [] W) :
    CallsIn Fence.wide n Tryd.prog 55 #[.func (.yield l) #[] #[], .pointer (some ⟨Bw, 0, none⟩)] W fun e W' => (∃ v, e = .returned v) ∧
      ((∃ ys, ys = bitsTo w 64 ∧ J ys W') ∨ (∃ pre, (∃ k, k < 64 ∧ w.testBit k = true ∧ pre = bitsTo w k ++ [(k : Int)]) ∧ Jx pre W')) := by
  have HY := Lib.hid hY
  have HC := Lib.hid hBw
  clear hY hBw
  refine callsIn_of_wp Tryd.func55 rfl trivial ?_ rfl
  simp only [Tryd.ntmps55, List.size_toArray, List.length_cons, List.length_nil, Nat.reduceAdd, Nat.reduceSub, Array.replicate_succ, Array.replicate_zero, List.push_toArray, List.append_toArray, List.nil_append, List.cons_append]
  gi_wp2
  gi_loopw [4] (fun i wr => ∃ k : Nat, k ≤ 64 ∧ i = .int .i64 k ∧ J (bitsTo w k) wr ∧ KpW Bw W wr)
    (fun i _ => 64 - (intOf i).toNat)
  case atStart => exact ⟨0, Nat.zero_le _, rfl, h0, rfl⟩
  case round =>
    obtain ⟨k, hk, rfl, hJs, hkp⟩ := hrel
    have hcw : wr.cell? ⟨Bw, 0, none⟩ = some (.int .u64 (w : Nat)) := (World.cell?_of_block (w := W) (a := ⟨Bw, 0, none⟩) hkp).trans HC.out
    have HKP := Lib.hid hkp
    have HJS := Lib.hid hJs
    clear hkp hJs
    by_cases hlt : k < 64
    · have hbt := M.and_bit w (k : Int) hw
      simp only [Int.toNat_natCast] at hbt
      cases hb : w.testBit k with
      | true =>
        rw [decide_eq_true ((bit_test w k).2 hb)] at hbt
        have SH := Lib.hid (bitsTo_yes hb)
        have HL := Lib.hid (bitsTo_len w k)
        have HB := Lib.hid hb
        obtain ⟨fn, tmps, assign, body, hy, hR⟩ := HY.out (bitsTo w k) (k : Int) wr HJS.out (by have := HL.out; omega)
        clear hb
        gi_wp2
        refine hR.mono ?_
        rintro e W3 (⟨rfl, hJ3, hk3⟩ | ⟨rfl, hJx3⟩)
        · have HJ3 := Lib.hid hJ3
          have HK3 := Lib.hid hk3
          clear hJ3 hk3 hy hR
          gi_wp2
          go_roundw
          case rel => exact ⟨k + 1, by omega, by go_num, by rw [SH.out]; exact HJ3.out, (show W3.heap[Bw]? = _ from HK3.out).trans HKP.out⟩
          case measure => simp [intOf]; omega
        · have HJ3 := Lib.hid hJx3
          clear hJx3 hy hR
          gi_wp2
          refine bodyPost_ret (results_none rfl _ _ _) rfl ?_
          exact ⟨⟨_, rfl⟩, .inr ⟨_, ⟨k, hlt, HB.out, rfl⟩, HJ3.out⟩⟩
      | false =>
        rw [decide_eq_false (fun h => by rw [(bit_test w k).1 h] at hb; cases hb)] at hbt
        have SH := Lib.hid (bitsTo_no hb)
        clear hb
        gi_wp2
        refine ⟨fun _ h => (by cases h), ?_⟩
        gi_wp2
        go_roundw
        case rel => exact ⟨k + 1, by omega, by go_num, by rw [SH.out]; exact HJS.out, HKP.out⟩
        case measure => simp [intOf]; omega
    · obtain rfl : k = 64 := by omega
      gi_wp2
      go_end0
      exact ⟨⟨_, rfl⟩, .inl ⟨_, rfl, HJS.out⟩⟩
theorem threads_stops (n : Nat) (hn : 1 ≤ n) (Bw w : Nat) (hw : w < 18446744073709551616) (W0 : World) (h1 : Bw < W0.heap.size) (hBw : W0.cell? ⟨Bw, 0, none⟩ = some (.int .u64 (w : Nat))) :
    SeqStopsK Fence.wide n Tryd.prog 55 #[.pointer (some ⟨Bw, 0, none⟩)] (fun x : Int => #[Value.int .i64 x]) (KpW Bw) (fun ys => ys = bitsTo w 64) (fun pre => ∃ k, k < 64 ∧ w.testBit k = true ∧ pre = bitsTo w k ++ [(k : Int)]) 64 W0 := fun l J Jx W hW hJ _ hY h0 =>
  thr1_in n hn l Bw w hw J Jx hY W ((hW.cell (p := ⟨Bw, 0, none⟩) h1).trans hBw) h0
abbrev thV (B : Nat) : Value := .func (.func 55) #[] #[.pointer (some ⟨B, 0, none⟩)]
theorem threads_any (w : Nat) (W : World) :
    Calls Tryd.prog 33 #[.int .u64 (w : Nat)] W fun e w' => e = .returned (thV W.heap.size) ∧ w' = W.alloc (.cells #[.int .u64 (w : Nat)] 28) := by
  go_enter Tryd.func33, Tryd.ntmps33
  go_wp2
  go_ret
  exact ⟨rfl, rfl⟩
end Go.Proofs.YthcmgagmbioofaaDoor
