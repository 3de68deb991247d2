/- hword.Turns's iterator: what it hands a loop's body, whatever the body does that keeps the list's block. -/
import Derived.RangeFuncNested
import Derived.RangeFuncBound
import Derived.RangeFuncCalls
import Derived.RangeFuncLeaves
import Derived.RangeFuncBox
import Derived.Shelf.Abstract
import Derived.Shelf.RegionOpen
import Derived.WalkKit
import Derived.OwnWalkIn
import Derived.TacticsInMore
import Derived.LoopNIn
import Derived.LoopIn
import Derived.Maps.AppendAt
import Derived.Test.YtlaafljigmflkaaTurns
namespace Go.Proofs.Ytlaafljigmflkaa
set_option linter.unusedVariables false
open Go.RowKit Go.Shelf
attribute [local go_sem] Oper.semAt_some
/-- The head behind k turns. -/
def hdN (w : Nat) (zs : List Int) : Nat → Nat
  | 0 => w
  | k + 1 => hwTurn (hdN w zs k) (zs.getD k 0)
theorem hdN_lt (w : Nat) (zs : List Int) (hw : w < 18446744073709551616) : ∀ k, hdN w zs k < 18446744073709551616
  | 0 => hw
  | k + 1 => hwMake_lt _ _
/-- What has come when k rounds are over. -/
def hds (w : Nat) (zs : List Int) (k : Nat) : List Nat := (List.range k).map fun j => hdN w zs (j + 1)
theorem hds_succ (w : Nat) (zs : List Int) (k : Nat) : hds w zs (k + 1) = hds w zs k ++ [hdN w zs (k + 1)] := by simp [hds, List.range_succ]
theorem hds_length (w : Nat) (zs : List Int) (k : Nat) : (hds w zs k).length = k := by simp [hds]
/-- What a round keeps: the block of the list that was cloned. -/
def KpB (g : Nat) (W W' : World) : Prop := W'.heap[g]? = W.heap[g]?
set_option maxRecDepth 100000 in
set_option maxHeartbeats 2000000 in
theorem it1_in (n : Nat) (hn : 1 ≤ n) (l Bw Bs g len cap w : Nat) (hw : w < 18446744073709551616) (zs : List Int) (hl : len ≤ 100000) (J Jx : List Nat → World → Prop) (B0 : Nat) (hJ : AbidesFrom B0 J)
    (hY : ∀ pre x W1, J pre W1 → pre.length < len → YieldAt Fence.wide (n - 1) Try.prog l #[.int .u64 (x : Nat)] W1 fun e W' =>
      (e = .returned (.bool true) ∧ J (pre ++ [x]) W' ∧ KpB g W1 W') ∨ (e = .returned (.bool false) ∧ Jx (pre ++ [x]) W'))
    (W : World) (hBw : W.cell? ⟨Bw, 0, none⟩ = some (.int .u64 (w : Nat))) (hBs : W.cell? ⟨Bs, 0, none⟩ = some (.slice (some ⟨g, 0, none⟩) len cap)) (hc : ∀ j, j < len → W.cell? ⟨g, j, none⟩ = some (.int .i64 (zs.getD j 0))) (h0 : J [] W) :
    CallsIn Fence.wide n Try.prog 19 #[.func (.yield l) #[] #[], .pointer (some ⟨Bw, 0, none⟩), .pointer (some ⟨Bs, 0, none⟩)] W fun e W' => (∃ v, e = .returned v) ∧
      ((∃ ys, ys = hds w zs len ∧ J ys W') ∨ (∃ pre, (∃ k, k ≤ len ∧ pre = hds w zs k) ∧ Jx pre W')) := by
  have HC := Lib.hid hc
  have HY := Lib.hid hY
  clear hc hY
  have hmx : len ≤ 9223372036854775807 := by omega
  refine callsIn_of_wp Try.func19 rfl trivial ?_ rfl
  simp only [Try.ntmps19, List.size_toArray, List.length_cons, List.length_nil, Nat.reduceAdd, Nat.reduceSub, Array.replicate_succ, Array.replicate_zero, List.push_toArray, List.append_toArray, List.nil_append, List.cons_append]
  gi_wp2
  gi_loopw [4, 10] (fun h i wr => ∃ k : Nat, k ≤ len ∧ i = .int .i64 k ∧ h = .int .u64 ((hdN w zs k : Nat)) ∧ J (hds w zs k) wr ∧ KpB g W wr)
    (fun _ i _ => len - (intOf i).toNat)
  case atStart => exact ⟨0, Nat.zero_le _, rfl, rfl, h0, rfl⟩
  case round =>
    obtain ⟨k, hk, rfl, rfl, hJs, hkp⟩ := hrel
    by_cases hlt : k < len
    · have hcx : wr.cell? ⟨g, k, none⟩ = some (.int .i64 (zs.getD k 0)) := (World.cell?_of_block (w := W) (a := ⟨g, k, none⟩) hkp).trans (HC.out k hlt)
      have SN : RowKit.Hid (hdN w zs (k + 1) = hwTurn (hdN w zs k) (zs.getD k 0)) := Lib.hid rfl
      have SH := Lib.hid (hds_succ w zs k)
      have hdl := hdN_lt w zs hw k
      have HKP := Lib.hid hkp
      have HJS := Lib.hid hJs
      have HL := Lib.hid (hds_length w zs k)
      generalize zs.getD k 0 = z at hcx SN
      generalize hdN w zs k = h at SN hdl ⊢
      generalize hds w zs k = pre at SH HJS HL
      clear hkp hJs
      gi_wp2_with (first
        | (refine ⟨trivial, ?_⟩; gi_at_call 12; refine (callsIn_wide.2 (hturn_any h z hdl _)).mono ?_; rintro e w' ⟨rfl, m, rfl⟩; obtain ⟨fn, tmps, assign, body, hy, hR⟩ := HY.out pre (hwTurn h z) (wr.drewN m) (hJ _ _ _ none HJS.out ⟨rfl, rfl, rfl, Nat.le_refl _, fun _ _ _ => rfl⟩ (fun r e => by cases e)) (by rw [HL.out]; exact hlt)))
      refine hR.mono ?_
      rintro e W3 (⟨rfl, hJ3, hk3⟩ | ⟨rfl, hJx3⟩)
      · have HJ3 := Lib.hid hJ3
        have HK3 := Lib.hid hk3
        clear hJ3 hk3 hy hR
        gi_wp2
        go_roundw
        case rel => exact ⟨k + 1, by omega, by go_num, by rw [SN.out], by rw [SH.out, SN.out]; exact HJ3.out, (show W3.heap[g]? = _ from HK3.out).trans HKP.out⟩
        case measure => simp [intOf]; omega
      · have HJ3 := Lib.hid hJx3
        clear hJx3 hy hR
        gi_wp2
        refine bodyPost_ret (results_none rfl _ _ _) rfl ?_
        exact ⟨⟨_, rfl⟩, .inr ⟨_, ⟨k + 1, by omega, by rw [SH.out, SN.out]⟩, HJ3.out⟩⟩
    · obtain rfl : k = len := by omega
      have HJS := Lib.hid hJs
      clear hJs hkp
      gi_wp2
      go_end0
      exact ⟨⟨_, rfl⟩, .inl ⟨_, rfl, HJS.out⟩⟩
/-- The empty list. -/
theorem it1_nil (n l Bw Bs w : Nat) (A : Option Addr) (cap : Nat) (J : List Nat → World → Prop) (W : World) (hBw : W.cell? ⟨Bw, 0, none⟩ = some (.int .u64 (w : Nat))) (hBs : W.cell? ⟨Bs, 0, none⟩ = some (.slice A 0 cap)) (h0 : J [] W) :
    CallsIn Fence.wide n Try.prog 19 #[.func (.yield l) #[] #[], .pointer (some ⟨Bw, 0, none⟩), .pointer (some ⟨Bs, 0, none⟩)] W fun e W' => (∃ v, e = .returned v) ∧ J [] W' := by
  refine callsIn_of_wp Try.func19 rfl trivial ?_ rfl
  simp only [Try.ntmps19, List.size_toArray, List.length_cons, List.length_nil, Nat.reduceAdd, Nat.reduceSub, Array.replicate_succ, Array.replicate_zero, List.push_toArray, List.append_toArray, List.nil_append, List.cons_append]
  gi_wp2
  gi_loopw [10] (fun i wr => i = .int .i64 0 ∧ J [] wr) (fun _ _ => 0)
  case atStart => exact ⟨rfl, h0⟩
  case round =>
    obtain ⟨rfl, hJs⟩ := hrel
    have HJS := Lib.hid hJs
    clear hJs
    gi_wp2
    go_end0
    exact ⟨⟨_, rfl⟩, HJS.out⟩
/-- The list that was cloned, in the world where the loop begins. -/
structure OwnL (W : World) (g cap : Nat) (zs : List Int) (A : Option Addr) : Prop where
  e : zs.length = 0 ∨ (A = some ⟨g, 0, none⟩ ∧ (∃ cur, W.heap[g]? = some (.cells cur 3 (0, 0))) ∧ ∀ j, j < zs.length → W.cell? ⟨g, j, none⟩ = some (.int .i64 (zs.getD j 0)))
theorem OwnL.of_own {W : World} {B : Nat} {v : Value} {zs : List Int} (h : W.ownsRow B 3 1 v zs.length (ivs zs)) : ∃ A g cap, v = .slice A zs.length cap ∧ OwnL W g cap zs A ∧ (g = 0 ∨ g < W.heap.size) := by
  have hc := fun g (e : v.ownBlock = some g) => h.cells e
  rcases h.2 with ⟨rfl, h0⟩ | ⟨g, cap, cur, rfl, hb, hh, h3⟩
  · exact ⟨none, 0, 0, by rw [h0], ⟨.inl h0⟩, .inl rfl⟩
  · refine ⟨_, g, cap, rfl, ⟨.inr ⟨rfl, ⟨cur, hh⟩, fun j hj => ?_⟩⟩, .inr (Array.getElem?_eq_some_iff.1 hh).1⟩
    have hj' : (ivs zs)[j]? = some (.int .i64 (zs.getD j 0)) := by simp [ivs, List.getD, hj]
    have := hc g rfl j _ hj'
    rw [add_pl, Nat.zero_add] at this; exact this
theorem turns_stops (n : Nat) (hn : 1 ≤ n) (Bw Bs g cap w : Nat) (hw : w < 18446744073709551616) (zs : List Int) (A : Option Addr) (hl : zs.length ≤ 100000) (W0 : World) (h1 : Bw < W0.heap.size) (h2 : Bs < W0.heap.size) (hBw : W0.cell? ⟨Bw, 0, none⟩ = some (.int .u64 (w : Nat))) (hBs : W0.cell? ⟨Bs, 0, none⟩ = some (.slice A zs.length cap)) (ho : OwnL W0 g cap zs A) :
    SeqStopsK Fence.wide n Try.prog 19 #[.pointer (some ⟨Bw, 0, none⟩), .pointer (some ⟨Bs, 0, none⟩)] (fun x : Nat => #[Value.int .u64 (x : Nat)]) (KpB g) (fun ys => ys = hds w zs zs.length) (fun pre => ∃ k, k ≤ zs.length ∧ pre = hds w zs k) zs.length W0 := fun l J Jx W hW hJ _ hY h0 => by
  have c1 := (hW.cell (p := ⟨Bw, 0, none⟩) h1).trans hBw
  have c2 := (hW.cell (p := ⟨Bs, 0, none⟩) h2).trans hBs
  rcases ho.e with e | ⟨rfl, ⟨cur, hh⟩, hc⟩
  · rw [e] at c2
    exact (it1_nil n l Bw Bs w A cap J W c1 c2 h0).mono fun e' W' ⟨he, hj⟩ => ⟨he, .inl ⟨_, rfl, by rw [e]; exact hj⟩⟩
  · have hg : g < W0.heap.size := (Array.getElem?_eq_some_iff.1 hh).1
    exact it1_in n hn l Bw Bs g zs.length cap w hw zs hl J Jx W.heap.size hJ hY W c1 c2 (fun j hj => (hW.cell (p := ⟨g, j, none⟩) hg).trans (hc j hj)) h0
end Go.Proofs.Ytlaafljigmflkaa
