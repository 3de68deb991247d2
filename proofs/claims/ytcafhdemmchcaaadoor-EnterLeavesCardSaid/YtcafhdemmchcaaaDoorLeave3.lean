/- enter.Leaves's iterator. -/
import Derived.RangeFuncNested
import Derived.RangeFuncBound
import Derived.RangeFuncCalls
import Derived.RangeFuncLeaves
import Derived.RangeFuncBox
import Derived.Shelf.Abstract
import Derived.Shelf.RegionOpen
import Derived.WalkKit
import Derived.OwnWalkIn
import Derived.TacticsInMore
import Derived.LoopNIn
import Derived.LoopIn
import Derived.Maps.AppendAt
import Derived.Sort.LoopGhostIn
import Derived.Test.YtcafhdemmchcaaaDoorLeave2
namespace Go.Proofs.YtcafhdemmchcaaaDoor
set_option linter.unusedVariables false
open Go.RowKit Go.Shelf
attribute [local go_sem] Oper.semAt_some
/-- What a thread that leaves goes through: N asks. -/
structure LSeq (N : Nat) (lst : Nat → Lv) (q : Nat → Int) : Prop where
  n : N ≤ 3
  d0 : ∀ k, k < N → ∀ W : World, Calls Tryd.prog 18 #[lvV (lst k)] W fun e w' => e = .returned (.bool false) ∧ Below W.heap.size W w'
  d1 : ∀ W : World, Calls Tryd.prog 18 #[lvV (lst N)] W fun e w' => e = .returned (.bool true) ∧ Below W.heap.size W w'
  w0 : ∀ k, k < N → ∀ W : World, Calls Tryd.prog 19 #[lvV (lst k)] W fun e w' => e = .returned (askV 2 (q k) 0 0) ∧ Below W.heap.size W w'
  w1 : ∀ W : World, Calls Tryd.prog 19 #[lvV (lst N)] W fun e w' => e = .returned (askV 0 0 0 0) ∧ Below W.heap.size W w'
  t0 : ∀ k, k < N → ∀ (n : Nat) (W : World), Calls Tryd.prog 20 #[lvV (lst k), .int .u64 n] W fun e w' => e = .returned (lvV (lst (k + 1))) ∧ Below W.heap.size W w'
  t1 : ∀ (n : Nat) (W : World), Calls Tryd.prog 20 #[lvV (lst N), .int .u64 n] W fun e w' => e = .returned (lvV (lst N)) ∧ Below W.heap.size W w'
/-- What has come when k rounds are over. -/
def qs (q : Nat → Int) (k : Nat) : List Int := (List.range k).map q
theorem qs_succ (q : Nat → Int) (k : Nat) : qs q (k + 1) = qs q k ++ [q k] := by simp [qs, List.range_succ]
theorem qs_length (q : Nat → Int) (k : Nat) : (qs q k).length = k := by simp [qs]
/-- What a round keeps: every Leave. -/
def KpL (W W' : World) : Prop := ∀ (g : Nat) (cs : Array Value), W.heap[g]? = some (Obj.cells cs 53 (0, 0)) → W'.heap[g]? = W.heap[g]?
theorem kpL_t {A B C : World} (h1 : KpL A B) (h2 : KpL B C) : KpL A C := fun g cs h => (h2 g cs ((h1 g cs h).trans h)).trans (h1 g cs h)
theorem kpL_b (n : Nat) (W : World) (l : Nat) (o o' : Obj) (hl : n ≤ l) (ho : W.heap[l]? = some o) (hc : o.isCells = false) (_ : o.isWalk = false) : KpL W (W.putObj l o') := fun g cs h => by
  by_cases e : l = g
  · subst e; rw [h] at ho; cases ho; cases hc
  · exact World.putObj_heap_other (by omega)
theorem abides_below {J : List Int → World → Prop} {B0 : Nat} (hJ : AbidesFrom B0 J) {s : List Int} {A B : World} (h : J s A) (hb : Below A.heap.size A B) : J s B :=
  hJ s A B none h ⟨hb.os, hb.tape, hb.output, hb.size, fun k hk _ => hb.block k hk⟩ (fun r e => by cases e)
theorem below_blk {A B : World} (hb : Below A.heap.size A B) {g : Nat} {o : Obj} (h : A.heap[g]? = some o) : B.heap[g]? = some o := (hb.block g (Array.getElem?_eq_some_iff.1 h).1).trans h
set_option maxRecDepth 100000 in
set_option maxHeartbeats 4000000 in
theorem itL_in (n : Nat) (hn : 1 ≤ n) (yl Bl Bt Bs : Nat) (s t f l p th : Int) (sl : Bool) (N : Nat) (lst : Nat → Lv) (q : Nat → Int) (hS : LSeq N lst q)
    (hNew : ∀ W : World, Calls Tryd.prog 17 #[layV s t f l p, .int .i64 th, .bool sl] W fun e w' => e = .returned (lvV (lst 0)) ∧ Below W.heap.size W w')
    (J Jx : List Int → World → Prop) (B0 : Nat) (hJ : AbidesFrom B0 J)
    (hY : ∀ pre x W1, J pre W1 → pre.length < N → YieldAt Fence.wide (n - 1) Tryd.prog yl #[askV 2 x 0 0] W1 fun e W' =>
      (e = .returned (.bool true) ∧ J (pre ++ [x]) W' ∧ KpL W1 W') ∨ (e = .returned (.bool false) ∧ Jx (pre ++ [x]) W'))
    (W : World) (hL : W.heap[Bl]? = some (.cells #[.int .i64 s, .int .i64 t, .int .i64 f, .int .i64 l, .int .i64 p] 27)) (hBt : W.cell? ⟨Bt, 0, none⟩ = some (.int .i64 th)) (hBs : W.cell? ⟨Bs, 0, none⟩ = some (.bool sl)) (h0 : J [] W) :
    CallsIn Fence.wide n Tryd.prog 34 #[.func (.yield yl) #[] #[], .pointer (some ⟨Bl, 0, none⟩), .pointer (some ⟨Bt, 0, none⟩), .pointer (some ⟨Bs, 0, none⟩)] W fun e W' => (∃ v, e = .returned v) ∧
      ((∃ ys, ys = qs q N ∧ J ys W') ∨ (∃ pre, (∃ k, k ≤ N ∧ pre = qs q k) ∧ Jx pre W')) := by
  have HS := Lib.hid hS
  have HY := Lib.hid hY
  have HN := Lib.hid hNew
  have H0 := Lib.hid h0
  have l0 : W.cell? ⟨Bl, 0, none⟩ = some (.int .i64 s) := by simp [World.cell?, hL]
  have l1 : W.cell? ⟨Bl, 1, none⟩ = some (.int .i64 t) := by simp [World.cell?, hL]
  have l2 : W.cell? ⟨Bl, 2, none⟩ = some (.int .i64 f) := by simp [World.cell?, hL]
  have l3 : W.cell? ⟨Bl, 3, none⟩ = some (.int .i64 l) := by simp [World.cell?, hL]
  have l4 : W.cell? ⟨Bl, 4, none⟩ = some (.int .i64 p) := by simp [World.cell?, hL]
  clear hS hY hNew h0 hL
  refine callsIn_of_wp Tryd.func34 rfl trivial ?_ rfl
  simp only [Tryd.ntmps34, List.size_toArray, List.length_cons, List.length_nil, Nat.reduceAdd, Nat.reduceSub, Array.replicate_succ, Array.replicate_zero, List.push_toArray, List.append_toArray, List.nil_append, List.cons_append]
  gi_wp2_with (refine ⟨trivial, ?_⟩; gi_at_call 17; refine (callsIn_wide.2 (HN.out _)).mono ?_; rintro e w1 ⟨rfl, hb⟩; have HB := Lib.hid hb; clear hb)
  gi_loopg [5] N (fun kk pp wr => ∃ (k g : Nat), kk = N - k ∧ k ≤ N ∧ pp = .pointer (some ⟨g, 0, none⟩) ∧ wr.heap[g]? = some (lvRow (lst k)) ∧ J (qs q k) wr)
  case atStart => exact ⟨0, w1.heap.size, by omega, by omega, rfl, World.alloc_heap_new w1 _, abides_below hJ H0.out (HB.out.alloc HB.out.size _)⟩
  case round =>
    obtain ⟨k, g, rfl, hk, rfl, hb, hJs⟩ := hrel
    have L0 := LC.block hb
    have c0 := L0.c0; have c1 := L0.c1; have c2 := L0.c2; have c3 := L0.c3; have c4 := L0.c4; have c5 := L0.c5; have c6 := L0.c6; have c7 := L0.c7; have c8 := L0.c8
    have HJ := Lib.hid hJs
    have HBK := Lib.hid hb
    clear hb hJs L0
    by_cases hlt : k < N
    · have D := Lib.hid (HS.out.d0 k hlt)
      have Q := Lib.hid (HS.out.w0 k hlt)
      have T := Lib.hid (show ∀ W : World, Calls Tryd.prog 20 #[lvV (lst k), .int .u64 0] W fun e w' => e = .returned (lvV (lst (k + 1))) ∧ Below W.heap.size W w' from fun W => HS.out.t0 k hlt 0 W)
      generalize hx1 : lst (k + 1) = x1 at T
      generalize hx0 : lst k = x0 at D Q T HBK c0 c1 c2 c3 c4 c5 c6 c7 c8
      have HX1 := Lib.hid hx1
      clear hx1 hx0
      gi_wp2_with (first
        | (refine ⟨trivial, ?_⟩; gi_at_call 18; refine (callsIn_wide.2 (D.out _)).mono ?_; rintro e w2 ⟨rfl, hb2⟩; have HB2 := Lib.hid (below_blk hb2 HBK.out); have HJ2 := Lib.hid (abides_below hJ HJ.out hb2); have L1 := LC.block HB2.out; clear hb2; have c0 := L1.c0; have c1 := L1.c1; have c2 := L1.c2; have c3 := L1.c3; have c4 := L1.c4; have c5 := L1.c5; have c6 := L1.c6; have c7 := L1.c7; have c8 := L1.c8; clear L1)
        | (refine ⟨trivial, ?_⟩; gi_at_call 19; refine (callsIn_wide.2 (Q.out _)).mono ?_; rintro e w3 ⟨rfl, hb3⟩; have HB3 := Lib.hid (below_blk hb3 HB2.out); have HJ3 := Lib.hid (abides_below hJ HJ2.out hb3); clear hb3; obtain ⟨fn, tmps, assign, body, hy, hR⟩ := HY.out (qs q k) (q k) w3 HJ3.out (by rw [qs_length]; exact hlt)))
      refine hR.mono ?_
      rintro e W4 (⟨rfl, hJ4, hk4⟩ | ⟨rfl, hJx4⟩)
      · have HB4 := Lib.hid ((hk4 g _ HB3.out).trans HB3.out)
        have HJ4 := Lib.hid hJ4
        have L1 := LC.block HB4.out
        clear c0 c1 c2 c3 c4 c5 c6 c7 c8
        have c0 := L1.c0; have c1 := L1.c1; have c2 := L1.c2; have c3 := L1.c3; have c4 := L1.c4; have c5 := L1.c5; have c6 := L1.c6; have c7 := L1.c7; have c8 := L1.c8
        clear hJ4 hk4 hy hR L1
        gi_wp2_with (refine ⟨trivial, ?_⟩; gi_at_call 20; refine (callsIn_wide.2 (T.out _)).mono ?_; rintro e w5 ⟨rfl, hb5⟩; have hnb : (W4.alloc (lvRow x0)).heap[W4.heap.size]? = some (lvRow x0) := World.alloc_heap_new W4 _; have HB5 := Lib.hid (below_blk hb5 hnb); have HN5 := Lib.hid (((Below.refl W4.heap.size W4).alloc (Nat.le_refl _) (lvRow x0)).trans (hb5.mono (by simp))); have L5 := LC.block HB5.out; clear hb5 hnb; have c0 := L5.c0; have c1 := L5.c1; have c2 := L5.c2; have c3 := L5.c3; have c4 := L5.c4; have c5 := L5.c5; have c6 := L5.c6; have c7 := L5.c7; have c8 := L5.c8; have fz := L5.fz; clear L5)
        gi_roundg (N - (k + 1))
        case rel => exact ⟨k + 1, W4.heap.size, rfl, by omega, rfl, by rw [HX1.out]; exact putL_block HB5.out x1, by rw [qs_succ]; exact abides_below hJ HJ4.out (belowL HN5.out (Nat.le_refl _) x1)⟩
        case measure => omega
      · have HJ4 := Lib.hid hJx4
        clear hJx4 hy hR
        gi_wp2
        refine bodyPost_ret (results_none rfl _ _ _) rfl ?_
        exact ⟨⟨_, rfl⟩, .inr ⟨_, ⟨k + 1, by omega, by rw [qs_succ]⟩, HJ4.out⟩⟩
    · obtain rfl : k = N := by omega
      have D := Lib.hid HS.out.d1
      generalize hx0 : lst k = x0 at D HBK c0 c1 c2 c3 c4 c5 c6 c7 c8
      clear hx0
      gi_wp2_with (refine ⟨trivial, ?_⟩; gi_at_call 18; refine (callsIn_wide.2 (D.out _)).mono ?_; rintro e w2 ⟨rfl, hb2⟩; have HJ2 := Lib.hid (abides_below hJ HJ.out hb2); clear hb2)
      go_end0
      exact ⟨⟨_, rfl⟩, .inl ⟨_, rfl, HJ2.out⟩⟩
end Go.Proofs.YtcafhdemmchcaaaDoor
