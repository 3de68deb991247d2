/- The example; what nobody made. -/
import Derived.Test.YtllkbofjegadeaaDoorMem7
namespace Go.Proofs.YtllkbofjegadeaaDoor
set_option linter.unusedVariables false
open Go.RowKit
abbrev row12 : Obj := .cells #[.int .i64 3, .int .i64 1, .int .u64 0, .int .u64 7, .int .i64 3, .int .i64 1, .int .u64 0, .int .u64 7, .int .i64 1, .int .i64 1, .int .u64 0, .int .u64 0] 34
abbrev asks3 : List Aq := [(3, 1, 0, 7), (3, 1, 0, 7), (1, 1, 0, 0)]
theorem ra_three (W : World) : RA4 (W.alloc row12) (some ⟨W.heap.size, 0, none⟩) W.heap.size 0 asks3 := by
  refine ⟨fun _ => rfl, fun _ => by simp, fun j hj => ?_, fun j hj => ?_, fun j hj => ?_, fun j hj => ?_⟩ <;>
    (match j, hj with
      | 0, _ => simp
      | 1, _ => simp
      | 2, _ => simp)
theorem all_three (W0 : World) (g gw : Nat) (W : World) (h : MB g gw 1 1 4 1 1 (List.replicate 28 0) W) (hg : W0.heap.size ≤ gw) (hb : Below W0.heap.size W0 W) :
    Calls Tryd.prog 21 #[.pointer (some ⟨g, 0, none⟩), .slice (some ⟨W.heap.size, 0, none⟩) 3 3] (W.alloc row12) fun e w' => ∃ b c : Nat, e = .returned (.slice (some ⟨b, 0, none⟩) 3 c) ∧ (w'.cell? ⟨b, 0, none⟩ = some (.int .u64 1) ∧ w'.cell? ⟨b, 1, none⟩ = some (.int .u64 0) ∧ w'.cell? ⟨b, 2, none⟩ = some (.int .u64 7)) ∧ Below W0.heap.size W0 w' := by
  refine (mall_any g gw 1 1 4 1 1 (List.replicate 28 0) asks3 (by simp) (by simp) (some ⟨W.heap.size, 0, none⟩) W.heap.size 0 3 (W.alloc row12) (h.next (ml1 _ _)) (ra_three W) (Nat.ne_of_gt h.b.lt)).mono ?_
  rintro e w' ⟨v, he, ho, hm, hn⟩
  have e1 : (alls (List.replicate 28 0) asks3).1 = [1, 0, 7] := by decide +kernel
  rw [e1] at ho
  obtain ⟨A, c, b, rfl, hs, _⟩ := SR.of_own ho
  obtain rfl := hs.a (by simp)
  exact ⟨b, c, he, ⟨hs.c 0 (by simp), hs.c 1 (by simp), hs.c 2 (by simp)⟩, (hb.trans ((ml1 _ _).mono hb.size)).trans (hn.below hg (by have := hb.size; simp; omega))⟩
set_option maxHeartbeats 1000000 in
theorem awake9_any (W : World) (hG : GL W) :
    Calls Tryd.prog 8 #[] W fun e w' => e = .returned (.bool true) ∧ Below W.heap.size W w' := by
  have NW := Lib.hid (mnew_yes 1 1 4 1 1 (by decide) 28 (by decide) (by omega) (by omega) W hG)
  have AL := Lib.hid (fun g gw W1 h h1 h2 => all_three W g gw W1 h h1 h2)
  clear hG
  go_enter Tryd.func8, Tryd.ntmps8
  go_wp2_with (first
    | (go_at_call 9; refine NW.out.mono ?_; rintro e w1 ⟨g, gw, rfl, hg1, hg2, hm, hb⟩; have HM := Lib.hid hm; have HG := Lib.hid hg2; have HB := Lib.hid hb; clear hm hg1 hg2 hb)
    | (go_at_call 21; refine (AL.out _ _ _ HM.out HG.out HB.out).mono ?_; rintro e w2 ⟨b, c, rfl, hc, hb⟩; have HX := Lib.hid hb; obtain ⟨x0, x1, x2⟩ := hc; clear hb))
  go_ret
  exact ⟨rfl, HX.out⟩
theorem mcopy_nil (W : World) : Calls Tryd.prog 16 #[.pointer none] W fun e w' => e = .returned (.pointer none) ∧ W = w' := by
  go_enter Tryd.func16, Tryd.ntmps16
  go_wp2
  go_ret
  exact ⟨rfl, rfl⟩
/-- What the law holds: the access's box, the memory that nobody made. -/
structure NK (w0 : World) (k a : Int) (o n : Nat) (W : World) : Prop where
  a0 : W.cell? ⟨w0.heap.size, 0, none⟩ = some (.int .i64 k)
  a1 : W.cell? ⟨w0.heap.size, 1, none⟩ = some (.int .i64 a)
  a2 : W.cell? ⟨w0.heap.size, 2, none⟩ = some (.int .u64 (o : Nat))
  a3 : W.cell? ⟨w0.heap.size, 3, none⟩ = some (.int .u64 (n : Nat))
  z : MR (w0.heap.size + 1) 0 0 0 0 0 none 0 0 W
  bl : Below w0.heap.size w0 W
theorem NK.next {w0 W W' : World} {k a : Int} {o n : Nat} (h : NK w0 k a o n W) (hn : Below W.heap.size W W') : NK w0 k a o n W' := by
  have hg : w0.heap.size < W.heap.size := World.block_lt_of_cell? W _ h.a0
  have e : ∀ i, W'.cell? ⟨w0.heap.size, i, none⟩ = W.cell? ⟨w0.heap.size, i, none⟩ := fun i => hn.cell (p := ⟨w0.heap.size, i, none⟩) hg
  exact ⟨(e _).trans h.a0, (e _).trans h.a1, (e _).trans h.a2, (e _).trans h.a3, h.z.next hn, h.bl.trans (hn.mono h.bl.size)⟩
theorem NK.start (w : World) (k a : Int) (o n : Nat) : NK w k a o n ((w.alloc (askRow k a o n)).alloc (.cells #[.int .i64 0, .int .i64 0, .int .i64 0, .int .i64 0, .int .i64 0, .slice none 0 0] 48)) :=
  ⟨by simp, by simp, by simp, by simp, ⟨by simp, by simp, by simp, by simp, by simp, by simp⟩, ((Below.refl _ _).alloc (Nat.le_refl _) _).alloc (by simp) _⟩
theorem write_one (pv : Option Addr) (a : Int) (gb : Nat) (W : World) (hgb : gb = W.heap.size) (HN : ∀ (a : Int) (W' : World), Below W.heap.size W W' → Calls Tryd.prog 23 #[.pointer pv, .int .i64 a] W' fun e w' => e = .returned (.bool false) ∧ W' = w') :
    Calls Tryd.prog 15 #[.pointer pv, .slice (some ⟨gb, 0, none⟩) 1 1] (W.alloc (.cells #[.int .i64 a, .int .u64 1] 42)) fun e w' => (∃ v, e = .returned v) ∧ Below W.heap.size W w' := by
  subst hgb
  refine (mwrite_no pv [(a, 1)] (by simp) (some ⟨W.heap.size, 0, none⟩) W.heap.size 0 1 _ (RW2.one W a 1) (fun a W' h => HN a W' ((ml1 _ _).trans (h.mono (by simp))))).mono ?_
  rintro e w' ⟨h1, h2⟩
  exact ⟨h1, (ml1 _ _).trans (h2.mono (by simp))⟩
theorem zero_has {w0 W : World} {k a : Int} {o n : Nat} (h : NK w0 k a o n W) (a' : Int) (W' : World) (hn : Below W.heap.size W W') : Calls Tryd.prog 23 #[.pointer (some ⟨w0.heap.size + 1, 0, none⟩), .int .i64 a'] W' fun e w' => e = .returned (.bool false) ∧ W' = w' :=
  has_any _ none 0 0 a' W' (h.next hn).z.c5 (by omega) false (by simp <;> omega)
end Go.Proofs.YtllkbofjegadeaaDoor
