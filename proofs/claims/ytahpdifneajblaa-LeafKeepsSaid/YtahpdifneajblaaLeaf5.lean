/- gleaninglaw12.awake. -/
import Derived.Test.YtahpdifneajblaaLeaf4
namespace Go.Proofs.Ytahpdifneajblaa
set_option linter.unusedVariables false
open Go.RowKit
theorem ris3 : ris [1, 3, 5] := by
  intro i hi
  match i, hi with
  | 0, _ => decide
  | 1, _ => decide
theorem split_three (y : Nd) (h1 : y.inner = false) (h2 : y.ks = [1, 3, 5]) (h3 : y.vs = [10, 30, 50]) (h4 : y.link = 7) (W : World) (hy : NR W y) :
    Calls Try.prog 19 #[ndV y] W fun e w' => ∃ a b : Nd, e = .returned (.tuple #[ndV a, ndV b, .int .u64 5]) ∧ Below W.heap.size W w' ∧ a.ks.length = 2 ∧ b.ks.length = 1 ∧ b.link = 7 ∧ a.link = 0 := by
  refine (split_yes y (by rw [h2]; decide) ⟨h1, by rw [h2, h3]; rfl, by rw [h2]; exact ris3⟩ (by rw [h2]; decide) W hy).mono ?_
  rintro e w' ⟨a, b, rfl, hb, _, _, _, _, l0, l1, k0, _, k1, _⟩
  refine ⟨a, b, ?_, hb, by rw [k0, h2]; rfl, by rw [k1, h2]; rfl, by rw [l1, h4], l0⟩
  rw [h2]; rfl
abbrev rs3 : List (Nat × Nat) := [(1, 10), (3, 30), (5, 50)]
abbrev row3 : Obj := .cells #[.int .u64 1, .int .u64 10, .int .u64 3, .int .u64 30, .int .u64 5, .int .u64 50] 46
theorem of_three (W : World) :
    Calls Try.prog 25 #[.int .u64 7, .slice (some ⟨W.heap.size, 0, none⟩) 3 3] (W.alloc row3) fun e w' => ∃ y : Nd, e = .returned (ndV y) ∧ NR w' y ∧ Below (W.alloc row3).heap.size (W.alloc row3) w' ∧ y.inner = false ∧ y.ks = [1, 3, 5] ∧ y.vs = [10, 30, 50] ∧ y.link = 7 := by
  have hr : RdR (W.alloc row3) (some ⟨W.heap.size, 0, none⟩) W.heap.size 0 rs3 :=
    ⟨fun _ => rfl, fun _ => by simp, fun j hj => by
      match j, hj with
      | 0, _ => simp
      | 1, _ => simp
      | 2, _ => simp, fun j hj => by
      match j, hj with
      | 0, _ => simp
      | 1, _ => simp
      | 2, _ => simp⟩
  refine (of_any 7 rs3 (by decide) [1, 3, 5] [10, 30, 50] rfl rfl true ⟨fun _ => ris3, fun _ => rfl⟩ _ _ _ 3 _ hr).mono ?_
  rintro e w' ⟨y, he, h1, h2, h3, h4, _⟩
  obtain ⟨k1, k2, k3⟩ := h4 rfl
  exact ⟨y, he, h1, h2, h3, k1, k2, k3⟩
set_option maxHeartbeats 1000000 in
theorem awake12_any (W : World) :
    Calls Try.prog 9 #[] W fun e w' => e = .returned (.bool true) ∧ Below W.heap.size W w' := by
  have OF := Lib.hid (of_three W)
  have B0 := Lib.hid (nl1 W row3)
  go_enter Try.func9, Try.ntmps9
  go_wp2_with (first
    | (go_at_call 25; refine OF.out.mono ?_; rintro e w1 ⟨y, rfl, hr, hn, h1, h2, h3, h4⟩; have B1 := Lib.hid (B0.out.trans (hn.mono B0.out.size)); have SP3 := Lib.hid (split_three y h1 h2 h3 h4 (w1.alloc (ndRow y)) (hr.next (nl1 _ _))); clear hr hn h1 h2 h3 h4 B0 OF)
    | (go_at_call 19; refine SP3.out.mono ?_; rintro e w2 ⟨a, b, rfl, hn, l1, l2, l3, l4⟩; have B2 := Lib.hid ((B1.out.alloc B1.out.size (ndRow y)).trans (hn.mono (by simp; have := B1.out.size; omega))); clear hn B1 SP3))
  go_ret
  exact ⟨rfl, (B2.out.alloc B2.out.size _).alloc (by simp; have := B2.out.size; omega) _⟩
end Go.Proofs.Ytahpdifneajblaa
