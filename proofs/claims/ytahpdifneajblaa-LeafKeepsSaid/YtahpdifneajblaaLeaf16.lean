/- leaf.entry; glued of three parts. -/
import Derived.Test.YtahpdifneajblaaLeaf15
namespace Go.Proofs.Ytahpdifneajblaa
set_option linter.unusedVariables false
open Go.RowKit
theorem one_cell (W : World) (x : Nat) : (W.alloc (.cells #[.int .u64 (x : Nat)] 23)).cell? ⟨W.heap.size, 0, none⟩ = some (.int .u64 (x : Nat)) := by simp
abbrev eRow (W : World) : Obj := .cells #[.bool false, .slice (some ⟨W.heap.size + 1, 0, none⟩) 1 1, .slice (some ⟨W.heap.size + 1 + 1, 0, none⟩) 1 1, .int .u64 0] 25
set_option maxHeartbeats 2000000 in
theorem entry_any (k v : Nat) (W : World) :
    Calls Try.prog 29 #[.int .u64 (k : Nat), .int .u64 (v : Nat)] W fun e w' => ∃ y : Nd, e = .returned (ndV y) ∧ y.inner = false ∧ y.link = 0 ∧ y.ks = [k] ∧ y.vs = [v] ∧ NR w' y ∧ Below W.heap.size W w' := by
  have B3 := Lib.hid (nl3 W (eRow W) (.cells #[.int .u64 (k : Nat)] 23) (.cells #[.int .u64 (v : Nat)] 23))
  go_enter Try.func29, Try.ntmps29
  go_wp2
  have hone : (1 : Nat) ≤ maxLen := by unfold maxLen; omega
  have c1 := ((nl1 _ (.cells #[.int .u64 (v : Nat)] 23)).cell (p := ⟨(W.alloc (eRow W)).heap.size, 0, none⟩) (World.block_lt_of_cell? _ _ (one_cell (W.alloc (eRow W)) k))).trans (one_cell (W.alloc (eRow W)) k)
  have c2 := one_cell ((W.alloc (eRow W)).alloc (.cells #[.int .u64 (k : Nat)] 23)) v
  simp only [World.size_alloc] at c1 c2
  have q1 : ∀ j, j < [k].length → (((W.alloc (eRow W)).alloc (.cells #[.int .u64 (k : Nat)] 23)).alloc (.cells #[.int .u64 (v : Nat)] 23)).cell? ⟨W.heap.size + 1, 0 + j, none⟩ = some (.int .u64 (([k].getD j 0 : Nat))) := fun j hj => by
    obtain rfl : j = 0 := by simpa using hj
    exact c1
  have q2 : ∀ j, j < [v].length → (((W.alloc (eRow W)).alloc (.cells #[.int .u64 (k : Nat)] 23)).alloc (.cells #[.int .u64 (v : Nat)] 23)).cell? ⟨W.heap.size + 1 + 1, 0 + j, none⟩ = some (.int .u64 (([v].getD j 0 : Nat))) := fun j hj => by
    obtain rfl : j = 0 := by simpa using hj
    exact c2
  have R1 : RL (((W.alloc (eRow W)).alloc (.cells #[.int .u64 (k : Nat)] 23)).alloc (.cells #[.int .u64 (v : Nat)] 23)) (some ⟨W.heap.size + 1, 0, none⟩) 1 [k] := .inr (.inr ⟨_, 0, rfl, Nat.le_refl _, hone, q1⟩)
  have R2 : RL (((W.alloc (eRow W)).alloc (.cells #[.int .u64 (k : Nat)] 23)).alloc (.cells #[.int .u64 (v : Nat)] 23)) (some ⟨W.heap.size + 1 + 1, 0, none⟩) 1 [v] := .inr (.inr ⟨_, 0, rfl, Nat.le_refl _, hone, q2⟩)
  exact bodyPost_ret (v := .agg #[.bool false, .slice (some ⟨W.heap.size + 1, 0, none⟩) 1 1, .slice (some ⟨W.heap.size + 1 + 1, 0, none⟩) 1 1, .int .u64 0]) (by simp [results, Try.results29, go_sem]) rfl ⟨⟨false, [k], [v], 0, some ⟨W.heap.size + 1, 0, none⟩, 1, some ⟨W.heap.size + 1 + 1, 0, none⟩, 1⟩, rfl, rfl, rfl, rfl, rfl, ⟨R1, R2⟩, B3.out⟩
abbrev nd3Row (x y z : Nd) : Obj := .cells #[.bool x.inner, .slice x.A1 x.ks.length x.c1, .slice x.A2 x.vs.length x.c2, .int .u64 (x.link : Nat), .bool y.inner, .slice y.A1 y.ks.length y.c1, .slice y.A2 y.vs.length y.c2, .int .u64 (y.link : Nat), .bool z.inner, .slice z.A1 z.ks.length z.c1, .slice z.A2 z.vs.length z.c2, .int .u64 (z.link : Nat)] 25
theorem NB.three (W : World) (x y z : Nd) (hx : NR W x) (hy : NR W y) (hz : NR W z) : NB (W.alloc (nd3Row x y z)) W.heap.size [x, y, z] := by
  intro j hj
  match j, hj with
  | 0, _ => exact ⟨by simp, by simp, by simp, by simp, hx.next (nl1 _ _)⟩
  | 1, _ => exact ⟨by simp, by simp, by simp, by simp, hy.next (nl1 _ _)⟩
  | 2, _ => exact ⟨by simp, by simp, by simp, by simp, hz.next (nl1 _ _)⟩
theorem glued_three (link : Nat) (x y z : Nd) (c : Nat) (l1 : x.ks.length ≤ 1000) (l2 : x.vs.length ≤ 1000) (l3 : y.ks.length ≤ 1000) (l4 : y.vs.length ≤ 1000) (l5 : z.ks.length ≤ 1000) (l6 : z.vs.length ≤ 1000) (W : World) (hx : NR W x) (hy : NR W y) (hz : NR W z) :
    Calls Try.prog 27 #[.int .u64 (link : Nat), .slice (some ⟨W.heap.size, 0, none⟩) 3 c] (W.alloc (nd3Row x y z)) fun e w' => ∃ u : Nd, e = .returned (ndV u) ∧ u.inner = false ∧ u.link = link ∧ u.ks = x.ks ++ (y.ks ++ z.ks) ∧ u.vs = x.vs ++ (y.vs ++ z.vs) ∧ ON W.heap.size u w' ∧ Below W.heap.size W w' := by
  have := glued_any link [x, y, z] W.heap.size c (by simp) (by simp; omega) (by simp; omega) _ (NB.three W x y z hx hy hz)
  refine this.mono ?_
  rintro e w' ⟨u, he, h1, h2, h3, h4, h5, h6⟩
  exact ⟨u, he, h1, h2, by simpa using h3, by simpa using h4, h5.le (by simp), (nl1 W _).trans (h6.mono (by simp))⟩
end Go.Proofs.Ytahpdifneajblaa
