/- What the first loop of VwordAfter keeps. -/
import Derived.Test.YtmpfajnieanfnaaVafter
import Derived.Maps.AppendAt
import Derived.OwnWalk
namespace Go.Proofs.Ytmpfajnieanfnaa
set_option linter.unusedVariables false
open Go.RowKit
def u64s (us : List Nat) : List Value := us.map fun u => .int .u64 (u : Nat)
theorem u64s_length (us : List Nat) : (u64s us).length = us.length := by simp [u64s]
theorem u64s_snoc (us : List Nat) (u : Nat) : u64s us ++ [.int .u64 (u : Nat)] = u64s (us ++ [u]) := by simp [u64s]
theorem infoU : (Try.prog.info? 22).map (fun i => (i.zero, i.size, i.bytes)) = some (some (.int .u64 0), 1, 8) := by kernel_rfl
theorem sliceU : Try.prog.underlying 35 = some (.slice 22) := by kernel_rfl
structure VW (w : World) (x i : Nat) (v : Value) (us : List Nat) (W : World) : Prop where
  lt : x < 18446744073709551616
  few : us.length ≤ i
  all : ∀ u ∈ us, aft u x i
  own : W.ownsRow w.heap.size 22 1 v us.length (u64s us)
  below : Below w.heap.size w W
theorem own_next {B base n : Nat} {e : TypeId} {v : Value} {xs : List Value} {W W' : World} (h : W.ownsRow base e 1 v n xs) (hn : Below W.heap.size W W') : W'.ownsRow base e 1 v n xs := by
  obtain ⟨h1, h2⟩ := h
  refine ⟨h1, ?_⟩
  rcases h2 with h2 | ⟨g, cap, cur, hv, hb, hh, h3⟩
  · exact .inl h2
  · refine .inr ⟨g, cap, cur, hv, hb, ?_, h3⟩
    rw [hn.block g ?_]
    · exact hh
    · rcases Nat.lt_or_ge g W.heap.size with hlt | hge
      · exact hlt
      · rw [Array.getElem?_eq_none hge] at hh; cases hh
section
variable {w W W' : World} {x i : Nat} {v v' : Value} {us : List Nat}
theorem VW.start (w : World) (x : Nat) (hx : x < 18446744073709551616) : VW w x 0 (.slice none 0 0) [] w :=
  ⟨hx, by simp, by simp, World.ownsRow_nil _ _ _ _, Below.refl _ _⟩
theorem VW.next (h : VW w x i v us W) (hn : Below W.heap.size W W') : VW w x i v us W' :=
  ⟨h.lt, h.few, h.all, own_next (B := 0) h.own hn, h.below.trans (hn.mono h.below.size)⟩
theorem VW.alloc (h : VW w x i v us W) (o : Obj) : VW w x i v us (W.alloc o) :=
  ⟨h.lt, h.few, h.all, h.own.alloc o, h.below.alloc h.below.size o⟩
theorem VW.keep (h : VW w x i v us W) (k : Int) (h0 : 0 ≤ k) (hi : i < 1000) : VW w (vStep k x) (i + 1) v us W :=
  ⟨vStep_lt h.lt, Nat.le_succ_of_le h.few, fun u hu => aft_step h0 hi (h.all u hu), h.own, h.below⟩
theorem VW.add (h : VW w x i v us W) (k : Int) (hk : 2 ≤ k) (hi : i < 1000) (ho : W'.ownsRow w.heap.size 22 1 v' (us.length + 1) (u64s us ++ [.int .u64 (undoN x : Nat)])) (hg : W.grownBy W' v.ownBlock) :
    VW w (vStep k x) (i + 1) v' (us ++ [undoN x]) W' := by
  refine ⟨vStep_lt h.lt, by have := h.few; simp; omega, ?_, ?_, ?_⟩
  · intro u hu
    rcases List.mem_append.1 hu with hu | hu
    · exact aft_step (by omega) hi (h.all u hu)
    · obtain rfl : u = undoN x := by simpa using hu
      exact aft_new i hk
  · rw [u64s_snoc] at ho
    simpa using ho
  · exact h.below.grown hg h.below.size (fun k e => (h.own.lt k e).1)
end
end Go.Proofs.Ytmpfajnieanfnaa
