/- layout.Size, in, first, ofThread, ofSlot, At. -/
import Derived.Test.YthcmgagmbioofaaDoorLay
import Derived.Test.YthcmgagmbioofaaDoorField
namespace Go.Proofs.YthcmgagmbioofaaDoor
set_option linter.unusedVariables false
open Go.RowKit Go.Extern.Stop Go.Stop Go.Extern

def zeroL (s t f l p : Int) : Prop := s = 0 ∧ t = 0 ∧ f = 0 ∧ l = 0 ∧ p = 0
/-- How many words there are. -/
def sizeL (s t f : Int) : Int := if s = 0 then 0 else 3 + t + 2 * t + (s + 1) * (3 + 2 * f)
theorem mul_bd {a b x y : Int} (h0 : 0 ≤ a) (h1 : a ≤ x) (h2 : 0 ≤ b) (h3 : b ≤ y) (hy : 0 ≤ x) : 0 ≤ a * b ∧ a * b ≤ x * y :=
  ⟨Int.mul_nonneg h0 h2, Int.mul_le_mul h1 h3 h2 hy⟩
/-- Where the words of a kind begin in a slot. -/
def inL (f k : Int) : Int := if k = 7 then 1 else if k = 8 then 2 else if k = 9 then 3 else if k = 10 then 3 + f else 0
theorem in_any (s t f l p k : Int) (h : 0 ≤ f) (h2 : f ≤ 64) (hk : 6 ≤ k) (hk2 : k ≤ 10) (W : World) :
    Calls Tryd.prog 66 #[layV s t f l p, .int .i64 k] W fun e w' => e = .returned (.int .i64 (inL f k)) ∧ Below W.heap.size W w' := by
  obtain rfl | rfl | rfl | rfl | rfl : k = 6 ∨ k = 7 ∨ k = 8 ∨ k = 9 ∨ k = 10 := by omega
  all_goals
    go_enter Tryd.func66, Tryd.ntmps66
    go_wp2
    go_ret
    exact ⟨rfl, (Below.refl _ _).alloc (Nat.le_refl _) _⟩
abbrev placeV (k o i : Int) : Value := .agg #[.int .i64 k, .int .i64 o, .int .i64 i]
/-- The class of two blocks: a layout's and a place's. -/
structure K8 (B : Nat) (w0 : World) (g : Nat) (s t f l p : Int) (q : Nat) (k o i : Int) (W : World) : Prop extends K5 B w0 g s t f l p W where
  d0 : W.cell? ⟨q, 0, none⟩ = some (.int .i64 k)
  d1 : W.cell? ⟨q, 1, none⟩ = some (.int .i64 o)
  d2 : W.cell? ⟨q, 2, none⟩ = some (.int .i64 i)
theorem K8.next {B : Nat} {w0 : World} {g : Nat} {s t f l p : Int} {q : Nat} {k o i : Int} {W W' : World} (h : K8 B w0 g s t f l p q k o i W) (hb : Below W.heap.size W W') : K8 B w0 g s t f l p q k o i W' := by
  have c : ∀ j, W'.cell? ⟨q, j, none⟩ = W.cell? ⟨q, j, none⟩ := fun j => hb.cell (p := ⟨q, j, none⟩) (show q < W.heap.size from World.block_lt_of_cell? W _ h.d0)
  exact ⟨h.toK5.next hb, (c _).trans h.d0, (c _).trans h.d1, (c _).trans h.d2⟩
theorem below2 (W : World) (a b : Obj) : Below W.heap.size W ((W.alloc a).alloc b) := ((Below.refl _ _).alloc (Nat.le_refl _) _).alloc (by simp) _
/-- The number of a place's word. -/
def atL (s t f k o i : Int) : Int :=
  if 1 ≤ k ∧ k ≤ 3 then (if s = 0 ∨ o ≠ 0 ∨ i ≠ 0 then -1 else k - 1)
  else if k = 4 then (if o < 0 ∨ t ≤ o ∨ i ≠ 0 then -1 else 3 + o)
  else if k = 5 then (if o < 0 ∨ t ≤ o ∨ i < 0 ∨ 2 ≤ i then -1 else 3 + t + o * 2 + i)
  else if 6 ≤ k ∧ k ≤ 10 then (if s = 0 ∨ o < 0 ∨ s < o ∨ i < 0 ∨ (if k = 9 ∨ k = 10 then f else 1) ≤ i then -1 else 3 + t + 2 * t + o * (3 + 2 * f) + inL f k + i)
  else -1
set_option maxHeartbeats 1000000 in
theorem first_any (s t f l p k o i : Int) (h : okL s t f l p) (hk : 1 ≤ k) (hk2 : k ≤ 3) (W : World) :
    Calls Tryd.prog 51 #[layV s t f l p, placeV k o i] W fun e w' => e = .returned (.int .i64 (atL s t f k o i)) ∧ Below W.heap.size W w' := by
  unfold atL
  rw [if_pos ⟨hk, hk2⟩]
  rcases h with ⟨⟨h1, h2⟩, ⟨h3, h4⟩, ⟨h5, h6⟩, h7, h8⟩ | ⟨rfl, rfl, rfl, rfl, rfl⟩
  · have s0 : (s == 0) = false := by simp; omega
    by_cases ho : o = 0
    · subst ho
      by_cases hi : i = 0
      · subst hi
        rw [if_neg (by omega)]
        go_enter Tryd.func51, Tryd.ntmps51
        go_wp2
        go_ret
        exact ⟨rfl, below2 _ _ _⟩
      · have i0 : (i == 0) = false := by simp; omega
        rw [if_pos (by omega)]
        go_enter Tryd.func51, Tryd.ntmps51
        go_wp2
        go_ret
        exact ⟨rfl, below2 _ _ _⟩
    · have o0 : (o == 0) = false := by simp; omega
      rw [if_pos (by omega)]
      go_enter Tryd.func51, Tryd.ntmps51
      go_wp2
      go_ret
      exact ⟨rfl, below2 _ _ _⟩
  · rw [if_pos (by omega)]
    go_enter Tryd.func51, Tryd.ntmps51
    go_wp2
    go_ret
    exact ⟨rfl, below2 _ _ _⟩
end Go.Proofs.YthcmgagmbioofaaDoor
