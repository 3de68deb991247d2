/- layout.inSlot, What, Config. -/
import Derived.Test.YthcmgagmbioofaaDoorWhat
import Derived.Deep.RegionWith
namespace Go.Proofs.YthcmgagmbioofaaDoor
set_option linter.unusedVariables false
open Go.RowKit Go.Extern.Stop Go.Stop Go.Extern
/-- A slot's word's place, by its number in the slot. -/
def inS (f x j : Int) : Int × Int × Int := if j < 3 then (6 + j, x, 0) else if j < 3 + f then (9, x, j - 3) else (10, x, j - 3 - f)
abbrev pl3 (x : Int × Int × Int) : Value := placeV x.1 x.2.1 x.2.2
theorem belowSets {B : Nat} {a w : World} (h : Below B a w) {g : Nat} (hg : B ≤ g) (u v x : Value) : Below B a (((w.setCell ⟨g, 0, none⟩ u).setCell ⟨g, 1, none⟩ v).setCell ⟨g, 2, none⟩ x) := ((h.setCell hg u).setCell hg v).setCell hg x
theorem ret_pl {a b c a' b' c' : Int} (h1 : a = a') (h2 : b = b') (h3 : c = c') : Ending.returned (placeV a b c) = .returned (placeV a' b' c') := by rw [h1, h2, h3]
/-- The class: a layout's block, and a place's that is to be stored into. -/
structure KW (B : Nat) (w0 : World) (g : Nat) (s t f l p : Int) (r : Nat) (W : World) : Prop extends K5 B w0 g s t f l p W where
  e0 : W.cell? ⟨r, 0, none⟩ = some (.int .i64 0)
  e1 : W.cell? ⟨r, 1, none⟩ = some (.int .i64 0)
  e2 : W.cell? ⟨r, 2, none⟩ = some (.int .i64 0)
  fz : ∀ i, W.frozen? ⟨r, i, none⟩ = false
theorem KW.next {B : Nat} {w0 : World} {g : Nat} {s t f l p : Int} {r : Nat} {W W' : World} (h : KW B w0 g s t f l p r W) (hb : Below W.heap.size W W') : KW B w0 g s t f l p r W' := by
  have hr : r < W.heap.size := World.block_lt_of_cell? W _ h.e0
  have c : ∀ j, W'.cell? ⟨r, j, none⟩ = W.cell? ⟨r, j, none⟩ := fun j => hb.cell (p := ⟨r, j, none⟩) hr
  exact ⟨h.toK5.next hb, (c _).trans h.e0, (c _).trans h.e1, (c _).trans h.e2, fun i => (hb.frozen (p := ⟨r, i, none⟩) hr).trans (h.fz i)⟩
theorem KW.drew {B : Nat} {w0 : World} {g : Nat} {s t f l p : Int} {r : Nat} {W : World} (h : KW B w0 g s t f l p r W) : KW B w0 g s t f l p r W.drew := ⟨⟨h.c0, h.c1, h.c2, h.c3, h.c4, h.bl.drew, h.le⟩, h.e0, h.e1, h.e2, h.fz⟩
theorem KW.start (W : World) (s t f l p : Int) : KW W.heap.size W W.heap.size s t f l p (W.heap.size + 1) ((W.alloc (.cells #[.int .i64 s, .int .i64 t, .int .i64 f, .int .i64 l, .int .i64 p] 27)).alloc (.cells #[.int .i64 0, .int .i64 0, .int .i64 0] 67)) :=
  ⟨⟨by simp, by simp, by simp, by simp, by simp, below2 _ _ _, by simp; omega⟩, by simp, by simp, by simp, fun i => by simp⟩
end Go.Proofs.YthcmgagmbioofaaDoor
