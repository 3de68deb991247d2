/- The example; what nobody made. -/
import Derived.Test.YthcmgagmbioofaaDoorMem7
namespace Go.Proofs.YthcmgagmbioofaaDoor
set_option linter.unusedVariables false
open Go.RowKit
abbrev row12 : Obj := .cells #[.int .i64 3, .int .i64 1, .int .u64 0, .int .u64 7, .int .i64 3, .int .i64 1, .int .u64 0, .int .u64 7, .int .i64 1, .int .i64 1, .int .u64 0, .int .u64 0] 40
abbrev asks3 : List Aq := [(3, 1, 0, 7), (3, 1, 0, 7), (1, 1, 0, 0)]
theorem ra_three (W : World) : RA4 (W.alloc row12) (some ⟨W.heap.size, 0, none⟩) W.heap.size 0 asks3 := by
  refine ⟨fun _ => rfl, fun _ => by simp, fun j hj => ?_, fun j hj => ?_, fun j hj => ?_, fun j hj => ?_⟩ <;>
    (match j, hj with
      | 0, _ => simp
      | 1, _ => simp
      | 2, _ => simp)
/-- What the law holds: the access's box, the memory that nobody made. -/
structure NK (w0 : World) (k a : Int) (o n : Nat) (W : World) : Prop where
  a0 : W.cell? ⟨w0.heap.size, 0, none⟩ = some (.int .i64 k)
  a1 : W.cell? ⟨w0.heap.size, 1, none⟩ = some (.int .i64 a)
  a2 : W.cell? ⟨w0.heap.size, 2, none⟩ = some (.int .u64 (o : Nat))
  a3 : W.cell? ⟨w0.heap.size, 3, none⟩ = some (.int .u64 (n : Nat))
  z : MR (w0.heap.size + 1) 0 0 0 0 0 none 0 0 W
  bl : Below w0.heap.size w0 W
theorem NK.next {w0 W W' : World} {k a : Int} {o n : Nat} (h : NK w0 k a o n W) (hn : Below W.heap.size W W') : NK w0 k a o n W' := by
  have hg : w0.heap.size < W.heap.size := World.block_lt_of_cell? W _ h.a0
  have e : ∀ i, W'.cell? ⟨w0.heap.size, i, none⟩ = W.cell? ⟨w0.heap.size, i, none⟩ := fun i => hn.cell (p := ⟨w0.heap.size, i, none⟩) hg
  exact ⟨(e _).trans h.a0, (e _).trans h.a1, (e _).trans h.a2, (e _).trans h.a3, h.z.next hn, h.bl.trans (hn.mono h.bl.size)⟩
end Go.Proofs.YthcmgagmbioofaaDoor
