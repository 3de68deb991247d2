/- HistoryBefore's worlds: two calls laid in new memory. -/
import Derived.Test.YtdfabagclnjoaaaOpenC
import Derived.Test.YtdfabagclnjoaaaTail
namespace Go.Proofs.Ytdfabagclnjoaaa
open Go.ChangeShapes Go.WideShapes Go.ChangeAt Go.RowKit
structure HB (w : World) (b0 b1 : Nat) (u0 u1 u2 u3 u4 u5 u6 u10 u11 v0 v1 v2 v3 v4 v5 v6 v10 v11 : Value) (fr to fr' to' : Int) (ov ov' : Bool) (A A' : Option Addr) (len cap len' cap' : Nat) (W : World) : Prop where
  bl : Below w.heap.size w W
  c0 : W.cell? ⟨b0, 0, none⟩ = some (u0)
  c1 : W.cell? ⟨b0, 1, none⟩ = some (u1)
  c2 : W.cell? ⟨b0, 2, none⟩ = some (u2)
  c3 : W.cell? ⟨b0, 3, none⟩ = some (u3)
  c4 : W.cell? ⟨b0, 4, none⟩ = some (u4)
  c5 : W.cell? ⟨b0, 5, none⟩ = some (u5)
  c6 : W.cell? ⟨b0, 6, none⟩ = some (u6)
  c7 : W.cell? ⟨b0, 7, none⟩ = some (.int .i64 fr)
  c8 : W.cell? ⟨b0, 8, none⟩ = some (.int .i64 to)
  c9 : W.cell? ⟨b0, 9, none⟩ = some (.bool ov)
  c10 : W.cell? ⟨b0, 10, none⟩ = some (u10)
  c11 : W.cell? ⟨b0, 11, none⟩ = some (u11)
  c12 : W.cell? ⟨b0, 12, none⟩ = some (.slice A len cap)
  d0 : W.cell? ⟨b1, 0, none⟩ = some (v0)
  d1 : W.cell? ⟨b1, 1, none⟩ = some (v1)
  d2 : W.cell? ⟨b1, 2, none⟩ = some (v2)
  d3 : W.cell? ⟨b1, 3, none⟩ = some (v3)
  d4 : W.cell? ⟨b1, 4, none⟩ = some (v4)
  d5 : W.cell? ⟨b1, 5, none⟩ = some (v5)
  d6 : W.cell? ⟨b1, 6, none⟩ = some (v6)
  d7 : W.cell? ⟨b1, 7, none⟩ = some (.int .i64 fr')
  d8 : W.cell? ⟨b1, 8, none⟩ = some (.int .i64 to')
  d9 : W.cell? ⟨b1, 9, none⟩ = some (.bool ov')
  d10 : W.cell? ⟨b1, 10, none⟩ = some (v10)
  d11 : W.cell? ⟨b1, 11, none⟩ = some (v11)
  d12 : W.cell? ⟨b1, 12, none⟩ = some (.slice A' len' cap')
theorem HB.next {w : World} {b0 b1 : Nat} {u0 u1 u2 u3 u4 u5 u6 u10 u11 v0 v1 v2 v3 v4 v5 v6 v10 v11 : Value} {fr to fr' to' : Int} {ov ov' : Bool} {A A' : Option Addr} {len cap len' cap' : Nat} {W W' : World} (h : HB w b0 b1 u0 u1 u2 u3 u4 u5 u6 u10 u11 v0 v1 v2 v3 v4 v5 v6 v10 v11 fr to fr' to' ov ov' A A' len cap len' cap' W) (hb : Below W.heap.size W W') : HB w b0 b1 u0 u1 u2 u3 u4 u5 u6 u10 u11 v0 v1 v2 v3 v4 v5 v6 v10 v11 fr to fr' to' ov ov' A A' len cap len' cap' W' :=
  have k : ∀ {b i : Nat} {v : Value}, W.cell? ⟨b, i, none⟩ = some v → W'.cell? ⟨b, i, none⟩ = some v := fun {b i _} e => (hb.cell (p := ⟨b, i, none⟩) (World.block_lt_of_cell? W _ e)).trans e
  ⟨h.bl.trans (hb.mono h.bl.size), k h.c0, k h.c1, k h.c2, k h.c3, k h.c4, k h.c5, k h.c6, k h.c7, k h.c8, k h.c9, k h.c10, k h.c11, k h.c12, k h.d0, k h.d1, k h.d2, k h.d3, k h.d4, k h.d5, k h.d6, k h.d7, k h.d8, k h.d9, k h.d10, k h.d11, k h.d12⟩
set_option linter.unusedSimpArgs false
set_option maxHeartbeats 1000000 in
theorem HB.start (w : World) (u0 u1 u2 u3 u4 u5 u6 u10 u11 v0 v1 v2 v3 v4 v5 v6 v10 v11 : Value) (fr to fr' to' : Int) (ov ov' : Bool) (A A' : Option Addr) (len cap len' cap' : Nat) : HB w w.heap.size (w.heap.size + 1) u0 u1 u2 u3 u4 u5 u6 u10 u11 v0 v1 v2 v3 v4 v5 v6 v10 v11 fr to fr' to' ov ov' A A' len cap len' cap' ((w.alloc (.cells #[u0, u1, u2, u3, u4, u5, u6, .int .i64 fr, .int .i64 to, .bool ov, u10, u11, .slice A len cap] 29)).alloc (.cells #[v0, v1, v2, v3, v4, v5, v6, .int .i64 fr', .int .i64 to', .bool ov', v10, v11, .slice A' len' cap'] 29)) := by
  have e0 : ((w.alloc (.cells #[u0, u1, u2, u3, u4, u5, u6, .int .i64 fr, .int .i64 to, .bool ov, u10, u11, .slice A len cap] 29)).alloc (.cells #[v0, v1, v2, v3, v4, v5, v6, .int .i64 fr', .int .i64 to', .bool ov', v10, v11, .slice A' len' cap'] 29)).heap[w.heap.size]? = some (Obj.cells #[u0, u1, u2, u3, u4, u5, u6, .int .i64 fr, .int .i64 to, .bool ov, u10, u11, .slice A len cap] 29) := (heap_alloc_old (w.alloc _) _ (r := w.heap.size) (by simp)).trans (heap_alloc_new w _)
  have e1 : ((w.alloc (.cells #[u0, u1, u2, u3, u4, u5, u6, .int .i64 fr, .int .i64 to, .bool ov, u10, u11, .slice A len cap] 29)).alloc (.cells #[v0, v1, v2, v3, v4, v5, v6, .int .i64 fr', .int .i64 to', .bool ov', v10, v11, .slice A' len' cap'] 29)).heap[w.heap.size + 1]? = some (Obj.cells #[v0, v1, v2, v3, v4, v5, v6, .int .i64 fr', .int .i64 to', .bool ov', v10, v11, .slice A' len' cap'] 29) := by
    have h := heap_alloc_new (w.alloc (.cells #[u0, u1, u2, u3, u4, u5, u6, .int .i64 fr, .int .i64 to, .bool ov, u10, u11, .slice A len cap] 29)) (.cells #[v0, v1, v2, v3, v4, v5, v6, .int .i64 fr', .int .i64 to', .bool ov', v10, v11, .slice A' len' cap'] 29)
    rwa [show (w.alloc (.cells #[u0, u1, u2, u3, u4, u5, u6, .int .i64 fr, .int .i64 to, .bool ov, u10, u11, .slice A len cap] 29)).heap.size = w.heap.size + 1 by simp] at h
  constructor
  · exact below2c _ _ _
  all_goals first | (unfold World.cell?; rw [e0]; rfl) | (unfold World.cell?; rw [e1]; rfl) | simp [World.cell?, e0] | simp [World.cell?, e1]
end Go.Proofs.Ytdfabagclnjoaaa
