/- config.told, of no error, and of one. -/
import Derived.Test.YthcmgagmbioofaaDoorIs
namespace Go.Proofs.YthcmgagmbioofaaDoor
set_option linter.unusedVariables false
open Go.RowKit Go.Extern.Stop Go.Stop Go.Extern

def errorT (W : World) : Prop := W.cell? ⟨1, 0, none⟩ = some (.iface 118 (.agg #[.pointer (some ⟨2, 89, none⟩)]))
theorem errorT.next {W W' : World} (h : errorT W) (hb : Below W.heap.size W W') : errorT W' := (hb.cell (World.block_lt_of_cell? W _ h)).trans h
theorem below_of_le {B : Nat} {W W' : World} (h : Below B W W') (hB : W.heap.size ≤ B) : Below W.heap.size W W' := h.mono hB
theorem asWorld_below {s : ByteArray} {k : Int} {t B : Nat} {w0 w : World} (h : Below B w0 w) (hB : B ≤ t) (ht : t < w.heap.size) : Below B w0 (asWorld s k t w) := by
  unfold asWorld
  have h1 := h.alloc (by omega) (.cells #[.pointer (some ⟨t, 0, none⟩)] 95)
  have h2 := h1.alloc (by simp; omega) (.cells #[.pointer (some ⟨2, 95, none⟩), .pointer (some ⟨w.heap.size, 0, none⟩), .int .u64 150] 106)
  have h3 := h2.alloc (by simp; omega) (.cells #[.pointer (some ⟨2, 95, none⟩), .pointer (some ⟨w.heap.size, 0, none⟩), .int .u64 150] 106)
  have h4 := h3.alloc (by simp; omega) (.cells #[.string s, .iface 80 (.int .i64 k)] 93)
  exact (h4.setCell hB _).setCell hB _
theorem asWorld_cell {s : ByteArray} {k : Int} {t : Nat} {w : World} (o0 : Value) (ht : w.cell? ⟨t, 0, none⟩ = some o0) : (asWorld s k t w).cell? ⟨t, 0, none⟩ = some (.string s) := by
  have htl : t < w.heap.size := World.block_lt_of_cell? w _ ht
  unfold asWorld
  have h4 : ((((w.alloc (.cells #[.pointer (some ⟨t, 0, none⟩)] 95)).alloc (.cells #[.pointer (some ⟨2, 95, none⟩), .pointer (some ⟨w.heap.size, 0, none⟩), .int .u64 150] 106)).alloc (.cells #[.pointer (some ⟨2, 95, none⟩), .pointer (some ⟨w.heap.size, 0, none⟩), .int .u64 150] 106)).alloc (.cells #[.string s, .iface 80 (.int .i64 k)] 93)).cell? ⟨t, 0, none⟩ = some o0 := by
    rw [World.cell?_alloc_lt _ _ ⟨t, 0, none⟩ (by simp; omega), World.cell?_alloc_lt _ _ ⟨t, 0, none⟩ (by simp; omega), World.cell?_alloc_lt _ _ ⟨t, 0, none⟩ (by simp; omega), World.cell?_alloc_lt _ _ ⟨t, 0, none⟩ htl]; exact ht
  generalize ((((w.alloc (.cells #[.pointer (some ⟨t, 0, none⟩)] 95)).alloc (.cells #[.pointer (some ⟨2, 95, none⟩), .pointer (some ⟨w.heap.size, 0, none⟩), .int .u64 150] 106)).alloc (.cells #[.pointer (some ⟨2, 95, none⟩), .pointer (some ⟨w.heap.size, 0, none⟩), .int .u64 150] 106)).alloc (.cells #[.string s, .iface 80 (.int .i64 k)] 93)) = u at h4 ⊢
  go_simp

set_option maxHeartbeats 1000000 in
theorem told_nil (W : World) :
    Calls Tryd.prog 61 #[.nilIface] W fun e w' => e = .returned (.tuple #[.string ⟨#[]⟩, .int .i64 0]) ∧ Below W.heap.size W w' := by
  go_enter Tryd.func61, Tryd.ntmps61
  go_wp2
  go_ret2
  exact ⟨rfl, (Below.refl _ _).alloc (Nat.le_refl _) _⟩

set_option maxHeartbeats 2000000 in
theorem told_9 (s : ByteArray) (W : World) (hg : errorT W) :
    Calls Tryd.prog 61 #[.iface 93 (wrongV s 9)] W fun e w' => e = .returned (.tuple #[.string s, .int .i64 9]) ∧ Below W.heap.size W w' := by
  have hg1 : errorT (W.alloc (.cells #[.string ⟨#[]⟩, .nilIface] 93)) := hg.next ((Below.refl _ _).alloc (Nat.le_refl _) _)
  have H := Lib.hid (as_hit s 9 W.heap.size (.string ⟨#[]⟩) .nilIface _ hg1 (by simp) (by simp) (by simp))
  have I := Lib.hid (is_94 s)
  have B0 : Below W.heap.size W (asWorld s 9 W.heap.size (W.alloc (.cells #[.string ⟨#[]⟩, .nilIface] 93))) := asWorld_below ((Below.refl _ _).alloc (Nat.le_refl _) _) (Nat.le_refl _) (by simp)
  have C0 : (asWorld s 9 W.heap.size (W.alloc (.cells #[.string ⟨#[]⟩, .nilIface] 93))).cell? ⟨W.heap.size, 0, none⟩ = some (.string s) := asWorld_cell (.string ⟨#[]⟩) (by simp)
  generalize asWorld s 9 W.heap.size (W.alloc (.cells #[.string ⟨#[]⟩, .nilIface] 93)) = u at H B0 C0
  clear hg hg1
  have HC := Lib.hid C0
  clear C0
  go_enter Tryd.func61, Tryd.ntmps61
  go_wp2_with (first | (go_at_call 72; refine H.out.mono ?_; rintro e w1 ⟨rfl, rfl⟩) | (go_at_call 73; refine (I.out _).mono ?_; rintro e w2 ⟨rfl, hb⟩; have hc := (hb.cell (World.block_lt_of_cell? _ _ HC.out)).trans HC.out))
  go_ret2
  exact ⟨rfl, B0.trans (hb.mono B0.size)⟩
set_option maxHeartbeats 2000000 in
theorem told_4 (s : ByteArray) (W : World) (hg : errorT W) :
    Calls Tryd.prog 61 #[.iface 93 (wrongV s 4)] W fun e w' => e = .returned (.tuple #[.string s, .int .i64 4]) ∧ Below W.heap.size W w' := by
  have hg1 : errorT (W.alloc (.cells #[.string ⟨#[]⟩, .nilIface] 93)) := hg.next ((Below.refl _ _).alloc (Nat.le_refl _) _)
  have H := Lib.hid (as_hit s 4 W.heap.size (.string ⟨#[]⟩) .nilIface _ hg1 (by simp) (by simp) (by simp))
  have I := Lib.hid (is_44 s)
  have B0 : Below W.heap.size W (asWorld s 4 W.heap.size (W.alloc (.cells #[.string ⟨#[]⟩, .nilIface] 93))) := asWorld_below ((Below.refl _ _).alloc (Nat.le_refl _) _) (Nat.le_refl _) (by simp)
  have C0 : (asWorld s 4 W.heap.size (W.alloc (.cells #[.string ⟨#[]⟩, .nilIface] 93))).cell? ⟨W.heap.size, 0, none⟩ = some (.string s) := asWorld_cell (.string ⟨#[]⟩) (by simp)
  generalize asWorld s 4 W.heap.size (W.alloc (.cells #[.string ⟨#[]⟩, .nilIface] 93)) = u at H B0 C0
  clear hg hg1
  have HC := Lib.hid C0
  clear C0
  go_enter Tryd.func61, Tryd.ntmps61
  go_wp2_with (first | (go_at_call 72; refine H.out.mono ?_; rintro e w1 ⟨rfl, rfl⟩) | (go_at_call 73; refine (I.out _).mono ?_; rintro e w2 ⟨rfl, hb⟩; have hc := (hb.cell (World.block_lt_of_cell? _ _ HC.out)).trans HC.out))
  go_ret2
  exact ⟨rfl, B0.trans (hb.mono B0.size)⟩
end Go.Proofs.YthcmgagmbioofaaDoor
