/- New; the document's New. -/
import Derived.Test.YthcmgagmbioofaaDoorMem4
import Derived.Test.YthcmgagmbioofaaDoorPlace
import Derived.Laws.MakeOwn
import Derived.Deep.RegionHeld3
namespace Go.Proofs.YthcmgagmbioofaaDoor
set_option linter.unusedVariables false
open Go.RowKit
def zr (n : Nat) : Array Value := madeCells #[.int .u64 0] n
theorem zr_get (n i : Nat) (h : i < n) : (zr n)[i]? = some (.int .u64 0) := by
  unfold zr madeCells
  simp [h, Nat.mod_one]
theorem make_any (n : Nat) (hn : n ≤ 1000000) (w : World) : (Instr.makeSlice 24 (.int .i64 (n : Int)) (.int .i64 (n : Int))).run Tryd.prog w = .ok (.slice (some ⟨w.heap.size, 0, none⟩) n n) (w.alloc (.cells (zr n) 28)) := by
  obtain ⟨i0, hi, hz0, hz1, hz2⟩ := info_parts infoWd
  have := run_makeSlice (P := Tryd.prog) w 24 28 i0 (.int .u64 0) sliceWd hi hz0 .i64 .i64 n n (by omega) (Int.le_refl _) (by rw [hz1]; simp; omega) (by rw [hz2]; omega) (by omega)
  rw [hz1] at this
  simp only [Int.toNat_natCast, Nat.mul_one] at this
  exact this
theorem rep_get (n i : Nat) : (List.replicate n 0).getD i 0 = 0 := by
  rw [List.getD_eq_getElem?_getD]
  by_cases h : i < n
  · simp [h]
  · simp [h]
theorem WB.made (w : World) (n : Nat) : WB w.heap.size (List.replicate n 0) (w.alloc (.cells (zr n) 28)) := by
  refine ⟨fun i hi => ?_, fun i => by simp, by simp⟩
  rw [List.length_replicate] at hi
  rw [rep_get]
  simp [zr_get n i hi]
/-- The document's New. -/
theorem rnew_yes (s t f l p : Int) (h : okC s t f l p) (n : Nat) (hn : sizeL s t f = n) (hl : n ≤ 1000000) (W : World) :
    Calls Tryd.prog 41 #[cfgV s t f l p] W fun e w' => ∃ g, e = .returned (.slice (some ⟨g, 0, none⟩) n n) ∧ W.heap.size ≤ g ∧ WB g (List.replicate n 0) w' ∧ Below W.heap.size W w' := by
  have RS0 := fun W' => rsize_yes s t f l p h W'
  rw [hn] at RS0
  have RS := Lib.hid RS0
  have hmk := make_any n hl
  have HB := Lib.hid (ml1 W (.cells #[.int .i64 s, .int .i64 t, .int .i64 f, .int .i64 l, .int .i64 p] 23))
  clear RS0 hn h
  go_enter Tryd.func41, Tryd.ntmps41
  go_wp2_with (go_at_call 20; refine (RS.out _).mono ?_; rintro e w1 ⟨rfl, hn⟩; have HN := Lib.hid (HB.out.trans (hn.mono HB.out.size)); clear hn)
  go_ret
  exact ⟨w1.heap.size, rfl, HN.out.size, WB.made w1 n, HN.out.trans ((ml1 w1 _).mono HN.out.size)⟩
theorem rnew_no (s t f l p : Int) (h : ¬ okC s t f l p) (W : World) :
    Calls Tryd.prog 41 #[cfgV s t f l p] W fun e w' => ∃ g, e = .returned (.slice (some ⟨g, 0, none⟩) 0 0) ∧ W.heap.size ≤ g ∧ WB g [] w' ∧ Below W.heap.size W w' := by
  have RS := Lib.hid (fun W' => rsize_no s t f l p h W')
  have hmk := make_any 0 (by omega)
  have HB := Lib.hid (ml1 W (.cells #[.int .i64 s, .int .i64 t, .int .i64 f, .int .i64 l, .int .i64 p] 23))
  simp only [Int.natCast_zero] at hmk
  clear h
  go_enter Tryd.func41, Tryd.ntmps41
  go_wp2_with (go_at_call 20; refine (RS.out _).mono ?_; rintro e w1 ⟨rfl, hn⟩; have HN := Lib.hid (HB.out.trans (hn.mono HB.out.size)); clear hn)
  go_ret
  exact ⟨w1.heap.size, rfl, HN.out.size, WB.made w1 0, HN.out.trans ((ml1 w1 _).mono HN.out.size)⟩
/-- A layout's box. -/
structure LB (W0 : World) (g : Nat) (s t f l p : Int) (W : World) : Prop where
  c0 : W.cell? ⟨g, 0, none⟩ = some (.int .i64 s)
  c1 : W.cell? ⟨g, 1, none⟩ = some (.int .i64 t)
  c2 : W.cell? ⟨g, 2, none⟩ = some (.int .i64 f)
  c3 : W.cell? ⟨g, 3, none⟩ = some (.int .i64 l)
  c4 : W.cell? ⟨g, 4, none⟩ = some (.int .i64 p)
  bl : Below W0.heap.size W0 W
theorem LB.next {W0 W W' : World} {g : Nat} {s t f l p : Int} (h : LB W0 g s t f l p W) (hn : Below W.heap.size W W') : LB W0 g s t f l p W' := by
  have hg : g < W.heap.size := World.block_lt_of_cell? W _ h.c0
  have e : ∀ i, W'.cell? ⟨g, i, none⟩ = W.cell? ⟨g, i, none⟩ := fun i => hn.cell (p := ⟨g, i, none⟩) hg
  exact ⟨(e _).trans h.c0, (e _).trans h.c1, (e _).trans h.c2, (e _).trans h.c3, (e _).trans h.c4, h.bl.trans (hn.mono h.bl.size)⟩
theorem LB.all {W0 W : World} {g : Nat} {s t f l p : Int} (h : LB W0 g s t f l p W) : W.cell? ⟨g, 0, none⟩ = some (.int .i64 s) ∧ W.cell? ⟨g, 1, none⟩ = some (.int .i64 t) ∧ W.cell? ⟨g, 2, none⟩ = some (.int .i64 f) ∧ W.cell? ⟨g, 3, none⟩ = some (.int .i64 l) ∧ W.cell? ⟨g, 4, none⟩ = some (.int .i64 p) ∧ LB W0 g s t f l p W := ⟨h.c0, h.c1, h.c2, h.c3, h.c4, h⟩
theorem LB.of {W0 W : World} {g : Nat} {s t f l p : Int} (h : W.cell? ⟨g, 0, none⟩ = some (.int .i64 s) ∧ W.cell? ⟨g, 1, none⟩ = some (.int .i64 t) ∧ W.cell? ⟨g, 2, none⟩ = some (.int .i64 f) ∧ W.cell? ⟨g, 3, none⟩ = some (.int .i64 l) ∧ W.cell? ⟨g, 4, none⟩ = some (.int .i64 p) ∧ LB W0 g s t f l p W) : LB W0 g s t f l p W := h.2.2.2.2.2
theorem LB.start {W0 w1 : World} (h : Below W0.heap.size W0 w1) (s t f l p : Int) : LB W0 w1.heap.size s t f l p (w1.alloc (.cells #[.int .i64 s, .int .i64 t, .int .i64 f, .int .i64 l, .int .i64 p] 27)) :=
  ⟨by simp, by simp, by simp, by simp, by simp, h.trans ((ml1 _ _).mono h.size)⟩
end Go.Proofs.YthcmgagmbioofaaDoor
