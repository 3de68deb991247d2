/- New; the document's New. -/
import Derived.Test.YtllkbofjegadeaaDoorMem4
import Derived.Test.YtllkbofjegadeaaDoorPlace
import Derived.Laws.MakeOwn
import Derived.Deep.RegionHeld3
namespace Go.Proofs.YtllkbofjegadeaaDoor
set_option linter.unusedVariables false
open Go.RowKit
def zr (n : Nat) : Array Value := madeCells #[.int .u64 0] n
theorem zr_get (n i : Nat) (h : i < n) : (zr n)[i]? = some (.int .u64 0) := by
  unfold zr madeCells
  simp [h, Nat.mod_one]
theorem make_any (n : Nat) (hn : n ≤ 1000000) (w : World) : (Instr.makeSlice 29 (.int .i64 (n : Int)) (.int .i64 (n : Int))).run Tryd.prog w = .ok (.slice (some ⟨w.heap.size, 0, none⟩) n n) (w.alloc (.cells (zr n) 31)) := by
  obtain ⟨i0, hi, hz0, hz1, hz2⟩ := info_parts infoWd
  have := run_makeSlice (P := Tryd.prog) w 29 31 i0 (.int .u64 0) sliceWd hi hz0 .i64 .i64 n n (by omega) (Int.le_refl _) (by rw [hz1]; simp; omega) (by rw [hz2]; omega) (by omega)
  rw [hz1] at this
  simp only [Int.toNat_natCast, Nat.mul_one] at this
  exact this
theorem rep_get (n i : Nat) : (List.replicate n 0).getD i 0 = 0 := by
  rw [List.getD_eq_getElem?_getD]
  by_cases h : i < n
  · simp [h]
  · simp [h]
theorem WB.made (w : World) (n : Nat) : WB w.heap.size (List.replicate n 0) (w.alloc (.cells (zr n) 31)) := by
  refine ⟨fun i hi => ?_, fun i => by simp, by simp⟩
  rw [List.length_replicate] at hi
  rw [rep_get]
  simp [zr_get n i hi]
/-- The document's New. -/
theorem rnew_yes (s t f l p : Int) (h : okC s t f l p) (n : Nat) (hn : sizeL s t f = n) (hl : n ≤ 1000000) (W : World) :
    Calls Tryd.prog 10 #[cfgV s t f l p] W fun e w' => ∃ g, e = .returned (.slice (some ⟨g, 0, none⟩) n n) ∧ W.heap.size ≤ g ∧ WB g (List.replicate n 0) w' ∧ Below W.heap.size W w' := by
  have RS0 := fun W' => rsize_yes s t f l p h W'
  rw [hn] at RS0
  have RS := Lib.hid RS0
  have hmk := make_any n hl
  have HB := Lib.hid (ml1 W (.cells #[.int .i64 s, .int .i64 t, .int .i64 f, .int .i64 l, .int .i64 p] 23))
  clear RS0 hn h
  go_enter Tryd.func10, Tryd.ntmps10
  go_wp2_with (go_at_call 7; refine (RS.out _).mono ?_; rintro e w1 ⟨rfl, hn⟩; have HN := Lib.hid (HB.out.trans (hn.mono HB.out.size)); clear hn)
  go_ret
  exact ⟨w1.heap.size, rfl, HN.out.size, WB.made w1 n, HN.out.trans ((ml1 w1 _).mono HN.out.size)⟩
theorem rnew_no (s t f l p : Int) (h : ¬ okC s t f l p) (W : World) :
    Calls Tryd.prog 10 #[cfgV s t f l p] W fun e w' => ∃ g, e = .returned (.slice (some ⟨g, 0, none⟩) 0 0) ∧ W.heap.size ≤ g ∧ WB g [] w' ∧ Below W.heap.size W w' := by
  have RS := Lib.hid (fun W' => rsize_no s t f l p h W')
  have hmk := make_any 0 (by omega)
  have HB := Lib.hid (ml1 W (.cells #[.int .i64 s, .int .i64 t, .int .i64 f, .int .i64 l, .int .i64 p] 23))
  simp only [Int.natCast_zero] at hmk
  clear h
  go_enter Tryd.func10, Tryd.ntmps10
  go_wp2_with (go_at_call 7; refine (RS.out _).mono ?_; rintro e w1 ⟨rfl, hn⟩; have HN := Lib.hid (HB.out.trans (hn.mono HB.out.size)); clear hn)
  go_ret
  exact ⟨w1.heap.size, rfl, HN.out.size, WB.made w1 0, HN.out.trans ((ml1 w1 _).mono HN.out.size)⟩
/-- A layout's box. -/
structure LB (W0 : World) (g : Nat) (s t f l p : Int) (W : World) : Prop where
  c0 : W.cell? ⟨g, 0, none⟩ = some (.int .i64 s)
  c1 : W.cell? ⟨g, 1, none⟩ = some (.int .i64 t)
  c2 : W.cell? ⟨g, 2, none⟩ = some (.int .i64 f)
  c3 : W.cell? ⟨g, 3, none⟩ = some (.int .i64 l)
  c4 : W.cell? ⟨g, 4, none⟩ = some (.int .i64 p)
  bl : Below W0.heap.size W0 W
theorem LB.next {W0 W W' : World} {g : Nat} {s t f l p : Int} (h : LB W0 g s t f l p W) (hn : Below W.heap.size W W') : LB W0 g s t f l p W' := by
  have hg : g < W.heap.size := World.block_lt_of_cell? W _ h.c0
  have e : ∀ i, W'.cell? ⟨g, i, none⟩ = W.cell? ⟨g, i, none⟩ := fun i => hn.cell (p := ⟨g, i, none⟩) hg
  exact ⟨(e _).trans h.c0, (e _).trans h.c1, (e _).trans h.c2, (e _).trans h.c3, (e _).trans h.c4, h.bl.trans (hn.mono h.bl.size)⟩
theorem LB.all {W0 W : World} {g : Nat} {s t f l p : Int} (h : LB W0 g s t f l p W) : W.cell? ⟨g, 0, none⟩ = some (.int .i64 s) ∧ W.cell? ⟨g, 1, none⟩ = some (.int .i64 t) ∧ W.cell? ⟨g, 2, none⟩ = some (.int .i64 f) ∧ W.cell? ⟨g, 3, none⟩ = some (.int .i64 l) ∧ W.cell? ⟨g, 4, none⟩ = some (.int .i64 p) ∧ LB W0 g s t f l p W := ⟨h.c0, h.c1, h.c2, h.c3, h.c4, h⟩
theorem LB.of {W0 W : World} {g : Nat} {s t f l p : Int} (h : W.cell? ⟨g, 0, none⟩ = some (.int .i64 s) ∧ W.cell? ⟨g, 1, none⟩ = some (.int .i64 t) ∧ W.cell? ⟨g, 2, none⟩ = some (.int .i64 f) ∧ W.cell? ⟨g, 3, none⟩ = some (.int .i64 l) ∧ W.cell? ⟨g, 4, none⟩ = some (.int .i64 p) ∧ LB W0 g s t f l p W) : LB W0 g s t f l p W := h.2.2.2.2.2
theorem LB.start {W0 w1 : World} (h : Below W0.heap.size W0 w1) (s t f l p : Int) : LB W0 w1.heap.size s t f l p (w1.alloc (.cells #[.int .i64 s, .int .i64 t, .int .i64 f, .int .i64 l, .int .i64 p] 46)) :=
  ⟨by simp, by simp, by simp, by simp, by simp, h.trans ((ml1 _ _).mono h.size)⟩
abbrev memRow (s t f l p : Int) (g n : Nat) : Obj := .cells #[.int .i64 s, .int .i64 t, .int .i64 f, .int .i64 l, .int .i64 p, .slice (some ⟨g, 0, none⟩) n n] 48
theorem MB.made (w : World) (s t f l p : Int) (n : Nat) (hn : n ≤ 1000000) : MB (w.heap.size + 1) w.heap.size s t f l p (List.replicate n 0) ((w.alloc (.cells (zr n) 31)).alloc (memRow s t f l p w.heap.size n)) := by
  refine ⟨⟨n, ?_, by rw [List.length_replicate]; exact Nat.le_refl _, by unfold maxLen; omega⟩, (WB.made w n).next (ml1 _ _), by omega⟩
  rw [List.length_replicate]
  exact ⟨by simp, by simp, by simp, by simp, by simp, by simp⟩
set_option maxHeartbeats 1000000 in
theorem mnew_yes (s t f l p : Int) (h : okC s t f l p) (n : Nat) (hn : sizeL s t f = n) (h0 : 0 < n) (hl : n ≤ 1000000) (W : World) (hG : GL W) :
    Calls Tryd.prog 9 #[cfgV s t f l p] W fun e w' => ∃ g gw, e = .returned (.pointer (some ⟨g, 0, none⟩)) ∧ W.heap.size ≤ g ∧ W.heap.size ≤ gw ∧ MB g gw s t f l p (List.replicate n 0) w' ∧ Below W.heap.size W w' := by
  have HB := Lib.hid (ml1 W (.cells #[.int .i64 s, .int .i64 t, .int .i64 f, .int .i64 l, .int .i64 p] 23))
  have NW := Lib.hid (new_yes s t f l p _ (hG.next HB.out) h)
  have SZ0 := fun W' => size_any s t f l p (.inl h) W'
  rw [hn] at SZ0
  have SZ := Lib.hid SZ0
  have hmk := make_any n hl
  have hne : ((n : Int) == 0) = false := by simp; omega
  clear SZ0 hn h hG
  have t1 : True := trivial
  go_enter Tryd.func9, Tryd.ntmps9
  go_wp2_with (first
    | (go_at_call 22; refine NW.out.mono ?_; rintro e w1 ⟨rfl, hn⟩; have K1 := Lib.hid (LB.start (HB.out.trans (hn.mono HB.out.size)) s t f l p); clear hn)
    | (go_at_call 19; have _t := t1; refine (SZ.out _).mono ?_; rintro e w2 ⟨rfl, hn⟩; clear t1; have K2 := Lib.hid ((K1.out.next hn).next (Below.refl _ _).drew); clear hn))
  generalize w1.heap.size = g1 at K2 ⊢
  have hs : (fun w' => w'.cell? ⟨g1, 0, none⟩ = some (.int .i64 s) ∧ w'.cell? ⟨g1, 1, none⟩ = some (.int .i64 t) ∧ w'.cell? ⟨g1, 2, none⟩ = some (.int .i64 f) ∧ w'.cell? ⟨g1, 3, none⟩ = some (.int .i64 l) ∧ w'.cell? ⟨g1, 4, none⟩ = some (.int .i64 p) ∧ LB W g1 s t f l p w') _ := K2.out.all
  go_region_held3 (fun w' => w'.cell? ⟨g1, 0, none⟩ = some (.int .i64 s) ∧ w'.cell? ⟨g1, 1, none⟩ = some (.int .i64 t) ∧ w'.cell? ⟨g1, 2, none⟩ = some (.int .i64 f) ∧ w'.cell? ⟨g1, 3, none⟩ = some (.int .i64 l) ∧ w'.cell? ⟨g1, 4, none⟩ = some (.int .i64 p) ∧ LB W g1 s t f l p w') (first | with_reducible exact hs | with_reducible exact LB.all (LB.next (LB.of (by assumption)) (ml1 _ _)))
    ((go_at_call 19; refine (SZ.out _).mono ?_; rintro e w3 ⟨rfl, hn⟩; have K3 := Lib.hid (K2.out.next hn); have hs := K3.out.all; clear hn))
  all_goals (
    clear hs
    have KB := Lib.hid K3.out.bl
    go_wp2
    go_ret
    exact ⟨w3.heap.size + 1, w3.heap.size, rfl, by have := KB.out.size; omega, KB.out.size, MB.made w3 s t f l p n hl, KB.out.trans (((ml1 w3 _).alloc (by simp) _).mono KB.out.size)⟩)
theorem mnew_no (s t f l p : Int) (h : ¬ okC s t f l p) (W : World) (hG : GL W) :
    Calls Tryd.prog 9 #[cfgV s t f l p] W fun e w' => e = .returned (.pointer none) ∧ Below W.heap.size W w' := by
  have HB := Lib.hid (ml1 W (.cells #[.int .i64 s, .int .i64 t, .int .i64 f, .int .i64 l, .int .i64 p] 23))
  have NW := Lib.hid (new_no s t f l p _ (hG.next HB.out) h)
  have SZ := Lib.hid (show ∀ W, Calls Tryd.prog 19 #[layV 0 0 0 0 0] W fun e w' => e = .returned (.int .i64 0) ∧ Below W.heap.size W w' from fun W => size_any 0 0 0 0 0 (.inr ⟨rfl, rfl, rfl, rfl, rfl⟩) W)
  clear h hG
  go_enter Tryd.func9, Tryd.ntmps9
  go_wp2_with (first
    | (go_at_call 22; refine NW.out.mono ?_; rintro e w1 ⟨rfl, hn⟩; have K1 := Lib.hid (LB.start (HB.out.trans (hn.mono HB.out.size)) 0 0 0 0 0); clear hn)
    | (go_at_call 19; refine (SZ.out _).mono ?_; rintro e w2 ⟨rfl, hn⟩; have K2 := Lib.hid (K1.out.next hn); clear hn))
  go_ret
  exact ⟨rfl, K2.out.bl⟩
end Go.Proofs.YtllkbofjegadeaaDoor
