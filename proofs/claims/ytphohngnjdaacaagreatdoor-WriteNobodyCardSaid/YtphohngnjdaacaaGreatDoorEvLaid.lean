/- What the listed variables give: GL; a closed call reckoned over it. -/
import Derived.Test.YtphohngnjdaacaaGreatDoorEvT
import Derived.Test.YtphohngnjdaacaaGreatDoorFrame
import Derived.LaidMore
import Derived.LaidHandle
import Derived.LaidLaws
import Derived.Deep.Strs
import Derived.Stop.Joined
import Derived.MakeChecks
namespace Go.Proofs.YtphohngnjdaacaaGreatDoor
open Go.ChangeShapes Go.WideShapes Go.ChangeAt Go.RowKit Go.Deep
/-- What config.bounds holds. -/
structure GL (W : World) : Prop where
  w0 : W.cell? ⟨0, 0, none⟩ = some (.string ⟨#[115, 108, 111, 116, 115]⟩)
  l0 : W.cell? ⟨0, 1, none⟩ = some (.int .i64 1)
  m0 : W.cell? ⟨0, 2, none⟩ = some (.int .i64 1000)
  w1 : W.cell? ⟨0, 3, none⟩ = some (.string ⟨#[116, 104, 114, 101, 97, 100, 115]⟩)
  l1 : W.cell? ⟨0, 4, none⟩ = some (.int .i64 1)
  m1 : W.cell? ⟨0, 5, none⟩ = some (.int .i64 64)
  w2 : W.cell? ⟨0, 6, none⟩ = some (.string ⟨#[102, 97, 110]⟩)
  l2 : W.cell? ⟨0, 7, none⟩ = some (.int .i64 4)
  m2 : W.cell? ⟨0, 8, none⟩ = some (.int .i64 64)
  w3 : W.cell? ⟨0, 9, none⟩ = some (.string ⟨#[108, 105, 109, 98, 111]⟩)
  l3 : W.cell? ⟨0, 10, none⟩ = some (.int .i64 1)
  m3 : W.cell? ⟨0, 11, none⟩ = some (.int .i64 64)
  w4 : W.cell? ⟨0, 12, none⟩ = some (.string ⟨#[112, 97, 116, 105, 101, 110, 99, 101]⟩)
  l4 : W.cell? ⟨0, 13, none⟩ = some (.int .i64 1)
  m4 : W.cell? ⟨0, 14, none⟩ = some (.int .i64 1048576)
abbrev laidVars : List (String × DataW Unit) := [("errors.errorType", Rows.laid_errors_errorType), ("gleaning/config.bounds", Rows.laid_gleaning_config_bounds)]
theorem ownK : ownKnob Tryz.prog.godebug = none := by kernel_rfl
theorem laidOutK : laidOutB Tryz.prog = true := by kernel_rfl
theorem gET : Tryz.prog.globalNamed "errors.errorType" = some 1 := by kernel_rfl
theorem gBD : Tryz.prog.globalNamed "gleaning/config.bounds" = some 0 := by kernel_rfl
theorem tBD : (Tryz.prog.globals[0]?).map (·.type) = some 183 := by kernel_rfl
/-- The heap that the start-up code leaves meets the condition. -/
theorem door_met (os : Os) (args : Array Value) : laidMetH Tryz.prog laidVars ((World.doorLaid Tryz.prog 400 os).forCall (fun _ _ => 0) ⟨#[], args, []⟩).memory :=
  laidMetH_of_parts3 (fuel := 8) (laidMet_of_run' 8 (by kernel_rfl) (by kernel_rfl)) (by kernel_rfl) (by kernel_rfl)
theorem bound_of_trod {H : Type} {enc : TypeId × Value → H} {w : World} {base m : Nat} {spare : Nat → Bool} {held : Bool} {cs : List Value} {x : DataW H × List MemPlace} {l : List UInt8} {a b : Int} (h : DataW.trod enc Tryz.prog w base spare held m 182 cs = some x)
    (hx : x.1 = .agg [.lit (.string l), .lit (.int .i64 a), .lit (.int .i64 b)]) : cs = [.string ⟨l.toArray⟩, .int .i64 a, .int .i64 b] := by
  have c9 : Tryz.prog.cellsOf 9 = 1 := by kernel_rfl
  have c3 : Tryz.prog.cellsOf 3 = 1 := by kernel_rfl
  have c67 : Tryz.prog.cellsOf 182 = 3 := by kernel_rfl
  obtain ⟨y0, y1, y2, n, rfl, hl, h0, h1, h2⟩ := trod_struct3 Tryz.underlying182 h
  rw [c67] at hl
  simp only [c9, c3] at h0 h1 h2
  match cs, hl with
  | [u0, u1, u2], _ =>
    obtain ⟨s, e0, d0, _⟩ := DataW.trod_string Tryz.underlying9 h0
    obtain ⟨i, e1, d1, _⟩ := DataW.trod_int Tryz.underlying3 h1
    obtain ⟨j, e2, d2, _⟩ := DataW.trod_int Tryz.underlying3 h2
    simp at e0 e1 e2
    subst e0 e1 e2
    simp only [d0, d1, d2, DataW.agg.injEq, List.cons.injEq, DataW.lit.injEq, Lit.string.injEq, Lit.int.injEq, true_and, and_true] at hx
    obtain ⟨hx0, hx1, hx2⟩ := hx
    subst hx1 hx2
    have : s = ⟨l.toArray⟩ := by
      have e : s.data = l.toArray := by rw [← hx0]
      cases s; simp_all
    rw [this]
theorem of_laid {W : World} (h : laidMetH Tryz.prog laidVars W) : GL W := by
  have h' : laidMet Tryz.prog [("gleaning/config.bounds", Rows.laid_gleaning_config_bounds)] W ∧ handlesMet Tryz.prog [("errors.errorType", Rows.laid_errors_errorType)] W := h
  · obtain ⟨ps, ⟨g0, t0, cs0, f0, p0, q0, hg0, ht0, hv0, hd0, _, _⟩, _, _⟩ := h'.1
    obtain rfl := Option.some.inj (gBD.symm.trans hg0)
    obtain rfl := Option.some.inj (tBD.symm.trans ht0)
    have cell := World.var?_cell gBD hv0
    obtain ⟨xs, m, _, hx, hlen, hn, hel⟩ := DataW.trod_array Tryz.underlying183 hd0
    have c67 : Tryz.prog.cellsOf 182 = 3 := by kernel_rfl
    have c68 : Tryz.prog.cellsOf 183 = 15 := by kernel_rfl
    rw [c68] at hlen
    simp only [c67] at hel
    have e0 := hel 0 (by omega)
    have e1 := hel 1 (by omega)
    have e2 := hel 2 (by omega)
    have e3 := hel 3 (by omega)
    have e4 := hel 4 (by omega)
    clear hel
    match xs, hn with
    | [x0, x1, x2, x3, x4], _ =>
      simp only [Prod.mk.injEq] at hx
      have hd : Rows.laid_gleaning_config_bounds (H := Unit) = .agg [x0.1, x1.1, x2.1, x3.1, x4.1] := hx.1
      simp only [Rows.laid_gleaning_config_bounds, DataW.agg.injEq, List.cons.injEq, and_true] at hd
      obtain ⟨d0, d1, d2, d3, d4⟩ := hd
      have b0 := bound_of_trod (e0.trans rfl) d0.symm
      have b1 := bound_of_trod (e1.trans rfl) d1.symm
      have b2 := bound_of_trod (e2.trans rfl) d2.symm
      have b3 := bound_of_trod (e3.trans rfl) d3.symm
      have b4 := bound_of_trod (e4.trans rfl) d4.symm
      obtain ⟨l⟩ := cs0
      simp only at hlen b0 b1 b2 b3 b4 cell
      match l, hlen with
      | [u0, u1, u2, u3, u4, u5, u6, u7, u8, u9, u10, u11, u12, u13, u14], _ =>
        simp at b0 b1 b2 b3 b4
        obtain ⟨rfl, rfl, rfl⟩ := b0
        obtain ⟨rfl, rfl, rfl⟩ := b1
        obtain ⟨rfl, rfl, rfl⟩ := b2
        obtain ⟨rfl, rfl, rfl⟩ := b3
        obtain ⟨rfl, rfl, rfl⟩ := b4
        exact ⟨by simpa using cell 0, by simpa using cell 1, by simpa using cell 2, by simpa using cell 3, by simpa using cell 4, by simpa using cell 5, by simpa using cell 6, by simpa using cell 7, by simpa using cell 8, by simpa using cell 9, by simpa using cell 10, by simpa using cell 11, by simpa using cell 12, by simpa using cell 13, by simpa using cell 14⟩
set_option linter.unusedSimpArgs false
def evBnds : List Value := [.string ⟨#[115, 108, 111, 116, 115]⟩, .int .i64 1, .int .i64 1000, .string ⟨#[116, 104, 114, 101, 97, 100, 115]⟩, .int .i64 1, .int .i64 64, .string ⟨#[102, 97, 110]⟩, .int .i64 4, .int .i64 64, .string ⟨#[108, 105, 109, 98, 111]⟩, .int .i64 1, .int .i64 64, .string ⟨#[112, 97, 116, 105, 101, 110, 99, 101]⟩, .int .i64 1, .int .i64 1048576]
theorem evHolds {w : World} (h : GL w) : Holds [(0, evBnds)] w := by
  refine holds_cons (fun i u hu => ?_) (holds_nil w)
  match i, hu with
  | 0, hu => simp only [List.getElem?_cons_succ, List.getElem?_cons_zero, Option.some.injEq] at hu; subst hu; exact h.w0
  | 1, hu => simp only [List.getElem?_cons_succ, List.getElem?_cons_zero, Option.some.injEq] at hu; subst hu; exact h.l0
  | 2, hu => simp only [List.getElem?_cons_succ, List.getElem?_cons_zero, Option.some.injEq] at hu; subst hu; exact h.m0
  | 3, hu => simp only [List.getElem?_cons_succ, List.getElem?_cons_zero, Option.some.injEq] at hu; subst hu; exact h.w1
  | 4, hu => simp only [List.getElem?_cons_succ, List.getElem?_cons_zero, Option.some.injEq] at hu; subst hu; exact h.l1
  | 5, hu => simp only [List.getElem?_cons_succ, List.getElem?_cons_zero, Option.some.injEq] at hu; subst hu; exact h.m1
  | 6, hu => simp only [List.getElem?_cons_succ, List.getElem?_cons_zero, Option.some.injEq] at hu; subst hu; exact h.w2
  | 7, hu => simp only [List.getElem?_cons_succ, List.getElem?_cons_zero, Option.some.injEq] at hu; subst hu; exact h.l2
  | 8, hu => simp only [List.getElem?_cons_succ, List.getElem?_cons_zero, Option.some.injEq] at hu; subst hu; exact h.m2
  | 9, hu => simp only [List.getElem?_cons_succ, List.getElem?_cons_zero, Option.some.injEq] at hu; subst hu; exact h.w3
  | 10, hu => simp only [List.getElem?_cons_succ, List.getElem?_cons_zero, Option.some.injEq] at hu; subst hu; exact h.l3
  | 11, hu => simp only [List.getElem?_cons_succ, List.getElem?_cons_zero, Option.some.injEq] at hu; subst hu; exact h.m3
  | 12, hu => simp only [List.getElem?_cons_succ, List.getElem?_cons_zero, Option.some.injEq] at hu; subst hu; exact h.w4
  | 13, hu => simp only [List.getElem?_cons_succ, List.getElem?_cons_zero, Option.some.injEq] at hu; subst hu; exact h.l4
  | 14, hu => simp only [List.getElem?_cons_succ, List.getElem?_cons_zero, Option.some.injEq] at hu; subst hu; exact h.m4
  | _ + 15, hu => simp at hu
theorem evNoNum : NoNum Tryz.prog := by unfold NoNum; kernel_rfl
theorem evMixed : Tryz.prog.follows .mixedOrders = true := by kernel_rfl
def isT : Option Value → Bool
  | some (.bool true) => true
  | _ => false
theorem isT_eq {x : Option Value} (h : isT x = true) : x = some (.bool true) := by
  unfold isT at h
  split at h
  · rfl
  · cases h
/-- A closed call that is reckoned true. -/
theorem reckoned {k : FuncId} {args : List Value} (h : isT (evV Tryz.prog 100 [(0, evBnds)] k args) = true) (w : World) (hG : GL w) :
    Calls Tryz.prog k args.toArray w fun e w' => e = .returned (.bool true) ∧ Below w.heap.size w w' :=
  closed evNoNum evMixed 100 (isT_eq h) w (evHolds hG)
end Go.Proofs.YtphohngnjdaacaaGreatDoor
