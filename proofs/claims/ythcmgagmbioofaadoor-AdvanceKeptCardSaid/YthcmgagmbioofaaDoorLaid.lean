/- What the listed variables give: GL. A world that meets them. -/
import Derived.Test.YthcmgagmbioofaaDoorFrame
import Derived.Test.YthcmgagmbioofaaDoorConf
import Derived.LaidMore
import Derived.LaidHandle
import Derived.LaidLaws
import Derived.Deep.Strs
import Derived.Stop.Joined
import Derived.MakeChecks
namespace Go.Proofs.YthcmgagmbioofaaDoor
open Go.ChangeShapes Go.WideShapes Go.ChangeAt Go.RowKit Go.Deep
abbrev laidVars : List (String × DataW Unit) := [("errors.errorType", Rows.laid_errors_errorType), ("gleaning/config.bounds", Rows.laid_gleaning_config_bounds)]
theorem ownK : ownKnob Tryd.prog.godebug = none := by kernel_rfl
theorem laidOutK : laidOutB Tryd.prog = true := by kernel_rfl
theorem gET : Tryd.prog.globalNamed "errors.errorType" = some 1 := by kernel_rfl
theorem gBD : Tryd.prog.globalNamed "gleaning/config.bounds" = some 0 := by kernel_rfl
theorem tBD : (Tryd.prog.globals[0]?).map (·.type) = some 101 := by kernel_rfl
theorem rtK : (Tryd.prog.cutTypes.find? (·.1 == "internal/reflectlite.rtype")).map (·.2) = some 118 := by kernel_rfl
theorem oneRowK : ((List.range Tryd.prog.types.size).filter fun t => Tryd.prog.rowNamed t [101, 114, 114, 111, 114]) = [89] := by kernel_rfl
/-- The heap that the start-up code leaves meets the condition. -/
theorem door_met (os : Os) (args : Array Value) : laidMetH Tryd.prog laidVars ((World.doorLaid Tryd.prog 400 os).forCall (fun _ _ => 0) ⟨#[], args, []⟩).memory :=
  laidMetH_of_parts3 (fuel := 8) (laidMet_of_run' 8 (by kernel_rfl) (by kernel_rfl)) (by kernel_rfl) (by kernel_rfl)
theorem bound_of_trod {H : Type} {enc : TypeId × Value → H} {w : World} {base m : Nat} {spare : Nat → Bool} {held : Bool} {cs : List Value} {x : DataW H × List MemPlace} {l : List UInt8} {a b : Int} (h : DataW.trod enc Tryd.prog w base spare held m 100 cs = some x)
    (hx : x.1 = .agg [.lit (.string l), .lit (.int .i64 a), .lit (.int .i64 b)]) : cs = [.string ⟨l.toArray⟩, .int .i64 a, .int .i64 b] := by
  have c9 : Tryd.prog.cellsOf 9 = 1 := by kernel_rfl
  have c3 : Tryd.prog.cellsOf 3 = 1 := by kernel_rfl
  have c67 : Tryd.prog.cellsOf 100 = 3 := by kernel_rfl
  obtain ⟨y0, y1, y2, n, rfl, hl, h0, h1, h2⟩ := trod_struct3 Tryd.underlying100 h
  rw [c67] at hl
  simp only [c9, c3] at h0 h1 h2
  match cs, hl with
  | [u0, u1, u2], _ =>
    obtain ⟨s, e0, d0, _⟩ := DataW.trod_string Tryd.underlying9 h0
    obtain ⟨i, e1, d1, _⟩ := DataW.trod_int Tryd.underlying3 h1
    obtain ⟨j, e2, d2, _⟩ := DataW.trod_int Tryd.underlying3 h2
    simp at e0 e1 e2
    subst e0 e1 e2
    simp only [d0, d1, d2, DataW.agg.injEq, List.cons.injEq, DataW.lit.injEq, Lit.string.injEq, Lit.int.injEq, true_and, and_true] at hx
    obtain ⟨hx0, hx1, hx2⟩ := hx
    subst hx1 hx2
    have : s = ⟨l.toArray⟩ := by
      have e : s.data = l.toArray := by rw [← hx0]
      cases s; simp_all
    rw [this]
theorem of_laid {W : World} (h : laidMetH Tryd.prog laidVars W) : GL W := by
  have h' : laidMet Tryd.prog [("gleaning/config.bounds", Rows.laid_gleaning_config_bounds)] W ∧ handlesMet Tryd.prog [("errors.errorType", Rows.laid_errors_errorType)] W := h
  refine ⟨?_, ?_⟩
  · obtain ⟨name, u, ty, e1, e2, e3, e4, e5⟩ := h'.2 _ (List.mem_singleton.2 rfl)
    have en : name = [101, 114, 114, 111, 114] := (Option.some.inj e1).symm
    subst en
    obtain rfl := Option.some.inj (rtK.symm.trans e2)
    have hm : ty ∈ (List.range Tryd.prog.types.size).filter fun t => Tryd.prog.rowNamed t [101, 114, 114, 111, 114] := List.mem_filter.2 ⟨List.mem_range.2 e3, e4⟩
    rw [oneRowK] at hm
    obtain rfl := List.mem_singleton.1 hm
    have hh : typeHandle Tryd.prog 89 = .pointer (some ⟨2, 89, none⟩) := by kernel_rfl
    rw [hh] at e5
    unfold errorT
    simpa using World.var?_cell gET e5 0
  · obtain ⟨ps, ⟨g0, t0, cs0, f0, p0, q0, hg0, ht0, hv0, hd0, _, _⟩, _, _⟩ := h'.1
    obtain rfl := Option.some.inj (gBD.symm.trans hg0)
    obtain rfl := Option.some.inj (tBD.symm.trans ht0)
    have cell := World.var?_cell gBD hv0
    obtain ⟨xs, m, _, hx, hlen, hn, hel⟩ := DataW.trod_array Tryd.underlying101 hd0
    have c67 : Tryd.prog.cellsOf 100 = 3 := by kernel_rfl
    have c68 : Tryd.prog.cellsOf 101 = 15 := by kernel_rfl
    rw [c68] at hlen
    simp only [c67] at hel
    have e0 := hel 0 (by omega)
    have e1 := hel 1 (by omega)
    have e2 := hel 2 (by omega)
    have e3 := hel 3 (by omega)
    have e4 := hel 4 (by omega)
    clear hel
    match xs, hn with
    | [x0, x1, x2, x3, x4], _ =>
      simp only [Prod.mk.injEq] at hx
      have hd : Rows.laid_gleaning_config_bounds (H := Unit) = .agg [x0.1, x1.1, x2.1, x3.1, x4.1] := hx.1
      simp only [Rows.laid_gleaning_config_bounds, DataW.agg.injEq, List.cons.injEq, and_true] at hd
      obtain ⟨d0, d1, d2, d3, d4⟩ := hd
      have b0 := bound_of_trod (e0.trans rfl) d0.symm
      have b1 := bound_of_trod (e1.trans rfl) d1.symm
      have b2 := bound_of_trod (e2.trans rfl) d2.symm
      have b3 := bound_of_trod (e3.trans rfl) d3.symm
      have b4 := bound_of_trod (e4.trans rfl) d4.symm
      obtain ⟨l⟩ := cs0
      simp only at hlen b0 b1 b2 b3 b4 cell
      match l, hlen with
      | [u0, u1, u2, u3, u4, u5, u6, u7, u8, u9, u10, u11, u12, u13, u14], _ =>
        simp at b0 b1 b2 b3 b4
        obtain ⟨rfl, rfl, rfl⟩ := b0
        obtain ⟨rfl, rfl, rfl⟩ := b1
        obtain ⟨rfl, rfl, rfl⟩ := b2
        obtain ⟨rfl, rfl, rfl⟩ := b3
        obtain ⟨rfl, rfl, rfl⟩ := b4
        exact ⟨by simpa using cell 0, by simpa using cell 1, by simpa using cell 2, by simpa using cell 3, by simpa using cell 4, by simpa using cell 5, by simpa using cell 6, by simpa using cell 7, by simpa using cell 8, by simpa using cell 9, by simpa using cell 10, by simpa using cell 11, by simpa using cell 12, by simpa using cell 13, by simpa using cell 14⟩
end Go.Proofs.YthcmgagmbioofaaDoor
