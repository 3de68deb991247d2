/- Arguments that are structs of integers, by value: opened. -/
import Derived.Test.YtdfabagclnjoaaaFrame
import Derived.Deep.Fields
namespace Go.Proofs.Ytdfabagclnjoaaa
open Go.ChangeShapes Go.WideShapes Go.ChangeAt Go.RowKit Go.Deep
variable {H : Type} {enc : TypeId × Value → H} {P : Program}
/-- A struct whose fields are one cell each: its cells, and what each field reads as. -/
theorem open_fields {w : World} {base b0 : Nat} {spare : Nat → Bool} {held : Bool} {r : Reach} {t : TypeId} {fs : Array Field} {v : Value} {d : DataW H} {p : List MemPlace} (hs : P.underlying t = some (.struct fs)) (hone : oneCellFields P fs = true) (hC : P.cellsOf t = fs.size)
    (hv : Value.okWide P w r b0 t v) (h : DataW.Trod enc P w base spare held t v d p) :
    ∃ vs : List Value, v = .agg vs.toArray ∧ vs.length = fs.size ∧ ∀ (j : Nat) (f : Field) (u : Value), fs[j]? = some f → vs[j]? = some u → ∃ (y : DataW H × List MemPlace) (n : Nat), DataW.trod enc P w base spare held n f.type [u] = some y := by
  obtain ⟨cs, rfl, hsz⟩ := okWide_struct hs hv
  obtain ⟨fuel, hf⟩ := h
  obtain ⟨xs, n, _, _, _, hlen, hg⟩ := DataW.trod_struct hs hf
  refine ⟨cs.toList, rfl, by simpa using hsz.trans hC, fun j f u hj hu => ?_⟩
  obtain ⟨ho, hk⟩ := hone_of hone j f hj
  have hjl : j < fs.size := (Array.getElem?_eq_some_iff.1 hj).1
  have h1 := hg j f hj
  rw [ho, hk] at h1
  have hcut : (cs.toList.drop j).take 1 = [u] := by
    obtain ⟨hlt, he⟩ := List.getElem?_eq_some_iff.1 hu
    rw [List.drop_eq_getElem_cons hlt, List.take_succ_cons, List.take_zero, he]
  have h2 : (Value.agg cs).cells.toList = cs.toList := rfl
  rw [h2, hcut] at h1
  have hx : xs[j]? = some (xs[j]'(by omega)) := List.getElem?_eq_getElem (by omega)
  exact ⟨_, n, h1.trans hx⟩
/-- A struct of integers, of whatever kinds. -/
theorem open_intStruct {w : World} {base b0 : Nat} {spare : Nat → Bool} {held : Bool} {r : Reach} {t : TypeId} {fs : Array Field} {v : Value} {d : DataW H} {p : List MemPlace} (ks : List IntKind) (hs : P.underlying t = some (.struct fs)) (hone : oneCellFields P fs = true) (hC : P.cellsOf t = fs.size)
    (hk : fs.toList.map (fun f => P.underlying f.type) = ks.map (fun k => some (.int k)))
    (hv : Value.okWide P w r b0 t v) (h : DataW.Trod enc P w base spare held t v d p) :
    ∃ ns : List Int, ns.length = ks.length ∧ v = .agg (List.zipWith Value.int ks ns).toArray ∧ ∀ (j : Nat) (k : IntKind) (n : Int), ks[j]? = some k → ns[j]? = some n → (Lit.int k n).wf = true := by
  obtain ⟨vs, rfl, hl, hf⟩ := open_fields hs hone hC hv h
  have hkl : ks.length = fs.size := by have := congrArg List.length hk; simpa using this.symm
  have one : ∀ (j : Nat) (k : IntKind) (u : Value), ks[j]? = some k → vs[j]? = some u → ∃ n : Int, u = .int k n ∧ (Lit.int k n).wf = true := by
    intro j k u hj hu
    have hjl : j < fs.size := by have := (List.getElem?_eq_some_iff.1 hj).1; omega
    have hfj : fs[j]? = some fs[j] := Array.getElem?_eq_getElem hjl
    obtain ⟨y, n, ht⟩ := hf j _ u hfj hu
    have hu2 : P.underlying fs[j].type = some (.int k) := by
      have h3 := congrArg (fun l => l[j]?) hk
      simp only [List.getElem?_map, Array.getElem?_toList, hfj, hj, Option.map_some] at h3
      exact Option.some.inj h3
    obtain ⟨m, hm, _, hw⟩ := DataW.trod_int hu2 ht
    exact ⟨m, by simpa using hm, hw⟩
  have build : ∀ (ks : List IntKind) (vs : List Value), vs.length = ks.length → (∀ (j : Nat) (k : IntKind) (u : Value), ks[j]? = some k → vs[j]? = some u → ∃ n : Int, u = .int k n ∧ (Lit.int k n).wf = true) →
      ∃ ns : List Int, ns.length = ks.length ∧ vs = List.zipWith Value.int ks ns ∧ ∀ (j : Nat) (k : IntKind) (n : Int), ks[j]? = some k → ns[j]? = some n → (Lit.int k n).wf = true := by
    intro ks
    induction ks with
    | nil => intro vs hl _; exact ⟨[], rfl, by simpa using hl, fun j k n hj => by simp at hj⟩
    | cons k ks ih =>
      intro vs hl h
      match vs, hl with
      | u :: vs, hl =>
        obtain ⟨n, hn, hw⟩ := h 0 k u rfl rfl
        obtain ⟨ns, h1, h2, h3⟩ := ih vs (by simpa using hl) (fun j k u hj hu => h (j + 1) k u (by simpa using hj) (by simpa using hu))
        refine ⟨n :: ns, by simp [h1], by simp [hn, h2], fun j k' n' hj hn' => ?_⟩
        match j, hj, hn' with
        | 0, hj, hn' => simp at hj hn'; subst hj; subst hn'; exact hw
        | j + 1, hj, hn' => exact h3 j k' n' (by simpa using hj) (by simpa using hn')
  obtain ⟨ns, h1, h2, h3⟩ := build ks vs (hl.trans hkl.symm) one
  exact ⟨ns, h1, by rw [h2], h3⟩
theorem list2 {ns : List Int} (h : ns.length = 2) : ∃ a b, ns = [a, b] := by match ns, h with | [a, b], _ => exact ⟨a, b, rfl⟩
theorem list3 {ns : List Int} (h : ns.length = 3) : ∃ a b c, ns = [a, b, c] := by match ns, h with | [a, b, c], _ => exact ⟨a, b, c, rfl⟩
theorem list4 {ns : List Int} (h : ns.length = 4) : ∃ a b c d, ns = [a, b, c, d] := by match ns, h with | [a, b, c, d], _ => exact ⟨a, b, c, d, rfl⟩
theorem list5 {ns : List Int} (h : ns.length = 5) : ∃ a b c d e, ns = [a, b, c, d, e] := by match ns, h with | [a, b, c, d, e], _ => exact ⟨a, b, c, d, e, rfl⟩
end Go.Proofs.Ytdfabagclnjoaaa
