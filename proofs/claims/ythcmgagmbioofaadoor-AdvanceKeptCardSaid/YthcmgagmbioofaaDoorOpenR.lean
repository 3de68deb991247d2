/- Slices of flat structs of integers: opened. -/
import Derived.Test.YthcmgagmbioofaaDoorOpen
import Derived.Test.YthcmgagmbioofaaDoorField
import Derived.Deep.Slices
import Derived.Deep.Fields
namespace Go.Proofs.YthcmgagmbioofaaDoor
open Go.ChangeShapes Go.WideShapes Go.ChangeAt Go.RowKit Go.Deep
variable {H : Type} {enc : TypeId × Value → H} {P : Program}
/-- Cells that read as a struct of integers, of whatever kinds. -/
theorem trod_ints {w : World} {base : Nat} {spare : Nat → Bool} {held : Bool} {t : TypeId} {fs : Array Field} {cs : List Value} {fuel : Nat} {y : DataW H × List MemPlace} (ks : List IntKind) (hs : P.underlying t = some (.struct fs)) (hone : oneCellFields P fs = true) (hl : cs.length = fs.size)
    (hk : fs.toList.map (fun f => P.underlying f.type) = ks.map (fun k => some (.int k)))
    (h : DataW.trod enc P w base spare held fuel t cs = some y) :
    ∃ ns : List Int, ns.length = ks.length ∧ cs = List.zipWith Value.int ks ns ∧ ∀ (j : Nat) (k : IntKind) (n : Int), ks[j]? = some k → ns[j]? = some n → (Lit.int k n).wf = true := by
  obtain ⟨xs, n, _, _, _, hlen, hg⟩ := DataW.trod_struct hs h
  have hkl : ks.length = fs.size := by have := congrArg List.length hk; simpa using this.symm
  have one : ∀ (j : Nat) (k : IntKind) (u : Value), ks[j]? = some k → cs[j]? = some u → ∃ n : Int, u = .int k n ∧ (Lit.int k n).wf = true := by
    intro j k u hj hu
    have hjl : j < fs.size := by have := (List.getElem?_eq_some_iff.1 hj).1; omega
    have hfj : fs[j]? = some fs[j] := Array.getElem?_eq_getElem hjl
    obtain ⟨ho, hk1⟩ := hone_of hone j _ hfj
    have h1 := hg j _ hfj
    rw [ho, hk1] at h1
    have hcut : (cs.drop j).take 1 = [u] := by
      obtain ⟨hlt, he⟩ := List.getElem?_eq_some_iff.1 hu
      rw [List.drop_eq_getElem_cons hlt, List.take_succ_cons, List.take_zero, he]
    rw [hcut] at h1
    have hx : xs[j]? = some (xs[j]'(by omega)) := List.getElem?_eq_getElem (by omega)
    have hu2 : P.underlying fs[j].type = some (.int k) := by
      have h3 := congrArg (fun l => l[j]?) hk
      simp only [List.getElem?_map, Array.getElem?_toList, hfj, hj, Option.map_some] at h3
      exact Option.some.inj h3
    obtain ⟨m, hm, _, hw⟩ := DataW.trod_int hu2 (h1.trans hx)
    exact ⟨m, by simpa using hm, hw⟩
  have build : ∀ (ks : List IntKind) (vs : List Value), vs.length = ks.length → (∀ (j : Nat) (k : IntKind) (u : Value), ks[j]? = some k → vs[j]? = some u → ∃ n : Int, u = .int k n ∧ (Lit.int k n).wf = true) →
      ∃ ns : List Int, ns.length = ks.length ∧ vs = List.zipWith Value.int ks ns ∧ ∀ (j : Nat) (k : IntKind) (n : Int), ks[j]? = some k → ns[j]? = some n → (Lit.int k n).wf = true := by
    intro ks
    induction ks with
    | nil => intro vs hl _; exact ⟨[], rfl, by simpa using hl, fun j k n hj => by simp at hj⟩
    | cons k ks ih =>
      intro vs hl h
      match vs, hl with
      | u :: vs, hl =>
        obtain ⟨n, hn, hw⟩ := h 0 k u rfl rfl
        obtain ⟨ns, h1, h2, h3⟩ := ih vs (by simpa using hl) (fun j k u hj hu => h (j + 1) k u (by simpa using hj) (by simpa using hu))
        refine ⟨n :: ns, by simp [h1], by simp [hn, h2], fun j k' n' hj hn' => ?_⟩
        match j, hj, hn' with
        | 0, hj, hn' => simp at hj hn'; subst hj; subst hn'; exact hw
        | j + 1, hj, hn' => exact h3 j k' n' (by simpa using hj) (by simpa using hn')
  exact build ks cs (hl.trans hkl.symm) one
structure RdS (W : World) (ks : List IntKind) (A : Option Addr) (b off : Nat) (rows : List (List Int)) : Prop where
  a : 0 < rows.length → A = some ⟨b, off, none⟩
  lt : 0 < rows.length → b < W.heap.size
  c : ∀ i, i < rows.length → ∀ (j : Nat) (k : IntKind), ks[j]? = some k → W.cell? ⟨b, off + i * ks.length + j, none⟩ = some (.int k ((rows.getD i []).getD j 0))
theorem RdS.nil (W : World) (ks : List IntKind) (A : Option Addr) (b off : Nat) : RdS W ks A b off [] := ⟨fun h => by simp at h, fun h => by simp at h, fun i h => by simp at h⟩
theorem RdS.next {W W' : World} {ks : List IntKind} {A : Option Addr} {b off : Nat} {rows : List (List Int)} (h : RdS W ks A b off rows) (hb : Below W.heap.size W W') : RdS W' ks A b off rows :=
  ⟨h.a, fun h0 => Nat.lt_of_lt_of_le (h.lt h0) hb.size, fun i hi j k hj => (hb.cell (p := ⟨b, off + i * ks.length + j, none⟩) (h.lt (by omega))).trans (h.c i hi j k hj)⟩
def wfRow (ks : List IntKind) (r : List Int) : Prop := r.length = ks.length ∧ ∀ (j : Nat) (k : IntKind) (n : Int), ks[j]? = some k → r[j]? = some n → (Lit.int k n).wf = true
theorem open_rows {t e : TypeId} {fs : Array Field} {W : World} {base : Nat} {spare : Nat → Bool} {held : Bool} {A : Option Addr} {len cap : Nat} {d : DataW H} {ps : List MemPlace} (ks : List IntKind)
    (ht : P.underlying t = some (.slice e)) (hs : P.underlying e = some (.struct fs)) (hone : oneCellFields P fs = true) (hC : P.cellsOf e = fs.size)
    (hk : fs.toList.map (fun f => P.underlying f.type) = ks.map (fun k => some (.int k))) (h0k : 0 < ks.length)
    (h : DataW.Trod enc P W base spare held t (.slice A len cap) d ps) :
    ∃ (b off : Nat) (rows : List (List Int)), rows.length = len ∧ (len ≤ cap ∧ len ≤ maxLen) ∧ RdS W ks A b off rows ∧ (∀ r ∈ rows, wfRow ks r) := by
  have hkl : ks.length = fs.size := by have := congrArg List.length hk; simpa using this.symm
  obtain ⟨fuel, hf⟩ := h
  rcases Go.Deep.open_slice ht hf with ⟨hcs, _⟩ | ⟨a, len', cap', m, n, D, Pl, hcs, hb, hl, hm, hmm, _, hx⟩
  · simp [Value.cells] at hcs
    obtain ⟨rfl, rfl, rfl⟩ := hcs
    exact ⟨0, 0, [], rfl, ⟨Nat.zero_le _, Nat.zero_le _⟩, RdS.nil _ _ _ _ _, fun r hr => by cases hr⟩
  · simp [Value.cells] at hcs
    obtain ⟨rfl, rfl, rfl⟩ := hcs
    have hlm : len ≤ m := by rw [hmm]; split <;> omega
    by_cases h0 : len = 0
    · subst h0
      exact ⟨0, 0, [], rfl, ⟨Nat.zero_le _, Nat.zero_le _⟩, RdS.nil _ _ _ _ _, fun r hr => by cases hr⟩
    · have each : ∀ i, i < len → ∃ r : List Int, wfRow ks r ∧ ∀ j, j < ks.length → W.cell? (a.add (i * ks.length + j)) = some ((List.zipWith Value.int ks r).getD j undef) := by
        intro i hi
        obtain ⟨cs', h1, h2⟩ := hx i (by omega)
        obtain ⟨_, hlen, hcell⟩ := World.cells?_some h1
        obtain ⟨ns, g1, g2, g3⟩ := trod_ints ks hs hone (hlen.trans hC) hk h2
        refine ⟨ns, ⟨g1, g3⟩, fun j hj => ?_⟩
        have := hcell j (by rw [hC, ← hkl]; exact hj)
        rw [hC, ← hkl, add_add] at this
        rw [this, g2, List.getD_eq_getElem?_getD]
        have hjz : j < (List.zipWith Value.int ks ns).length := by rw [List.length_zipWith, g1, Nat.min_self]; exact hj
        rw [List.getElem?_eq_getElem hjz]
        rfl
      obtain ⟨b, off, spot⟩ := a
      have hspot : spot = none := by
        obtain ⟨r, _, hr⟩ := each 0 (by omega)
        have := hr 0 h0k
        rw [Nat.zero_mul, Nat.zero_add] at this
        simpa [Addr.add] using World.cell?_spot this
      subst hspot
      obtain ⟨f, hfn⟩ := Go.Deep.choose_lt each
      have hg : ∀ i, i < len → ((List.range len).map f).getD i [] = f i := by
        intro i hi; simp [List.getD, hi]
      refine ⟨b, off, (List.range len).map f, by simp, ⟨by omega, by omega⟩, ⟨fun _ => rfl, fun _ => ?_, fun i hi j k hj => ?_⟩, fun r hr => ?_⟩
      · have := (hfn 0 (by omega)).2 0 h0k
        have := World.block_lt_of_cell? W _ this
        simpa [Addr.add] using this
      · have hi' : i < len := by simpa using hi
        obtain ⟨w1, w2⟩ := hfn i hi'
        have hjl := (List.getElem?_eq_some_iff.1 hj).1
        have := w2 j hjl
        rw [add_plain', ← Nat.add_assoc] at this
        rw [hg i hi', this, List.getD_eq_getElem?_getD, List.getElem?_zipWith, hj]
        have hjr : j < (f i).length := by rw [w1.1]; exact hjl
        rw [List.getD_eq_getElem?_getD, List.getElem?_eq_getElem hjr]
        rfl
      · obtain ⟨i, hi, rfl⟩ := List.mem_map.1 hr
        exact (hfn i (by simpa using hi)).1
end Go.Proofs.YthcmgagmbioofaaDoor
