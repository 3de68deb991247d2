/- Slices of records of two words: read, and owned. -/
import Derived.Test.YtahpdifneajblaaFrame
import Derived.Test.YtahpdifneajblaaTail
import Derived.Test.YtahpdifneajblaaField
import Derived.Deep.SlicePairs
import Derived.Deep.AppendLies
import Derived.Deep.LoopGhost
import Derived.Lib.Hide
namespace Go.Proofs.Ytahpdifneajblaa
set_option linter.unusedVariables false
open Go.RowKit Go.ChangeShapes Go.WideShapes Go.ChangeAt
theorem bel1 (W : World) (a : Obj) : Below W.heap.size W (W.alloc a) := (Below.refl _ _).alloc (Nat.le_refl _) _
theorem bel2 (W : World) (a b : Obj) : Below W.heap.size W ((W.alloc a).alloc b) := ((Below.refl _ _).alloc (Nat.le_refl _) _).alloc (by simp) _
abbrev recV (r : Nat × Nat) : Value := .agg #[.int .u64 (r.1 : Nat), .int .u64 (r.2 : Nat)]
abbrev recL (r : Nat × Nat) : List Value := [.int .u64 (r.1 : Nat), .int .u64 (r.2 : Nat)]
def recs (rs : List (Nat × Nat)) : List Value := rs.flatMap recL
theorem recs_length (rs : List (Nat × Nat)) : (recs rs).length = rs.length * 2 := by
  induction rs with
  | nil => rfl
  | cons r rs ih => simp [recs] at ih ⊢; omega
theorem recs_snoc (rs : List (Nat × Nat)) (r : Nat × Nat) : recs rs ++ recL r = recs (rs ++ [r]) := by simp [recs]
theorem recs_get : ∀ (rs : List (Nat × Nat)) (j : Nat), j < rs.length → (recs rs)[j * 2]? = some (.int .u64 ((rs.getD j (0, 0)).1 : Nat)) ∧ (recs rs)[j * 2 + 1]? = some (.int .u64 ((rs.getD j (0, 0)).2 : Nat)) := by
  intro rs
  induction rs with
  | nil => intro j h; simp at h
  | cons r rs ih =>
    intro j h
    cases j with
    | zero => exact ⟨rfl, rfl⟩
    | succ j =>
      have := ih j (by simpa using h)
      have e : recs (r :: rs) = .int .u64 (r.1 : Nat) :: .int .u64 (r.2 : Nat) :: recs rs := rfl
      rw [e, show (j + 1) * 2 = j * 2 + 1 + 1 by omega]
      simpa using this
structure RdR (W : World) (A : Option Addr) (b off : Nat) (rs : List (Nat × Nat)) : Prop where
  a : 0 < rs.length → A = some ⟨b, off, none⟩
  lt : 0 < rs.length → b < W.heap.size
  c0 : ∀ j, j < rs.length → W.cell? ⟨b, off + j * 2, none⟩ = some (.int .u64 ((rs.getD j (0, 0)).1 : Nat))
  c1 : ∀ j, j < rs.length → W.cell? ⟨b, off + j * 2 + 1, none⟩ = some (.int .u64 ((rs.getD j (0, 0)).2 : Nat))
theorem RdR.next {W W' : World} {A : Option Addr} {b off : Nat} {rs : List (Nat × Nat)} (h : RdR W A b off rs) (hb : Below W.heap.size W W') : RdR W' A b off rs :=
  ⟨h.a, fun h0 => Nat.lt_of_lt_of_le (h.lt h0) hb.size, fun j hj => (hb.cell (p := ⟨b, off + j * 2, none⟩) (h.lt (by omega))).trans (h.c0 j hj), fun j hj => (hb.cell (p := ⟨b, off + j * 2 + 1, none⟩) (h.lt (by omega))).trans (h.c1 j hj)⟩
theorem RdR.nil (W : World) (A : Option Addr) (b off : Nat) : RdR W A b off [] := ⟨fun h => by simp at h, fun h => by simp at h, fun j h => by simp at h, fun j h => by simp at h⟩
theorem RdR.of_own {W : World} {B : Nat} {T : TypeId} {v : Value} {rs : List (Nat × Nat)} (h : W.ownsRow B T 2 v rs.length (recs rs)) : ∃ A cap b, v = .slice A rs.length cap ∧ RdR W A b 0 rs := by
  have hc := fun g (e : v.ownBlock = some g) => h.cells e
  have hlt := h.lt
  rcases h.2 with ⟨rfl, h0⟩ | ⟨g, cap, cur, rfl, hb, hh, h3⟩
  · obtain rfl : rs = [] := List.eq_nil_of_length_eq_zero h0
    exact ⟨none, 0, 0, rfl, RdR.nil _ _ _ _⟩
  · refine ⟨_, cap, g, rfl, fun _ => rfl, fun _ => (hlt g rfl).2, fun j hj => ?_, fun j hj => ?_⟩
    · have := hc g rfl (j * 2) _ (recs_get rs j hj).1
      rw [add_plain'] at this; exact this
    · have := hc g rfl (j * 2 + 1) _ (recs_get rs j hj).2
      rw [add_plain'] at this; rw [Nat.add_assoc]; exact this
theorem ownN {base n sz : Nat} {e : TypeId} {v : Value} {xs : List Value} {W W' : World} (h : W.ownsRow base e sz v n xs) (hn : Below W.heap.size W W') : W'.ownsRow base e sz v n xs := by
  obtain ⟨h1, h2⟩ := h
  refine ⟨h1, ?_⟩
  rcases h2 with h2 | ⟨g, cap, cur, hv, hb, hh, h3⟩
  · exact .inl h2
  · refine .inr ⟨g, cap, cur, hv, hb, ?_, h3⟩
    rw [hn.block g ?_]
    · exact hh
    · rcases Nat.lt_or_ge g W.heap.size with hlt | hge
      · exact hlt
      · rw [Array.getElem?_eq_none hge] at hh; cases hh
theorem ownLe {b1 b2 n sz : Nat} {e : TypeId} {v : Value} {xs : List Value} {W : World} (h : W.ownsRow b1 e sz v n xs) (hb : b2 ≤ b1) : W.ownsRow b2 e sz v n xs := by
  obtain ⟨h1, h2⟩ := h
  refine ⟨h1, ?_⟩
  rcases h2 with h2 | ⟨g, cap, cur, hv, hg, hh, h3⟩
  · exact .inl h2
  · exact .inr ⟨g, cap, cur, hv, Nat.le_trans hb hg, hh, h3⟩
/-- A slice of structs of two words, opened. -/
theorem open_pairs {H : Type} {enc : TypeId × Value → H} {P : Program} {t e : TypeId} {f0 f1 : Field} {W : World} {base : Nat} {spare : Nat → Bool} {held : Bool} {A : Option Addr} {len cap : Nat} {d : DataW H} {ps : List MemPlace}
    (ht : P.underlying t = some (.slice e)) (he : P.underlying e = some (.struct #[f0, f1])) (ce : P.cellsOf e = 2) (o0 : f0.offset = 0) (o1 : f1.offset = 1) (c0 : P.cellsOf f0.type = 1) (c1 : P.cellsOf f1.type = 1)
    (u0 : P.underlying f0.type = some (.int .u64)) (u1 : P.underlying f1.type = some (.int .u64))
    (h : DataW.Trod enc P W base spare held t (.slice A len cap) d ps) :
    ∃ (b off : Nat) (rs : List (Nat × Nat)), rs.length = len ∧ (len ≤ cap ∧ len ≤ maxLen) ∧ RdR W A b off rs ∧ (∀ r ∈ rs, r.1 < 18446744073709551616 ∧ r.2 < 18446744073709551616) := by
  obtain ⟨fuel, hf⟩ := h
  rcases Go.Deep.open_slice_pairs ht he ce o0 o1 c0 c1 hf with ⟨hcs, _⟩ | ⟨a, len', cap', m, n, V0, V1, D0, D1, P0, P1, hcs, _, hl, hm, hmm, _, hx⟩
  · simp [Value.cells] at hcs
    obtain ⟨rfl, rfl, rfl⟩ := hcs
    exact ⟨0, 0, [], rfl, ⟨Nat.zero_le _, Nat.zero_le _⟩, RdR.nil _ _ _ _, fun r hr => by cases hr⟩
  · simp [Value.cells] at hcs
    obtain ⟨rfl, rfl, rfl⟩ := hcs
    have hlm : len ≤ m := by rw [hmm]; split <;> omega
    by_cases h0 : len = 0
    · subst h0
      exact ⟨0, 0, [], rfl, ⟨Nat.zero_le _, Nat.zero_le _⟩, RdR.nil _ _ _ _, fun r hr => by cases hr⟩
    · obtain ⟨b, off, spot⟩ := a
      have hspot : spot = none := by simpa [Addr.add] using World.cell?_spot (hx 0 (by omega)).1
      subst hspot
      have each : ∀ i, i < len → ∃ r : Nat × Nat, (r.1 < 18446744073709551616 ∧ r.2 < 18446744073709551616) ∧ V0 i = .int .u64 (r.1 : Nat) ∧ V1 i = .int .u64 (r.2 : Nat) := by
        intro i hi
        obtain ⟨_, _, t0, t1⟩ := hx i (by omega)
        obtain ⟨n0, e0, _, w0⟩ := DataW.trod_int u0 t0
        obtain ⟨n1, e1, _, w1⟩ := DataW.trod_int u1 t1
        simp at e0 e1
        have a0 := u64_lo w0; have a1 := u64_hi w0; have b0 := u64_lo w1; have b1 := u64_hi w1
        exact ⟨(n0.toNat, n1.toNat), ⟨by simp; omega, by simp; omega⟩, by rw [e0]; simp; omega, by rw [e1]; simp; omega⟩
      obtain ⟨f, hfn⟩ := Go.Deep.choose_lt each
      have hg : ∀ i, i < len → ((List.range len).map f).getD i (0, 0) = f i := by
        intro i hi; simp [List.getD, hi]
      refine ⟨b, off, (List.range len).map f, by simp, ⟨by omega, by omega⟩, ⟨fun _ => rfl, fun _ => ?_, fun j hj => ?_, fun j hj => ?_⟩, fun r hr => ?_⟩
      · have := World.block_lt_of_cell? W _ (hx 0 (by omega)).1
        simpa [Addr.add] using this
      · have hj' : j < len := by simpa using hj
        have := (hx j (by omega)).1
        rw [add_plain', (hfn j hj').2.1] at this
        rw [hg j hj']; exact this
      · have hj' : j < len := by simpa using hj
        have := (hx j (by omega)).2.1
        rw [add_plain', (hfn j hj').2.2, ← Nat.add_assoc] at this
        rw [hg j hj']; exact this
      · obtain ⟨i, hi, rfl⟩ := List.mem_map.1 hr
        exact (hfn i (by simpa using hi)).1
end Go.Proofs.Ytahpdifneajblaa
