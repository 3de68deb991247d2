/- Arguments that are nodes, by value: opened. -/
import Derived.Test.YtahpdifneajblaaNode
import Derived.Test.YtahpdifneajblaaOpen
import Derived.Test.YtahpdifneajblaaField
import Derived.Deep.Slices
namespace Go.Proofs.Ytahpdifneajblaa
open Go.ChangeShapes Go.WideShapes Go.ChangeAt Go.RowKit Go.Deep
variable {H : Type} {enc : TypeId × Value → H} {P : Program}
/-- A slice of words that was read. -/
theorem open_words {w : World} {base : Nat} {spare : Nat → Bool} {held : Bool} {t e : TypeId} {fuel : Nat} {u : Value} {y : DataW H × List MemPlace} (ht : P.underlying t = some (.slice e)) (he : P.underlying e = some (.int .u64)) (ce : P.cellsOf e = 1)
    (h : DataW.trod enc P w base spare held fuel t [u] = some y) : ∃ (A : Option Addr) (c : Nat) (us : List Nat), u = .slice A us.length c ∧ RL w A c us ∧ ∀ x ∈ us, x < 18446744073709551616 := by
  rcases Go.Deep.open_slice ht h with ⟨hcs, _⟩ | ⟨a, len, cap, m, n, D, Pl, hcs, hb, hl, hm, hmm, _, hx⟩
  · obtain rfl : u = .slice none 0 0 := by simpa using hcs
    exact ⟨none, 0, [], rfl, RL.nil w, fun x hx => by cases hx⟩
  · obtain rfl : u = .slice (some a) len cap := by simpa using hcs
    have hlm : len ≤ m := by rw [hmm]; split <;> omega
    by_cases h0 : len = 0
    · subst h0
      exact ⟨some a, cap, [], rfl, .inr (.inl ⟨a, rfl, rfl, hm⟩), fun x hx => by cases hx⟩
    · have each : ∀ i, i < len → ∃ r : Nat, r < 18446744073709551616 ∧ w.cell? (a.add i) = some (.int .u64 (r : Nat)) := by
        intro i hi
        obtain ⟨cs, h1, h2⟩ := hx i (by omega)
        rw [ce, Nat.mul_one] at h1
        obtain ⟨_, hlen, hcell⟩ := World.cells?_some h1
        obtain ⟨z, hz, _, hw⟩ := DataW.trod_int he h2
        subst hz
        have e0 := hcell 0 (by omega)
        have a0 := u64_lo hw; have a1 := u64_hi hw
        refine ⟨z.toNat, by omega, ?_⟩
        have e1 : ((z.toNat : Nat) : Int) = z := by omega
        rw [e1]
        simpa [Addr.add] using e0
      obtain ⟨b, off, spot⟩ := a
      have hspot : spot = none := by
        obtain ⟨r, _, hc⟩ := each 0 (by omega)
        simpa [Addr.add] using World.cell?_spot hc
      subst hspot
      obtain ⟨f, hf⟩ := Go.Deep.choose_lt each
      have hg : ∀ i, i < len → ((List.range len).map f).getD i 0 = f i := by
        intro i hi; simp [List.getD, hi]
      refine ⟨some ⟨b, off, none⟩, cap, (List.range len).map f, by simp, .inr <| .inr ⟨b, off, rfl, by simpa using hl, hm, fun j hj => ?_⟩, fun x hx => ?_⟩
      · have hj' : j < len := by simpa using hj
        have := (hf j hj').2
        rw [add_plain'] at this
        rw [hg j hj']; exact this
      · obtain ⟨i, hi, rfl⟩ := List.mem_map.1 hx
        exact (hf i (by simpa using hi)).1
theorem open_node {w : World} {base b0 : Nat} {spare : Nat → Bool} {held : Bool} {r : Reach} {t e : TypeId} {f0 f1 f2 f3 : Field} {v : Value} {d : DataW H} {p : List MemPlace} (hs : P.underlying t = some (.struct #[f0, f1, f2, f3])) (hone : oneCellFields P #[f0, f1, f2, f3] = true) (hC : P.cellsOf t = 4)
    (u0 : P.underlying f0.type = some .bool) (u1 : P.underlying f1.type = some (.slice e)) (u2 : P.underlying f2.type = some (.slice e)) (u3 : P.underlying f3.type = some (.int .u64)) (he : P.underlying e = some (.int .u64)) (ce : P.cellsOf e = 1)
    (hv : Value.okWide P w r b0 t v) (h : DataW.Trod enc P w base spare held t v d p) :
    ∃ x : Nd, v = ndV x ∧ NR w x ∧ x.link < 18446744073709551616 ∧ (∀ k ∈ x.ks, k < 18446744073709551616) ∧ ∀ k ∈ x.vs, k < 18446744073709551616 := by
  obtain ⟨vs, rfl, hl, hf⟩ := open_fields hs hone hC hv h
  match vs, hl with
  | [v0, v1, v2, v3], _ =>
    obtain ⟨y0, n0, t0⟩ := hf 0 f0 v0 rfl rfl
    obtain ⟨y1, n1, t1⟩ := hf 1 f1 v1 rfl rfl
    obtain ⟨y2, n2, t2⟩ := hf 2 f2 v2 rfl rfl
    obtain ⟨y3, n3, t3⟩ := hf 3 f3 v3 rfl rfl
    obtain ⟨b, hb, _⟩ := DataW.trod_bool u0 t0
    obtain rfl : v0 = .bool b := by simpa using hb
    obtain ⟨A1, c1, ks, rfl, R1, B1⟩ := open_words u1 he ce t1
    obtain ⟨A2, c2, us, rfl, R2, B2⟩ := open_words u2 he ce t2
    obtain ⟨z, hz, _, hw⟩ := DataW.trod_int u3 t3
    obtain rfl : v3 = .int .u64 z := by simpa using hz
    have a0 := u64_lo hw; have a1 := u64_hi hw
    refine ⟨⟨b, ks, us, z.toNat, A1, c1, A2, c2⟩, ?_, ⟨R1, R2⟩, by show z.toNat < _; omega, B1, B2⟩
    have e1 : ((z.toNat : Nat) : Int) = z := by omega
    simp [ndV, e1]
end Go.Proofs.Ytahpdifneajblaa
