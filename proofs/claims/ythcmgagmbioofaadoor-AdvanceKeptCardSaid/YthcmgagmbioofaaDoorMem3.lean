/- Slices of words that are read; Words of the document's answers; slices.Clone. -/
import Derived.Test.YthcmgagmbioofaaDoorMem2
import Derived.Deep.LoopGhost
import Derived.Laws.AppendOwn
import Derived.Deep.AppendLies
import Derived.OwnWalk
import Derived.WalkSpells
namespace Go.Proofs.YthcmgagmbioofaaDoor
set_option linter.unusedVariables false
open Go.RowKit
theorem add_pl (b off j : Nat) : (⟨b, off, none⟩ : Addr).add j = ⟨b, off + j, none⟩ := by
  unfold Addr.add
  split
  · rename_i h; subst h; rfl
  · rfl
abbrev wvs (us : List Nat) : List Value := us.map fun u => .int .u64 (u : Nat)
theorem infoWd : (Tryd.prog.info? 28).map (fun i => (i.zero, i.size, i.bytes)) = some (some (.int .u64 0), 1, 8) := by kernel_rfl
theorem sliceWd : Tryd.prog.underlying 24 = some (.slice 28) := by kernel_rfl
theorem rowNext {base n sz : Nat} {e : TypeId} {v : Value} {xs : List Value} {W W' : World} (h : W.ownsRow base e sz v n xs) (hn : Below W.heap.size W W') : W'.ownsRow base e sz v n xs := by
  obtain ⟨h1, h2⟩ := h
  refine ⟨h1, ?_⟩
  rcases h2 with h2 | ⟨g, cap, cur, hv, hb, hh, h3⟩
  · exact .inl h2
  · refine .inr ⟨g, cap, cur, hv, hb, ?_, h3⟩
    rw [hn.block g ?_]
    · exact hh
    · rcases Nat.lt_or_ge g W.heap.size with hlt | hge
      · exact hlt
      · rw [Array.getElem?_eq_none hge] at hh; cases hh
/-- The slice '.slice A us.length c' reads as us. -/
structure SR (W : World) (A : Option Addr) (c b o : Nat) (us : List Nat) : Prop where
  a : 0 < us.length → A = some ⟨b, o, none⟩
  le : us.length ≤ c
  mx : c ≤ maxLen
  c : ∀ j, j < us.length → W.cell? ⟨b, o + j, none⟩ = some (.int .u64 ((us.getD j 0 : Nat)))
theorem SR.nil (W : World) (b o : Nat) : SR W none 0 b o [] := ⟨fun h => by simp at h, by simp, by simp, fun j h => by simp at h⟩
theorem SR.next {W W' : World} {A : Option Addr} {c b o : Nat} {us : List Nat} (h : SR W A c b o us) (hb : Below W.heap.size W W') : SR W' A c b o us :=
  ⟨h.a, h.le, h.mx, fun j hj => (hb.cell (p := ⟨b, o + j, none⟩) (World.block_lt_of_cell? W _ (h.c j hj))).trans (h.c j hj)⟩
theorem SR.but {W W' : World} {A : Option Addr} {c b o g : Nat} {us : List Nat} (h : SR W A c b o us) (hb : But g W W') (hg : b ≠ g) : SR W' A c b o us :=
  ⟨h.a, h.le, h.mx, fun j hj => (hb.cell (p := ⟨b, o + j, none⟩) (World.block_lt_of_cell? W _ (h.c j hj)) hg).trans (h.c j hj)⟩
theorem SR.of_wb {W : World} {g : Nat} {us : List Nat} (h : WB g us W) (hm : us.length ≤ 100000) : SR W (some ⟨g, 0, none⟩) us.length g 0 us :=
  ⟨fun _ => rfl, Nat.le_refl _, by unfold maxLen; omega, fun j hj => by rw [Nat.zero_add]; exact h.wd j hj⟩
theorem SR.of_own {W : World} {B : Nat} {v : Value} {us : List Nat} (h : W.ownsRow B 28 1 v us.length (wvs us)) : ∃ A c b, v = .slice A us.length c ∧ SR W A c b 0 us ∧ (us.length = 0 ∨ B ≤ b) := by
  have hc := fun g (e : v.ownBlock = some g) => h.cells e
  rcases h.2 with ⟨rfl, h0⟩ | ⟨g, cap, cur, rfl, hb, hh, hle, hm, _⟩
  · obtain rfl : us = [] := List.eq_nil_of_length_eq_zero h0
    exact ⟨none, 0, 0, rfl, SR.nil W _ _, .inl rfl⟩
  · refine ⟨_, cap, g, rfl, ⟨fun _ => rfl, hle, hm, fun j hj => ?_⟩, .inr hb⟩
    have hj' : (wvs us)[j]? = some (.int .u64 ((us.getD j 0 : Nat))) := by simp [wvs, List.getD, hj]
    have := hc g rfl j _ hj'
    rw [add_pl] at this; exact this
theorem SR.news {W : World} {A : Option Addr} {c b o : Nat} {us : List Nat} (h : SR W A c b o us) : ∀ j u, (wvs us)[j]? = some u → W.cell? ((⟨b, o, none⟩ : Addr).add j) = some u := by
  intro j u hu
  have hj : j < us.length := by
    have := (List.getElem?_eq_some_iff.1 hu).1
    simpa [wvs] using this
  rw [add_pl, h.c j hj]
  have : (wvs us)[j]? = some (.int .u64 ((us.getD j 0 : Nat))) := by simp [wvs, List.getD, hj]
  exact this.symm.trans hu
theorem wvs_one (us : List Nat) : ∀ u ∈ wvs us, u.oneCell' = true := by
  intro u hu
  obtain ⟨n, _, rfl⟩ := List.mem_map.1 hu
  simp [Value.oneCell']
structure QW (W0 : World) (b o b' o' x : Nat) (W : World) : Prop where
  p : W.cell? ⟨b, o, none⟩ = some (.int .u64 (x : Nat))
  q : W.cell? ⟨b', o', none⟩ = some (.int .u64 (x : Nat))
  bl : Below W0.heap.size W0 W
end Go.Proofs.YthcmgagmbioofaaDoor
