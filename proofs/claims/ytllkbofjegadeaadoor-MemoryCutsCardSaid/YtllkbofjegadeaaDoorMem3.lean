/- Slices of words that are read; Words of the document's answers; slices.Clone. -/
import Derived.Test.YtllkbofjegadeaaDoorMem2
import Derived.Deep.LoopGhost
import Derived.Laws.AppendOwn
import Derived.Deep.AppendLies
import Derived.OwnWalk
import Derived.WalkSpells
namespace Go.Proofs.YtllkbofjegadeaaDoor
set_option linter.unusedVariables false
open Go.RowKit
theorem add_pl (b off j : Nat) : (⟨b, off, none⟩ : Addr).add j = ⟨b, off + j, none⟩ := by
  unfold Addr.add
  split
  · rename_i h; subst h; rfl
  · rfl
abbrev wvs (us : List Nat) : List Value := us.map fun u => .int .u64 (u : Nat)
theorem infoWd : (Tryd.prog.info? 31).map (fun i => (i.zero, i.size, i.bytes)) = some (some (.int .u64 0), 1, 8) := by kernel_rfl
theorem sliceWd : Tryd.prog.underlying 29 = some (.slice 31) := by kernel_rfl
theorem rowNext {base n sz : Nat} {e : TypeId} {v : Value} {xs : List Value} {W W' : World} (h : W.ownsRow base e sz v n xs) (hn : Below W.heap.size W W') : W'.ownsRow base e sz v n xs := by
  obtain ⟨h1, h2⟩ := h
  refine ⟨h1, ?_⟩
  rcases h2 with h2 | ⟨g, cap, cur, hv, hb, hh, h3⟩
  · exact .inl h2
  · refine .inr ⟨g, cap, cur, hv, hb, ?_, h3⟩
    rw [hn.block g ?_]
    · exact hh
    · rcases Nat.lt_or_ge g W.heap.size with hlt | hge
      · exact hlt
      · rw [Array.getElem?_eq_none hge] at hh; cases hh
/-- The slice '.slice A us.length c' reads as us. -/
structure SR (W : World) (A : Option Addr) (c b o : Nat) (us : List Nat) : Prop where
  a : 0 < us.length → A = some ⟨b, o, none⟩
  le : us.length ≤ c
  mx : c ≤ maxLen
  c : ∀ j, j < us.length → W.cell? ⟨b, o + j, none⟩ = some (.int .u64 ((us.getD j 0 : Nat)))
theorem SR.nil (W : World) (b o : Nat) : SR W none 0 b o [] := ⟨fun h => by simp at h, by simp, by simp, fun j h => by simp at h⟩
theorem SR.next {W W' : World} {A : Option Addr} {c b o : Nat} {us : List Nat} (h : SR W A c b o us) (hb : Below W.heap.size W W') : SR W' A c b o us :=
  ⟨h.a, h.le, h.mx, fun j hj => (hb.cell (p := ⟨b, o + j, none⟩) (World.block_lt_of_cell? W _ (h.c j hj))).trans (h.c j hj)⟩
theorem SR.but {W W' : World} {A : Option Addr} {c b o g : Nat} {us : List Nat} (h : SR W A c b o us) (hb : But g W W') (hg : b ≠ g) : SR W' A c b o us :=
  ⟨h.a, h.le, h.mx, fun j hj => (hb.cell (p := ⟨b, o + j, none⟩) (World.block_lt_of_cell? W _ (h.c j hj)) hg).trans (h.c j hj)⟩
theorem SR.of_wb {W : World} {g : Nat} {us : List Nat} (h : WB g us W) (hm : us.length ≤ 100000) : SR W (some ⟨g, 0, none⟩) us.length g 0 us :=
  ⟨fun _ => rfl, Nat.le_refl _, by unfold maxLen; omega, fun j hj => by rw [Nat.zero_add]; exact h.wd j hj⟩
theorem SR.of_own {W : World} {B : Nat} {v : Value} {us : List Nat} (h : W.ownsRow B 31 1 v us.length (wvs us)) : ∃ A c b, v = .slice A us.length c ∧ SR W A c b 0 us ∧ (us.length = 0 ∨ B ≤ b) := by
  have hc := fun g (e : v.ownBlock = some g) => h.cells e
  rcases h.2 with ⟨rfl, h0⟩ | ⟨g, cap, cur, rfl, hb, hh, hle, hm, _⟩
  · obtain rfl : us = [] := List.eq_nil_of_length_eq_zero h0
    exact ⟨none, 0, 0, rfl, SR.nil W _ _, .inl rfl⟩
  · refine ⟨_, cap, g, rfl, ⟨fun _ => rfl, hle, hm, fun j hj => ?_⟩, .inr hb⟩
    have hj' : (wvs us)[j]? = some (.int .u64 ((us.getD j 0 : Nat))) := by simp [wvs, List.getD, hj]
    have := hc g rfl j _ hj'
    rw [add_pl] at this; exact this
theorem SR.news {W : World} {A : Option Addr} {c b o : Nat} {us : List Nat} (h : SR W A c b o us) : ∀ j u, (wvs us)[j]? = some u → W.cell? ((⟨b, o, none⟩ : Addr).add j) = some u := by
  intro j u hu
  have hj : j < us.length := by
    have := (List.getElem?_eq_some_iff.1 hu).1
    simpa [wvs] using this
  rw [add_pl, h.c j hj]
  have : (wvs us)[j]? = some (.int .u64 ((us.getD j 0 : Nat))) := by simp [wvs, List.getD, hj]
  exact this.symm.trans hu
theorem wvs_one (us : List Nat) : ∀ u ∈ wvs us, u.oneCell' = true := by
  intro u hu
  obtain ⟨n, _, rfl⟩ := List.mem_map.1 hu
  simp [Value.oneCell']
structure QW (W0 : World) (b o b' o' x : Nat) (W : World) : Prop where
  p : W.cell? ⟨b, o, none⟩ = some (.int .u64 (x : Nat))
  q : W.cell? ⟨b', o', none⟩ = some (.int .u64 (x : Nat))
  bl : Below W0.heap.size W0 W
set_option maxHeartbeats 1000000 in
theorem rwords_any (us : List Nat) (hl : us.length ≤ 100000) (A A' : Option Addr) (c c' b o b' o' : Nat) (W : World) (h1 : SR W A c b o us) (h2 : SR W A' c' b' o' us) :
    Calls Tryd.prog 13 #[.slice A us.length c, .slice A' us.length c'] W fun e w' => e = .returned (.bool true) ∧ Below W.heap.size W w' := by
  have H1 := Lib.hid h1
  have H2 := Lib.hid h2
  clear h1 h2
  have hne : ((us.length : Int) != (us.length : Int)) = false := by simp
  have hmx : us.length ≤ maxLen := by unfold maxLen; omega
  go_enter Tryd.func13, Tryd.ntmps13
  go_wp2
  go_loopg [5] us.length (fun gk i wr => ∃ j : Nat, j ≤ us.length ∧ gk = us.length - j ∧ i = .int .i64 j ∧ Below W.heap.size W wr)
  case atStart => exact ⟨0, by omega, by omega, rfl, Below.refl _ _⟩
  case round =>
    obtain ⟨j, hj, hg, rfl, hb⟩ := hrel
    by_cases hlt : j < us.length
    · obtain rfl := H1.out.a (by omega)
      obtain rfl := H2.out.a (by omega)
      have HS := Lib.hid (show QW W b (o + j) b' (o' + j) (us.getD j 0) wr.drew from ⟨(H1.out.next hb).c j hlt, (H2.out.next hb).c j hlt, hb.drew⟩)
      have hji : (j : Int) < (us.length : Int) := by omega
      have hj0 : (0 : Int) ≤ (j : Int) := by omega
      generalize us.getD j 0 = x at HS
      have hxx : ((x : Int) != (x : Int)) = false := by simp
      clear hb H1 H2
      go_wp2
      refine wp_region_class (C := QW W b (o + j) b' (o' + j) x) (by kernel_rfl) (by kernel_rfl) (HS.out) ?_
      repeat (first
        | go_big_quiet_skip
        | (go_big_quiet_want; go_big_quiet_op; go_big_quiet_on)
        | (go_big_quiet_want; go_big_quiet_op; refine ⟨_, fun _ _ => rfl, ?_⟩; go_big_quiet_on)
        | (go_big_quiet_want
           apply quiet_mk
           · intro u hu
             have p := hu.p; have q := hu.q
             have HU := Lib.hid hu
             clear hu
             go_simp
             first
               | with_reducible rfl
               | (fail)
           simp only [Act.put, List.setIfInBounds_toArray, List.set_cons_zero, List.set_cons_succ]
           go_big_quiet_on))
      refine wpQuiet_nil ?_
      intro u hu
      have HB := Lib.hid hu.bl
      clear hu HS
      go_wp2
      go_roundg (us.length - (j + 1))
      case rel => exact ⟨j + 1, by omega, rfl, by go_num, HB.out⟩
      case measure => omega
    · obtain rfl : j = us.length := by omega
      have HB := Lib.hid hb
      clear hb
      go_wp2
      go_ret
      exact ⟨rfl, HB.out⟩
set_option maxRecDepth 100000 in
set_option maxHeartbeats 1000000 in
theorem clone_ne (us : List Nat) (hl : us.length ≤ 100000) (c b o : Nat) (W : World) (h : SR W (some ⟨b, o, none⟩) c b o us) (hbl : b < W.heap.size) :
    Calls Tryd.prog 24 #[.slice (some ⟨b, o, none⟩) us.length c] W fun e w' => ∃ v, e = .returned v ∧ w'.ownsRow W.heap.size 31 1 v us.length (wvs us) ∧ Below W.heap.size W w' := by
  obtain ⟨i0, hi, hz0, hz1, hz2⟩ := info_parts infoWd
  have HI := Lib.hid (And.intro hi (And.intro hz0 (And.intro hz1 hz2)))
  have H1 := Lib.hid h
  have hnil : ∀ w, (binOp .eql 29 (.slice (some ⟨b, o, none⟩) us.length c) (.slice none 0 0)).run Tryd.prog w = .ok (.bool false) w := fun w => Lib.run_eql_slice_nil w _ _ _ _ _ _ _ sliceWd
  clear hi hz0 hz1 hz2 h
  go_enter Tryd.func24, Tryd.ntmps24
  go_wp2_with (at_builtin; (refine wpList_append_own_at _ rfl _ _ 29 rfl W.heap.size 31 i0 (.int .u64 0) 1 8 sliceWd HI.out.1 HI.out.2.1 HI.out.2.2.1 HI.out.2.2.2 rfl (by decide) _ 0 [] rfl (World.ownsRow_made W #[] 0 (Nat.le_refl _) (by unfold maxLen; omega) rfl) ⟨b, o, none⟩ us.length c (wvs us) rfl (by simp [wvs]) ((H1.out.next (ml1 _ _)).news) (wvs_one us) (by unfold maxLen; omega) (by omega) (by simp) ?_; intro v' w1 hown hgrow _ _; have HO := Lib.hid hown; have HG := Lib.hid ((ml1 W _).grown hgrow (by simp) (fun k e => Nat.le_of_eq (Option.some.inj e))); clear hown hgrow))
  go_ret
  exact ⟨_, rfl, by simpa using HO.out, HG.out⟩
end Go.Proofs.YtllkbofjegadeaaDoor
