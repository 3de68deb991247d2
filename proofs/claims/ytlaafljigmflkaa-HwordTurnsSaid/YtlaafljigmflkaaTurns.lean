/- hword.Turns: the list is cloned, the iterator made. -/
import Derived.Test.YtlaafljigmflkaaHword
import Derived.Test.YtlaafljigmflkaaFrame
import Derived.Deep.AppendLies
import Derived.OwnWalk
import Derived.WalkSpells
import Derived.Below
import Derived.Lib.Hide
namespace Go.Proofs.Ytlaafljigmflkaa
set_option linter.unusedVariables false
open Go.RowKit
theorem tl1 (W : World) (a : Obj) : Below W.heap.size W (W.alloc a) := (Below.refl _ _).alloc (Nat.le_refl _) _
theorem rowNx {base n sz : Nat} {e : TypeId} {v : Value} {xs : List Value} {W W' : World} (h : W.ownsRow base e sz v n xs) (hn : Below W.heap.size W W') : W'.ownsRow base e sz v n xs := by
  obtain ⟨h1, h2⟩ := h
  refine ⟨h1, ?_⟩
  rcases h2 with h2 | ⟨g, cap, cur, hv, hb, hh, h3⟩
  · exact .inl h2
  · refine .inr ⟨g, cap, cur, hv, hb, ?_, h3⟩
    rw [hn.block g ?_]
    · exact hh
    · rcases Nat.lt_or_ge g W.heap.size with hlt | hge
      · exact hlt
      · rw [Array.getElem?_eq_none hge] at hh; cases hh
abbrev ivs (zs : List Int) : List Value := zs.map fun z => .int .i64 z
theorem infoI : (Try.prog.info? 3).map (fun i => (i.zero, i.size, i.bytes)) = some (some (.int .i64 0), 1, 8) := by kernel_rfl
theorem sliceI : Try.prog.underlying 31 = some (.slice 3) := by kernel_rfl
structure SI (W : World) (A : Option Addr) (b o : Nat) (zs : List Int) : Prop where
  a : 0 < zs.length → A = some ⟨b, o, none⟩
  c : ∀ j, j < zs.length → W.cell? ⟨b, o + j, none⟩ = some (.int .i64 (zs.getD j 0))
theorem SI.next {W W' : World} {A : Option Addr} {b o : Nat} {zs : List Int} (h : SI W A b o zs) (hb : Below W.heap.size W W') : SI W' A b o zs :=
  ⟨h.a, fun j hj => (hb.cell (p := ⟨b, o + j, none⟩) (World.block_lt_of_cell? W _ (h.c j hj))).trans (h.c j hj)⟩
theorem add_pl (b off j : Nat) : (⟨b, off, none⟩ : Addr).add j = ⟨b, off + j, none⟩ := by
  unfold Addr.add
  split
  · rename_i h; subst h; rfl
  · rfl
theorem SI.news {W : World} {A : Option Addr} {b o : Nat} {zs : List Int} (h : SI W A b o zs) : ∀ j u, (ivs zs)[j]? = some u → W.cell? ((⟨b, o, none⟩ : Addr).add j) = some u := by
  intro j u hu
  have hj : j < zs.length := by
    have := (List.getElem?_eq_some_iff.1 hu).1
    simpa [ivs] using this
  rw [add_pl, h.c j hj]
  have : (ivs zs)[j]? = some (.int .i64 (zs.getD j 0)) := by simp [ivs, List.getD, hj]
  exact this.symm.trans hu
theorem ivs_one (zs : List Int) : ∀ u ∈ ivs zs, u.oneCell' = true := by
  intro u hu
  obtain ⟨n, _, rfl⟩ := List.mem_map.1 hu
  simp [Value.oneCell']
set_option maxRecDepth 100000 in
set_option maxHeartbeats 1000000 in
theorem clone_some (zs : List Int) (hl : zs.length ≤ 100000) (A : Addr) (c b o : Nat) (W : World) (h : SI W (some A) b o zs) :
    Calls Try.prog 18 #[.slice (some A) zs.length c] W fun e w' => ∃ v, e = .returned v ∧ w'.ownsRow W.heap.size 3 1 v zs.length (ivs zs) ∧ Below W.heap.size W w' := by
  obtain ⟨i0, hi, hz0, hz1, hz2⟩ := info_parts infoI
  have HI := Lib.hid (And.intro hi (And.intro hz0 (And.intro hz1 hz2)))
  have hnil : ∀ w, (binOp .eql 31 (.slice (some A) zs.length c) (.slice none 0 0)).run Try.prog w = .ok (.bool false) w := fun w => Lib.run_eql_slice_nil w _ _ _ _ _ _ _ sliceI
  have HN := Lib.hid (show ∀ (W' : World), Below W.heap.size W W' → ∀ j u, (ivs zs)[j]? = some u → W'.cell? (A.add j) = some u from fun W' hb j u hu => by
    have hj : j < zs.length := by
      have := (List.getElem?_eq_some_iff.1 hu).1
      simpa [ivs] using this
    have e := h.a (by omega)
    injection e with e
    subst e
    exact (h.next hb).news j u hu)
  clear hi hz0 hz1 hz2 h
  go_enter Try.func18, Try.ntmps18
  go_wp2_with (at_builtin; (refine wpList_append_own_at _ rfl _ _ 31 rfl W.heap.size 3 i0 (.int .i64 0) 1 8 sliceI HI.out.1 HI.out.2.1 HI.out.2.2.1 HI.out.2.2.2 rfl (by decide) _ 0 [] rfl (World.ownsRow_made W #[] 0 (Nat.le_refl _) (by unfold maxLen; omega) rfl) A zs.length c (ivs zs) rfl (by simp [ivs]) (HN.out _ (tl1 _ _)) (ivs_one zs) (by unfold maxLen; omega) (by omega) (by simp) ?_; intro v' w1 hown hgrow _ _; have HO := Lib.hid hown; have HG := Lib.hid ((tl1 W _).grown hgrow (by simp) (fun k e => Nat.le_of_eq (Option.some.inj e))); clear hown hgrow))
  go_ret
  exact ⟨_, rfl, by simpa using HO.out, HG.out⟩
theorem clone_none (c : Nat) (W : World) :
    Calls Try.prog 18 #[.slice none 0 c] W fun e w' => ∃ v, e = .returned v ∧ w'.ownsRow W.heap.size 3 1 v 0 [] ∧ Below W.heap.size W w' := by
  have hnil : ∀ w, (binOp .eql 31 (.slice none 0 c) (.slice none 0 0)).run Try.prog w = .ok (.bool true) w := fun w => Lib.run_eql_slice_nil w _ _ _ _ _ _ _ sliceI
  go_enter Try.func18, Try.ntmps18
  go_wp2
  go_ret
  exact ⟨_, rfl, World.ownsRow_nil _ _ _ _, Below.refl _ _⟩
theorem cloneI_any (zs : List Int) (hl : zs.length ≤ 100000) (A : Option Addr) (c b o : Nat) (W : World) (h : SI W A b o zs) :
    Calls Try.prog 18 #[.slice A zs.length c] W fun e w' => ∃ v, e = .returned v ∧ w'.ownsRow W.heap.size 3 1 v zs.length (ivs zs) ∧ Below W.heap.size W w' := by
  cases A with
  | some A => exact clone_some zs hl A c b o W h
  | none =>
    have h0 : zs = [] := by
      cases zs with
      | nil => rfl
      | cons z zs => have := h.a (by simp); cases this
    subst h0
    exact clone_none c W
theorem own_sl {W : World} {B n sz : Nat} {e : TypeId} {v : Value} {xs : List Value} (h : W.ownsRow B e sz v n xs) : ∃ A c, v = .slice A n c := by
  rcases h.2 with ⟨rfl, rfl⟩ | ⟨g, cap, cur, rfl, _⟩
  · exact ⟨none, 0, rfl⟩
  · exact ⟨_, cap, rfl⟩
theorem rowLw {b1 b2 n sz : Nat} {e : TypeId} {v : Value} {xs : List Value} {W : World} (h : W.ownsRow b1 e sz v n xs) (hb : b2 ≤ b1) : W.ownsRow b2 e sz v n xs := by
  obtain ⟨h1, h2⟩ := h
  refine ⟨h1, ?_⟩
  rcases h2 with h2 | ⟨g, cap, cur, hv, hg, hh, h3⟩
  · exact .inl h2
  · exact .inr ⟨g, cap, cur, hv, Nat.le_trans hb hg, hh, h3⟩
abbrev itV (B B2 : Nat) : Value := .func (.func 19) #[] #[.pointer (some ⟨B, 0, none⟩), .pointer (some ⟨B2, 0, none⟩)]
theorem turns_any (w : Nat) (zs : List Int) (hl : zs.length ≤ 100000) (A : Option Addr) (c b o : Nat) (W : World) (h : SI W A b o zs) :
    Calls Try.prog 15 #[.int .u64 (w : Nat), .slice A zs.length c] W fun e w' => ∃ (B B2 : Nat) (v : Value), e = .returned (itV B B2) ∧ w'.cell? ⟨B, 0, none⟩ = some (.int .u64 (w : Nat)) ∧ w'.cell? ⟨B2, 0, none⟩ = some v ∧ w'.ownsRow W.heap.size 3 1 v zs.length (ivs zs) ∧ Below W.heap.size W w' := by
  have H0 := Lib.hid (tl1 W (.cells #[.int .u64 (w : Nat)] 22))
  have C := Lib.hid (cloneI_any zs hl A c b o _ (h.next H0.out))
  clear h
  go_enter Try.func15, Try.ntmps15
  go_wp2_with (go_at_call 18; refine C.out.mono ?_; rintro e w1 ⟨v, rfl, ho, hn⟩; obtain ⟨A2, c2, rfl⟩ := own_sl ho; have HO := Lib.hid ho; have HN := Lib.hid hn; clear ho hn)
  go_ret
  have c1 : (w1.alloc (.cells #[.slice A2 zs.length c2] 31)).cell? ⟨W.heap.size, 0, none⟩ = some (.int .u64 (w : Nat)) := by
    have e1 := (HN.out.cell (p := ⟨W.heap.size, 0, none⟩) (by simp))
    have e2 := ((tl1 w1 (.cells #[.slice A2 zs.length c2] 31)).cell (p := ⟨W.heap.size, 0, none⟩) (by have := HN.out.size; simp at this; show W.heap.size < _; omega))
    rw [e2, e1]; simp
  exact ⟨W.heap.size, w1.heap.size, .slice A2 zs.length c2, rfl, c1, by simp, rowLw (rowNx HO.out (tl1 _ _)) (by simp), (H0.out.trans (HN.out.mono (by simp))).trans ((tl1 _ _).mono (by have := HN.out.size; simp at this; omega))⟩
end Go.Proofs.Ytlaafljigmflkaa
