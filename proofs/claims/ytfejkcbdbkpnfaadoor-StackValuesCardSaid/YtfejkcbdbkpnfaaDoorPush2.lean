/- The relation of both Pushes; the law's class. -/
import Derived.Test.YtfejkcbdbkpnfaaDoorPush
namespace Go.Proofs.YtfejkcbdbkpnfaaDoor
set_option linter.unusedVariables false
open Go.RowKit Go.Extern.Stop Go.Stop Go.Extern
inductive RelS (s t f l p : Int) (J : Nat) : Su → Rs → Prop
  | one (sl tr H : Int) : okC s t f l p → 1 ≤ sl → sl ≤ s → 0 ≤ tr → tr ≤ J → RelS s t f l p J ⟨s, t, f, l, p, 1, 0, sl, tr⟩ ⟨1, H, sl, tr⟩
  | two (sl tr : Int) (hd : Nat) : okC s t f l p → 1 ≤ sl → sl ≤ s → 0 ≤ tr → tr ≤ J → hd < 18446744073709551616 → RelS s t f l p J ⟨s, t, f, l, p, 2, hd, sl, tr⟩ ⟨2, hd, sl, tr⟩
  | three (sl tr : Int) (hd : Nat) : okC s t f l p → 1 ≤ sl → sl ≤ s → 0 ≤ tr → tr ≤ J → hd < 18446744073709551616 → RelS s t f l p J ⟨s, t, f, l, p, 3, hd, sl, tr⟩ ⟨3, hd, sl, tr⟩
  | over (tr H S : Int) : RelS s t f l p J (Su.end tr) ⟨0, H, S, tr⟩
theorem srel_done {s t f l p : Int} {J : Nat} {x : Su} {y : Rs} (h : RelS s t f l p J x y) :
    (y.a = 0 → ∀ W : World, Calls Tryd.prog 24 #[suV x] W fun e w' => e = .returned (.bool true) ∧ Below W.heap.size W w') ∧
    (y.a ≠ 0 → ∀ W : World, Calls Tryd.prog 24 #[suV x] W fun e w' => e = .returned (.bool false) ∧ Below W.heap.size W w') := by
  cases h with
  | one sl tr H hok h1 h2 h3 h4 => exact ⟨fun h => absurd h (by show ¬ (1 : Int) = 0; omega), fun _ W => sdone_no _ _ _ _ _ _ _ _ _ (by have := hok.1.1; simp; omega) W⟩
  | two sl tr hd hok h1 h2 h3 h4 h5 => exact ⟨fun h => absurd h (by show ¬ (2 : Int) = 0; omega), fun _ W => sdone_no _ _ _ _ _ _ _ _ _ (by have := hok.1.1; simp; omega) W⟩
  | three sl tr hd hok h1 h2 h3 h4 h5 => exact ⟨fun h => absurd h (by show ¬ (3 : Int) = 0; omega), fun _ W => sdone_no _ _ _ _ _ _ _ _ _ (by have := hok.1.1; simp; omega) W⟩
  | over tr H S => exact ⟨fun _ W => sdone_yes tr W, fun h => absurd rfl h⟩
theorem srel_tries {s t f l p : Int} {J : Nat} {x : Su} {y : Rs} (h : RelS s t f l p J x y) (W : World) :
    Calls Tryd.prog 25 #[suV x] W fun e w' => e = .returned (.int .i64 y.tr) ∧ Below W.heap.size W w' := by
  have e : y.tr = x.tr := by cases h <;> rfl
  rw [e]; exact stries_any x W
theorem srel_up {s t f l p : Int} {J : Nat} {x : Su} {y : Rs} (h : RelS s t f l p J x y) : RelS s t f l p (J + 1) x y := by
  cases h with
  | one sl tr H hok h1 h2 h3 h4 => exact .one sl tr H hok h1 h2 h3 (by omega)
  | two sl tr hd hok h1 h2 h3 h4 h5 => exact .two sl tr hd hok h1 h2 h3 (by omega) h5
  | three sl tr hd hok h1 h2 h3 h4 h5 => exact .three sl tr hd hok h1 h2 h3 (by omega) h5
  | over tr H S => exact .over tr H S
theorem srel_want {s t f l p : Int} {J : Nat} {x : Su} {y : Rs} (h : RelS s t f l p J x y) : ∃ k a o m : Int,
    (∀ W : World, Calls Tryd.prog 22 #[suV x] W fun e w' => e = .returned (askQ k a o m) ∧ Below W.heap.size W w') ∧
    (∀ W : World, Calls Tryd.prog 23 #[cfgV s t f l p, rsV y] W fun e w' => e = .returned (askQ k a o m) ∧ Below W.heap.size W w') := by
  have a3 : s ≠ 0 → atL s t f 3 0 0 = 2 := fun hs => by unfold atL; rw [if_pos (by omega), if_neg (by omega)]; rfl
  cases h with
  | one sl tr H hok h1 h2 h3 h4 => exact ⟨1, 2, 0, 0, fun W => by have := swant_1 s t f l p 0 sl tr (.inl hok) W; rw [a3 (by omega)] at this; exact this, fun W => rswant_1 s t f l p H sl tr W⟩
  | two sl tr hd hok h1 h2 h3 h4 h5 => exact ⟨2, _, 0, _, fun W => swant_2 s t f l p hd sl tr h5 (.inl hok) W, fun W => rswant_2 s t f l p hd sl tr h5 hok (by omega) h2 W⟩
  | three sl tr hd hok h1 h2 h3 h4 h5 => exact ⟨3, 2, hd, hwTurn hd sl, fun W => by have := swant_3 s t f l p hd sl tr h5 (.inl hok) W; rw [a3 (by omega)] at this; exact this, fun W => rswant_3 s t f l p hd sl tr h5 W⟩
  | over tr H S => exact ⟨0, 0, 0, 0, fun W => swant_0 tr W, fun W => rswant_0 s t f l p H S tr W⟩
theorem srel_took {s t f l p : Int} {J : Nat} {x : Su} {y : Rs} (h : RelS s t f l p J x y) (hJ : J ≤ 900) (n : Nat) (hn : n < 18446744073709551616) : ∃ x' y', RelS s t f l p (J + 1) x' y' ∧
    (∀ W : World, Calls Tryd.prog 26 #[suV x, .int .u64 n] W fun e w' => e = .returned (suV x') ∧ Below W.heap.size W w') ∧
    (∀ W : World, Calls Tryd.prog 27 #[rsV y, .int .u64 n] W fun e w' => e = .returned (rsV y') ∧ Below W.heap.size W w') := by
  cases h with
  | one sl tr H hok h1 h2 h3 h4 =>
    exact ⟨_, _, .two sl tr n hok h1 h2 h3 (by omega) hn, fun W => stook_1 s t f l p 0 sl tr n _ (fun W => stookHead_any ⟨s, t, f, l, p, 1, 0, sl, tr⟩ n W) W, fun W => rstook_1 H sl tr n W⟩
  | two sl tr hd hok h1 h2 h3 h4 h5 =>
    exact ⟨_, _, .three sl tr hd hok h1 h2 h3 (by omega) h5, fun W => stook_2 s t f l p hd sl tr n _ (fun W => stookLink_any ⟨s, t, f, l, p, 2, hd, sl, tr⟩ n W) W, fun W => rstook_2 hd sl tr n W⟩
  | three sl tr hd hok h1 h2 h3 h4 h5 =>
    by_cases a1 : n = 1
    · subst a1
      exact ⟨_, _, .over tr hd sl, fun W => stook_3 s t f l p hd sl tr 1 _ (fun W => stookSwap_hit ⟨s, t, f, l, p, 3, hd, sl, tr⟩ W) W, fun W => rstook_3hit hd sl tr W⟩
    · exact ⟨_, _, .one sl (tr + 1) hd hok h1 h2 (by omega) (by omega), fun W => stook_3 s t f l p hd sl tr n _ (fun W => stookSwap_miss s t f l p 3 hd sl tr n a1 h3 (by omega) W) W, fun W => rstook_3miss hd sl tr n a1 h3 (by omega) W⟩
  | over tr H S =>
    exact ⟨_, _, .over tr H S, fun W => stook_0 0 0 0 0 0 0 0 tr n _ (fun W => sstay_any (Su.end tr) n W) W, fun W => rstook_0 H S tr n W⟩
theorem srel_new (s t f l p n : Int) : ∃ (s' t' f' l' p' : Int) (x : Su) (y : Rs), RelS s t f l p 0 x y ∧
    (∀ W, GL W → Calls Tryd.prog 12 #[cfgV s t f l p] W fun e w' => e = .returned (layV s' t' f' l' p') ∧ Below W.heap.size W w') ∧
    (∀ W : World, Calls Tryd.prog 20 #[layV s' t' f' l' p', .int .i64 n] W fun e w' => e = .returned (suV x) ∧ Below W.heap.size W w') ∧
    (∀ W : World, Calls Tryd.prog 21 #[cfgV s t f l p, .int .i64 n] W fun e w' => e = .returned (rsV y) ∧ Below W.heap.size W w') := by
  by_cases hok : okC s t f l p
  · have hs : 0 ≤ s := by have := hok.1.1; omega
    by_cases h1 : n < 1
    · exact ⟨s, t, f, l, p, _, _, .over 0 0 0, fun W hG => new_yes s t f l p W hG hok, fun W => snew_no s t f l p n (fun W => isSlot_lo s t f l p n hs h1 W) W, fun W => rsnew_lo s t f l p n hok h1 W⟩
    by_cases h2 : s < n
    · exact ⟨s, t, f, l, p, _, _, .over 0 0 0, fun W hG => new_yes s t f l p W hG hok, fun W => snew_no s t f l p n (fun W => isSlot_hi s t f l p n hs h2 W) W, fun W => rsnew_hi s t f l p n hok (by omega) h2 W⟩
    · exact ⟨s, t, f, l, p, _, _, .one n 0 0 hok (by omega) (by omega) (by omega) (by omega), fun W hG => new_yes s t f l p W hG hok, fun W => snew_yes s t f l p n (fun W => isSlot_in s t f l p n hs ⟨by omega, by omega⟩ W) W, fun W => rsnew_yes s t f l p n hok (by omega) (by omega) W⟩
  · refine ⟨0, 0, 0, 0, 0, _, _, .over 0 0 0, fun W hG => new_no s t f l p W hG hok, fun W => snew_no 0 0 0 0 0 n (fun W => ?_) W, fun W => rsnew_no s t f l p n hok W⟩
    by_cases h1 : n < 1
    · exact isSlot_lo 0 0 0 0 0 n (by omega) h1 W
    · exact isSlot_hi 0 0 0 0 0 n (by omega) (by omega) W
structure KYS (w : World) (g0 : Nat) (s t f l p : Int) (g1 : Nat) (x : Su) (g2 : Nat) (y : Rs) (W : World) : Prop where
  k : K5 w.heap.size w g0 s t f l p W
  e : SC g1 x W
  r : RSC g2 y W
  l1 : w.heap.size ≤ g1
  l2 : w.heap.size ≤ g2
  n0 : g1 ≠ g0
  n1 : g2 ≠ g0
  n2 : g1 ≠ g2
section
variable {w : World} {g0 : Nat} {s t f l p : Int} {g1 : Nat} {x : Su} {g2 : Nat} {y : Rs} {W W' : World}
theorem KYS.next (h : KYS w g0 s t f l p g1 x g2 y W) (hn : Below W.heap.size W W') : KYS w g0 s t f l p g1 x g2 y W' := ⟨h.k.next hn, h.e.next hn, h.r.next hn, h.l1, h.l2, h.n0, h.n1, h.n2⟩
theorem KYS.drew (h : KYS w g0 s t f l p g1 x g2 y W) : KYS w g0 s t f l p g1 x g2 y W.drew := ⟨⟨h.k.c0, h.k.c1, h.k.c2, h.k.c3, h.k.c4, h.k.bl.drew, h.k.le⟩, h.e.drew, h.r.drew, h.l1, h.l2, h.n0, h.n1, h.n2⟩
theorem K5.keepS {B : Nat} {w0 : World} (h : K5 B w0 g0 s t f l p W) (hne : g1 ≠ g0) (hl : B ≤ g1) (z : Su) : K5 B w0 g0 s t f l p (putS W g1 z) := by
  obtain ⟨c0, c1, c2, c3, c4, bl, le⟩ := h
  have hne2 : g0 ≠ g1 := fun e => hne e.symm
  exact ⟨by unfold putS; simp [go_sem, c0], by unfold putS; simp [go_sem, c1], by unfold putS; simp [go_sem, c2], by unfold putS; simp [go_sem, c3], by unfold putS; simp [go_sem, c4], below_putS bl hl z, by simpa using le⟩
theorem K5.keepT {B : Nat} {w0 : World} (h : K5 B w0 g0 s t f l p W) (hne : g2 ≠ g0) (hl : B ≤ g2) (z : Rs) : K5 B w0 g0 s t f l p (putT W g2 z) := by
  obtain ⟨c0, c1, c2, c3, c4, bl, le⟩ := h
  have hne2 : g0 ≠ g2 := fun e => hne e.symm
  exact ⟨by unfold putT; simp [go_sem, c0], by unfold putT; simp [go_sem, c1], by unfold putT; simp [go_sem, c2], by unfold putT; simp [go_sem, c3], by unfold putT; simp [go_sem, c4], below_putT bl hl z, by simpa using le⟩
theorem KYS.store1 (h : KYS w g0 s t f l p g1 x g2 y W) (z : Su) : KYS w g0 s t f l p g1 z g2 y (putS W g1 z) := ⟨h.k.keepS h.n0 h.l1 z, h.e.store z, h.r.keep_putS h.n2 z, h.l1, h.l2, h.n0, h.n1, h.n2⟩
theorem KYS.store2 (h : KYS w g0 s t f l p g1 x g2 y W) (z : Rs) : KYS w g0 s t f l p g1 x g2 z (putT W g2 z) := ⟨h.k.keepT h.n1 h.l2 z, h.e.keep_putT (fun e => h.n2 e.symm) z, h.r.store z, h.l1, h.l2, h.n0, h.n1, h.n2⟩
structure KYSX (w : World) (g0 : Nat) (s t f l p : Int) (g1 : Nat) (x : Su) (g2 : Nat) (y : Rs) (a : Addr) (v : Value) (W : World) : Prop extends KYS w g0 s t f l p g1 x g2 y W where
  xc : W.cell? a = some v
  xb : a.block < w.heap.size
theorem KYSX.next {a : Addr} {v : Value} (h : KYSX w g0 s t f l p g1 x g2 y a v W) (hn : Below W.heap.size W W') : KYSX w g0 s t f l p g1 x g2 y a v W' :=
  ⟨h.toKYS.next hn, (hn.cell (Nat.lt_of_lt_of_le h.xb h.k.bl.size)).trans h.xc, h.xb⟩
theorem KYSX.mk' {a : Addr} {v : Value} (h : KYS w g0 s t f l p g1 x g2 y W) (hb : a.block < w.heap.size) (hx : w.cell? a = some v) : KYSX w g0 s t f l p g1 x g2 y a v W.drew :=
  ⟨h.drew, (h.k.bl.drew.cell hb).trans hx, hb⟩
theorem KYS.b0 (h : KYS w g0 s t f l p g1 x g2 y W) : W.cell? ⟨g0, 0, none⟩ = some (.int .i64 s) := h.k.c0
theorem KYS.b1 (h : KYS w g0 s t f l p g1 x g2 y W) : W.cell? ⟨g0, 1, none⟩ = some (.int .i64 t) := h.k.c1
theorem KYS.b2 (h : KYS w g0 s t f l p g1 x g2 y W) : W.cell? ⟨g0, 2, none⟩ = some (.int .i64 f) := h.k.c2
theorem KYS.b3 (h : KYS w g0 s t f l p g1 x g2 y W) : W.cell? ⟨g0, 3, none⟩ = some (.int .i64 l) := h.k.c3
theorem KYS.b4 (h : KYS w g0 s t f l p g1 x g2 y W) : W.cell? ⟨g0, 4, none⟩ = some (.int .i64 p) := h.k.c4
theorem KYS.d0 (h : KYS w g0 s t f l p g1 x g2 y W) : W.cell? ⟨g2, 0, none⟩ = some (.int .i64 y.a) := h.r.c0
theorem KYS.d1 (h : KYS w g0 s t f l p g1 x g2 y W) : W.cell? ⟨g2, 1, none⟩ = some (.int .u64 y.hd) := h.r.c1
theorem KYS.d2 (h : KYS w g0 s t f l p g1 x g2 y W) : W.cell? ⟨g2, 2, none⟩ = some (.int .i64 y.sl) := h.r.c2
theorem KYS.d3 (h : KYS w g0 s t f l p g1 x g2 y W) : W.cell? ⟨g2, 3, none⟩ = some (.int .i64 y.tr) := h.r.c3
theorem KYS.c0 (h : KYS w g0 s t f l p g1 x g2 y W) : W.cell? ⟨g1, 0, none⟩ = some (.int .i64 x.s) := h.e.c0
theorem KYS.c1 (h : KYS w g0 s t f l p g1 x g2 y W) : W.cell? ⟨g1, 1, none⟩ = some (.int .i64 x.t) := h.e.c1
theorem KYS.c2 (h : KYS w g0 s t f l p g1 x g2 y W) : W.cell? ⟨g1, 2, none⟩ = some (.int .i64 x.f) := h.e.c2
theorem KYS.c3 (h : KYS w g0 s t f l p g1 x g2 y W) : W.cell? ⟨g1, 3, none⟩ = some (.int .i64 x.l) := h.e.c3
theorem KYS.c4 (h : KYS w g0 s t f l p g1 x g2 y W) : W.cell? ⟨g1, 4, none⟩ = some (.int .i64 x.p) := h.e.c4
theorem KYS.c5 (h : KYS w g0 s t f l p g1 x g2 y W) : W.cell? ⟨g1, 5, none⟩ = some (.int .i64 x.st) := h.e.c5
theorem KYS.c6 (h : KYS w g0 s t f l p g1 x g2 y W) : W.cell? ⟨g1, 6, none⟩ = some (.int .u64 x.hd) := h.e.c6
theorem KYS.c7 (h : KYS w g0 s t f l p g1 x g2 y W) : W.cell? ⟨g1, 7, none⟩ = some (.int .i64 x.sl) := h.e.c7
theorem KYS.c8 (h : KYS w g0 s t f l p g1 x g2 y W) : W.cell? ⟨g1, 8, none⟩ = some (.int .i64 x.tr) := h.e.c8
end
end Go.Proofs.YtfejkcbdbkpnfaaDoor
