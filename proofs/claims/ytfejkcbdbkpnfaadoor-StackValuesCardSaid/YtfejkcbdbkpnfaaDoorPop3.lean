/- The relation of both Pops; law 15's awake; the law's class. -/
import Derived.Test.YtfejkcbdbkpnfaaDoorPop2
namespace Go.Proofs.YtfejkcbdbkpnfaaDoor
set_option linter.unusedVariables false
open Go.RowKit Go.Extern.Stop Go.Stop Go.Extern
inductive RelP (s t f l p : Int) (J : Nat) : Po → Rp → Prop
  | one (tr H S L : Int) : okC s t f l p → 0 ≤ tr → tr ≤ J → RelP s t f l p J ⟨s, t, f, l, p, 1, 0, 0, 0, tr⟩ ⟨1, H, S, L, tr⟩
  | two (tr L : Int) (hd m : Nat) : okC s t f l p → 0 ≤ tr → tr ≤ J → hd < 18446744073709551616 → hd % 65536 = m → 1 ≤ (m : Int) → (m : Int) ≤ s → RelP s t f l p J ⟨s, t, f, l, p, 2, hd, 0, 0, tr⟩ ⟨2, hd, m, L, tr⟩
  | three (tr nx : Int) (hd m lk : Nat) : okC s t f l p → 0 ≤ tr → tr ≤ J → hd < 18446744073709551616 → hd % 65536 = m → 1 ≤ (m : Int) → (m : Int) ≤ s → lk < 18446744073709551616 → (nx = lk ∧ (lk : Int) ≤ s ∨ nx = 0 ∧ s < (lk : Int)) → RelP s t f l p J ⟨s, t, f, l, p, 3, hd, lk, 0, tr⟩ ⟨3, hd, m, nx, tr⟩
  | over (tr H sl L : Int) : RelP s t f l p J (Po.end sl tr) ⟨0, H, sl, L, tr⟩
theorem prel_done {s t f l p : Int} {J : Nat} {x : Po} {y : Rp} (h : RelP s t f l p J x y) :
    (y.a = 0 → ∀ W : World, Calls Tryd.prog 14 #[popV x] W fun e w' => e = .returned (.tuple #[.int .i64 y.sl, .bool true]) ∧ Below W.heap.size W w') ∧
    (y.a ≠ 0 → ∀ W : World, Calls Tryd.prog 14 #[popV x] W fun e w' => e = .returned (.tuple #[.int .i64 0, .bool false]) ∧ Below W.heap.size W w') := by
  cases h with
  | one tr H S L hok h1 h2 => exact ⟨fun h => absurd h (by show ¬ (1 : Int) = 0; omega), fun _ W => pdone_no _ _ _ _ _ _ _ _ _ _ (by have := hok.1.1; simp; omega) W⟩
  | two tr L hd m hok h1 h2 h3 h4 h5 h6 => exact ⟨fun h => absurd h (by show ¬ (2 : Int) = 0; omega), fun _ W => pdone_no _ _ _ _ _ _ _ _ _ _ (by have := hok.1.1; simp; omega) W⟩
  | three tr nx hd m lk hok h1 h2 h3 h4 h5 h6 h7 h8 => exact ⟨fun h => absurd h (by show ¬ (3 : Int) = 0; omega), fun _ W => pdone_no _ _ _ _ _ _ _ _ _ _ (by have := hok.1.1; simp; omega) W⟩
  | over tr H sl L => exact ⟨fun _ W => pdone_yes sl tr W, fun h => absurd rfl h⟩
theorem prel_tries {s t f l p : Int} {J : Nat} {x : Po} {y : Rp} (h : RelP s t f l p J x y) (W : World) :
    Calls Tryd.prog 17 #[popV x] W fun e w' => e = .returned (.int .i64 y.tr) ∧ Below W.heap.size W w' := by
  have e : y.tr = x.tr := by cases h <;> rfl
  rw [e]; exact tries_any x W
theorem prel_want {s t f l p : Int} {J : Nat} {x : Po} {y : Rp} (h : RelP s t f l p J x y) : ∃ k a o m : Int,
    (∀ W : World, Calls Tryd.prog 15 #[popV x] W fun e w' => e = .returned (askQ k a o m) ∧ Below W.heap.size W w') ∧
    (∀ W : World, Calls Tryd.prog 16 #[cfgV s t f l p, rpV y] W fun e w' => e = .returned (askQ k a o m) ∧ Below W.heap.size W w') := by
  have h3 : s ≠ 0 → atL s t f 3 0 0 = 2 := fun hs => by unfold atL; rw [if_pos (by omega), if_neg (by omega)]; rfl
  cases h with
  | one tr H S L hok h1 h2 => exact ⟨1, 2, 0, 0, fun W => by have := pwant_1 s t f l p 0 0 0 tr (.inl hok) W; rw [h3 (by have := hok.1.1; omega)] at this; exact this, fun W => rpwant_1 s t f l p H S L tr W⟩
  | two tr L hd m hok h1 h2 h3 h4 h5 h6 => exact ⟨1, _, 0, 0, fun W => by have := pwant_2 s t f l p hd 0 0 tr h3 (.inl hok) W; rw [h4] at this; exact this, fun W => rpwant_2 s t f l p hd m L tr hok (by omega) h6 W⟩
  | three tr nx hd m lk hok h1 h2 hh h4 h5 h6 h7 h8 =>
    refine ⟨3, 2, hd, hwTurn hd nx, fun W => ?_, fun W => rpwant_3 s t f l p hd m nx tr hh W⟩
    have := pwant_3 s t f l p hd lk 0 tr nx hh (.inl hok) (fun W => by
      rcases h8 with ⟨rfl, h⟩ | ⟨rfl, h⟩
      · exact next_in s t f l p 3 hd lk 0 tr (by have := hok.1.1; omega) hok.1.2 h7 h W
      · exact next_out s t f l p 3 hd lk 0 tr (by have := hok.1.1; omega) hok.1.2 h7 h W) W
    rw [h3 (by have := hok.1.1; omega)] at this; exact this
  | over tr H sl L => exact ⟨0, 0, 0, 0, fun W => pwant_0 sl tr W, fun W => rpwant_0 s t f l p H sl L tr W⟩
set_option maxHeartbeats 1000000 in
theorem rptook_z (s t f l p hd sl lk tr : Int) (n : Nat) (hn : n < 18446744073709551616) (W : World) :
    Calls Tryd.prog 19 #[cfgV s t f l p, rpV ⟨0, hd, sl, lk, tr⟩, .int .u64 n] W fun e w' => e = .returned (rpV ⟨0, hd, sl, lk, tr⟩) ∧ Below W.heap.size W w' := by
  have hB := Lib.hid (below3p W)
  go_enter Tryd.func19, Tryd.ntmps19
  go_wp2
  exact bodyPost_ret (v := rpV ⟨0, hd, sl, lk, tr⟩) (by simp [results, Tryd.results19, go_sem]) rfl ⟨rfl, (by repeat (first | (with_reducible refine Below.setCell ?_ (by simp) _) | exact hB.out _ _ _ | exact Nat.le_refl _))⟩
theorem prel_took {s t f l p : Int} {J : Nat} {x : Po} {y : Rp} (h : RelP s t f l p J x y) (hJ : J ≤ 900) (n : Nat) (hn : n < 18446744073709551616) : ∃ x' y', RelP s t f l p (J + 1) x' y' ∧
    (∀ W : World, Calls Tryd.prog 18 #[popV x, .int .u64 n] W fun e w' => e = .returned (popV x') ∧ Below W.heap.size W w') ∧
    (∀ W : World, Calls Tryd.prog 19 #[cfgV s t f l p, rpV y, .int .u64 n] W fun e w' => e = .returned (rpV y') ∧ Below W.heap.size W w') := by
  cases h with
  | one tr H S L hok h1 h2 =>
    have hs1 := hok.1.2
    have hs : 0 ≤ s := by have := hok.1.1; omega
    by_cases a1 : ((n % 65536 : Nat) : Int) < 1
    · exact ⟨_, _, .over tr n 0 L, fun W => ptook_1 s t f l p 0 0 0 tr n _ (fun W => tookHead_lo s t f l p 1 0 0 0 tr hs n hn a1 W) W, fun W => rptook_1lo s t f l p H S L tr hs hs1 n hn a1 W⟩
    by_cases a2 : s < ((n % 65536 : Nat) : Int)
    · exact ⟨_, _, .over tr n 0 L, fun W => ptook_1 s t f l p 0 0 0 tr n _ (fun W => tookHead_hi s t f l p 1 0 0 0 tr hs n hn a2 W) W, fun W => rptook_1hi s t f l p H S L tr hs hs1 n hn (by omega) a2 W⟩
    · exact ⟨_, _, .two tr L n (n % 65536) hok h1 (by omega) hn rfl (by omega) (by omega), fun W => ptook_1 s t f l p 0 0 0 tr n _ (fun W => tookHead_in s t f l p 1 0 0 0 tr hs n hn ⟨by omega, by omega⟩ W) W, fun W => rptook_1in s t f l p H S L tr hs hs1 n hn (n % 65536) rfl (by omega) (by omega) W⟩
  | two tr L hd m hok h1 h2 h3 h4 h5 h6 =>
    have hs1 := hok.1.2
    have hs : 0 ≤ s := by have := hok.1.1; omega
    by_cases a1 : (n : Int) ≤ s
    · exact ⟨_, _, .three tr n hd m n hok h1 (by omega) h3 h4 h5 h6 hn (.inl ⟨rfl, a1⟩), fun W => ptook_2 s t f l p hd 0 0 tr n _ (fun W => tookLink_any ⟨s, t, f, l, p, 2, hd, 0, 0, tr⟩ n W) W, fun W => rptook_2in s t f l p hd m L tr hs hs1 n hn a1 W⟩
    · exact ⟨_, _, .three tr 0 hd m n hok h1 (by omega) h3 h4 h5 h6 hn (.inr ⟨rfl, by omega⟩), fun W => ptook_2 s t f l p hd 0 0 tr n _ (fun W => tookLink_any ⟨s, t, f, l, p, 2, hd, 0, 0, tr⟩ n W) W, fun W => rptook_2out s t f l p hd m L tr hs hs1 n hn (by omega) W⟩
  | three tr nx hd m lk hok h1 h2 hh h4 h5 h6 h7 h8 =>
    have hs1 := hok.1.2
    have hs : 0 ≤ s := by have := hok.1.1; omega
    by_cases a1 : n = 1
    · subst a1
      refine ⟨_, _, .over tr hd m nx, fun W => ptook_3 s t f l p hd lk 0 tr 1 _ (fun W => ?_) W, fun W => rptook_3hit s t f l p hd m nx tr hs hs1 W⟩
      have := tookSwap_hit s t f l p 3 lk 0 tr hd hh W
      rw [h4] at this; exact this
    · exact ⟨_, _, .one (tr + 1) hd m nx hok (by omega) (by omega), fun W => ptook_3 s t f l p hd lk 0 tr n _ (fun W => tookSwap_miss s t f l p 3 hd lk 0 tr n a1 h1 (by omega) W) W, fun W => rptook_3miss s t f l p hd m nx tr hs hs1 n hn a1 h1 (by omega) W⟩
  | over tr H sl L =>
    exact ⟨_, _, .over tr H sl L, fun W => ptook_0 0 0 0 0 0 0 0 0 sl tr rfl rfl rfl n _ (fun W => stay_any (Po.end sl tr) n W) W, fun W => rptook_z s t f l p H sl L tr n hn W⟩
theorem prel_new (s t f l p : Int) : ∃ (s' t' f' l' p' : Int) (x : Po) (y : Rp), RelP s t f l p 0 x y ∧
    (∀ W, GL W → Calls Tryd.prog 12 #[cfgV s t f l p] W fun e w' => e = .returned (layV s' t' f' l' p') ∧ Below W.heap.size W w') ∧
    (∀ W : World, Calls Tryd.prog 11 #[layV s' t' f' l' p'] W fun e w' => e = .returned (popV x) ∧ Below W.heap.size W w') ∧
    (∀ W : World, Calls Tryd.prog 13 #[cfgV s t f l p] W fun e w' => e = .returned (rpV y) ∧ Below W.heap.size W w') := by
  by_cases hok : okC s t f l p
  · exact ⟨s, t, f, l, p, _, _, .one 0 0 0 0 hok (by omega) (by omega), fun W hG => new_yes s t f l p W hG hok, fun W => pnew_yes s t f l p (by have := hok.1.1; simp; omega) W, fun W => rpnew_yes s t f l p hok W⟩
  · exact ⟨0, 0, 0, 0, 0, _, _, .over 0 0 0 0, fun W hG => new_no s t f l p W hG hok, fun W => pnew_no W, fun W => rpnew_no s t f l p hok W⟩
set_option maxHeartbeats 2000000 in
theorem awake15_any (W : World) (hG : GL W) :
    Calls Tryd.prog 10 #[] W fun e w' => e = .returned (.bool true) ∧ Below W.heap.size W w' := by
  have ok : okC 3 1 4 1 1 := by decide
  have N := Lib.hid (new_yes 3 1 4 1 1 W hG ok)
  have E := Lib.hid (pnew_yes 3 1 4 1 1 rfl)
  have T1 : RowKit.Hid (∀ W : World, Calls Tryd.prog 18 #[popV ⟨3, 1, 4, 1, 1, 1, 0, 0, 0, 0⟩, .int .u64 2] W fun e w' => e = .returned (popV ⟨3, 1, 4, 1, 1, 2, 2, 0, 0, 0⟩) ∧ Below W.heap.size W w') := Lib.hid (fun W => ptook_1 3 1 4 1 1 0 0 0 0 2 _ (fun W => tookHead_in 3 1 4 1 1 1 0 0 0 0 (by omega) 2 (by omega) (by decide) W) W)
  have T2 : RowKit.Hid (∀ W : World, Calls Tryd.prog 18 #[popV ⟨3, 1, 4, 1, 1, 2, 2, 0, 0, 0⟩, .int .u64 3] W fun e w' => e = .returned (popV ⟨3, 1, 4, 1, 1, 3, 2, 3, 0, 0⟩) ∧ Below W.heap.size W w') := Lib.hid (fun W => ptook_2 3 1 4 1 1 2 0 0 0 3 _ (fun W => tookLink_any ⟨3, 1, 4, 1, 1, 2, 2, 0, 0, 0⟩ 3 W) W)
  have T3 : RowKit.Hid (∀ W : World, Calls Tryd.prog 18 #[popV ⟨3, 1, 4, 1, 1, 3, 2, 3, 0, 0⟩, .int .u64 1] W fun e w' => e = .returned (popV (Po.end 2 0)) ∧ Below W.heap.size W w') := Lib.hid (fun W => ptook_3 3 1 4 1 1 2 3 0 0 1 _ (fun W => tookSwap_hit 3 1 4 1 1 3 3 0 0 2 (by omega) W) W)
  have D := Lib.hid (pdone_yes 2 0)
  have Q : RowKit.Hid (∀ W : World, Calls Tryd.prog 15 #[popV ⟨3, 1, 4, 1, 1, 3, 2, 3, 0, 0⟩] W fun e w' => e = .returned (askQ 3 2 2 65539) ∧ Below W.heap.size W w') := Lib.hid (fun W => pwant_3 3 1 4 1 1 2 3 0 0 3 (by omega) (.inl ok) (fun W => next_in 3 1 4 1 1 3 2 3 0 0 (by omega) (by omega) (by omega) (by omega) W) W)
  clear ok hG
  go_enter Tryd.func10, Tryd.ntmps10
  have k1 : True := trivial
  have k2 : True := trivial
  have k3 : True := trivial
  go_wp2_with (first
    | (go_at_call 12; refine N.out.mono ?_; rintro e w1 ⟨rfl, h1⟩)
    | (go_at_call 11; refine (E.out _).mono ?_; rintro e w2 ⟨rfl, hn⟩; have h2 := h1.trans (hn.mono h1.size); clear hn h1)
    | (go_at_call 18; have _k := k1; refine (T1.out _).mono ?_; rintro e w3 ⟨rfl, hn⟩; clear k1; have h3 := h2.trans (hn.mono h2.size); clear hn h2)
    | (go_at_call 18; have _k := k2; refine (T2.out _).mono ?_; rintro e w5 ⟨rfl, hn⟩; clear k2; have h5 := h3.trans (hn.mono h3.size); clear hn h3)
    | (go_at_call 18; have _k := k3; refine (T3.out _).mono ?_; rintro e w6 ⟨rfl, hn⟩; clear k3; have e6 := (PC.alloc w5 ⟨3, 1, 4, 1, 1, 3, 2, 3, 0, 0⟩).next hn; have h5b := h5.alloc h5.size (popRow ⟨3, 1, 4, 1, 1, 3, 2, 3, 0, 0⟩); have h6 := h5b.trans (hn.mono h5b.size); clear hn h5 h5b)
    | (go_at_call 14; refine (D.out _).mono ?_; rintro e w7 ⟨rfl, hn⟩; have e7 := e6.next hn; have h7 := h6.trans (hn.mono h6.size); clear hn h6 e6; have c0 := e7.c0; have c1 := e7.c1; have c2 := e7.c2; have c3 := e7.c3; have c4 := e7.c4; have c5 := e7.c5; have c6 := e7.c6; have c7 := e7.c7; have c8 := e7.c8; have c9 := e7.c9)
    | (go_at_call 15; refine (Q.out _).mono ?_; rintro e w8 ⟨rfl, hn⟩; have h8 := h7.trans (hn.mono h7.size); clear hn h7))
  go_ret
  exact ⟨rfl, h8⟩
structure KYP (w : World) (g0 : Nat) (s t f l p : Int) (g1 : Nat) (x : Po) (g2 : Nat) (y : Rp) (W : World) : Prop where
  k : K5 w.heap.size w g0 s t f l p W
  e : PC g1 x W
  r : RPC g2 y W
  l1 : w.heap.size ≤ g1
  l2 : w.heap.size ≤ g2
  n0 : g1 ≠ g0
  n1 : g2 ≠ g0
  n2 : g1 ≠ g2
section
variable {w : World} {g0 : Nat} {s t f l p : Int} {g1 : Nat} {x : Po} {g2 : Nat} {y : Rp} {W W' : World}
theorem KYP.next (h : KYP w g0 s t f l p g1 x g2 y W) (hn : Below W.heap.size W W') : KYP w g0 s t f l p g1 x g2 y W' := ⟨h.k.next hn, h.e.next hn, h.r.next hn, h.l1, h.l2, h.n0, h.n1, h.n2⟩
theorem KYP.drew (h : KYP w g0 s t f l p g1 x g2 y W) : KYP w g0 s t f l p g1 x g2 y W.drew := ⟨⟨h.k.c0, h.k.c1, h.k.c2, h.k.c3, h.k.c4, h.k.bl.drew, h.k.le⟩, h.e.drew, h.r.drew, h.l1, h.l2, h.n0, h.n1, h.n2⟩
theorem K5.keepP {B : Nat} {w0 : World} (h : K5 B w0 g0 s t f l p W) (hne : g1 ≠ g0) (hl : B ≤ g1) (z : Po) : K5 B w0 g0 s t f l p (putP W g1 z) := by
  obtain ⟨c0, c1, c2, c3, c4, bl, le⟩ := h
  have hne2 : g0 ≠ g1 := fun e => hne e.symm
  exact ⟨by unfold putP; simp [go_sem, c0], by unfold putP; simp [go_sem, c1], by unfold putP; simp [go_sem, c2], by unfold putP; simp [go_sem, c3], by unfold putP; simp [go_sem, c4], below_putP bl hl z, by simpa using le⟩
theorem K5.keepQ {B : Nat} {w0 : World} (h : K5 B w0 g0 s t f l p W) (hne : g2 ≠ g0) (hl : B ≤ g2) (z : Rp) : K5 B w0 g0 s t f l p (putQ W g2 z) := by
  obtain ⟨c0, c1, c2, c3, c4, bl, le⟩ := h
  have hne2 : g0 ≠ g2 := fun e => hne e.symm
  exact ⟨by unfold putQ; simp [go_sem, c0], by unfold putQ; simp [go_sem, c1], by unfold putQ; simp [go_sem, c2], by unfold putQ; simp [go_sem, c3], by unfold putQ; simp [go_sem, c4], below_putQ bl hl z, by simpa using le⟩
theorem KYP.store1 (h : KYP w g0 s t f l p g1 x g2 y W) (z : Po) : KYP w g0 s t f l p g1 z g2 y (putP W g1 z) := ⟨h.k.keepP h.n0 h.l1 z, h.e.store z, h.r.keep_putP h.n2 z, h.l1, h.l2, h.n0, h.n1, h.n2⟩
theorem KYP.store2 (h : KYP w g0 s t f l p g1 x g2 y W) (z : Rp) : KYP w g0 s t f l p g1 x g2 z (putQ W g2 z) := ⟨h.k.keepQ h.n1 h.l2 z, h.e.keep_putQ (fun e => h.n2 e.symm) z, h.r.store z, h.l1, h.l2, h.n0, h.n1, h.n2⟩
structure KYPX (w : World) (g0 : Nat) (s t f l p : Int) (g1 : Nat) (x : Po) (g2 : Nat) (y : Rp) (a : Addr) (v : Value) (W : World) : Prop extends KYP w g0 s t f l p g1 x g2 y W where
  xc : W.cell? a = some v
  xb : a.block < w.heap.size
theorem KYPX.next {a : Addr} {v : Value} (h : KYPX w g0 s t f l p g1 x g2 y a v W) (hn : Below W.heap.size W W') : KYPX w g0 s t f l p g1 x g2 y a v W' :=
  ⟨h.toKYP.next hn, (hn.cell (Nat.lt_of_lt_of_le h.xb h.k.bl.size)).trans h.xc, h.xb⟩
theorem KYPX.mk' {a : Addr} {v : Value} (h : KYP w g0 s t f l p g1 x g2 y W) (hb : a.block < w.heap.size) (hx : w.cell? a = some v) : KYPX w g0 s t f l p g1 x g2 y a v W.drew :=
  ⟨h.drew, (h.k.bl.drew.cell hb).trans hx, hb⟩
theorem KYP.b0 (h : KYP w g0 s t f l p g1 x g2 y W) : W.cell? ⟨g0, 0, none⟩ = some (.int .i64 s) := h.k.c0
theorem KYP.d0 (h : KYP w g0 s t f l p g1 x g2 y W) : W.cell? ⟨g2, 0, none⟩ = some (.int .i64 y.a) := h.r.c0
theorem KYP.b1 (h : KYP w g0 s t f l p g1 x g2 y W) : W.cell? ⟨g0, 1, none⟩ = some (.int .i64 t) := h.k.c1
theorem KYP.d1 (h : KYP w g0 s t f l p g1 x g2 y W) : W.cell? ⟨g2, 1, none⟩ = some (.int .u64 y.hd) := h.r.c1
theorem KYP.b2 (h : KYP w g0 s t f l p g1 x g2 y W) : W.cell? ⟨g0, 2, none⟩ = some (.int .i64 f) := h.k.c2
theorem KYP.d2 (h : KYP w g0 s t f l p g1 x g2 y W) : W.cell? ⟨g2, 2, none⟩ = some (.int .i64 y.sl) := h.r.c2
theorem KYP.b3 (h : KYP w g0 s t f l p g1 x g2 y W) : W.cell? ⟨g0, 3, none⟩ = some (.int .i64 l) := h.k.c3
theorem KYP.d3 (h : KYP w g0 s t f l p g1 x g2 y W) : W.cell? ⟨g2, 3, none⟩ = some (.int .i64 y.lk) := h.r.c3
theorem KYP.b4 (h : KYP w g0 s t f l p g1 x g2 y W) : W.cell? ⟨g0, 4, none⟩ = some (.int .i64 p) := h.k.c4
theorem KYP.d4 (h : KYP w g0 s t f l p g1 x g2 y W) : W.cell? ⟨g2, 4, none⟩ = some (.int .i64 y.tr) := h.r.c4
theorem KYP.c0 (h : KYP w g0 s t f l p g1 x g2 y W) : W.cell? ⟨g1, 0, none⟩ = some (.int .i64 x.s) := h.e.c0
theorem KYP.c1 (h : KYP w g0 s t f l p g1 x g2 y W) : W.cell? ⟨g1, 1, none⟩ = some (.int .i64 x.t) := h.e.c1
theorem KYP.c2 (h : KYP w g0 s t f l p g1 x g2 y W) : W.cell? ⟨g1, 2, none⟩ = some (.int .i64 x.f) := h.e.c2
theorem KYP.c3 (h : KYP w g0 s t f l p g1 x g2 y W) : W.cell? ⟨g1, 3, none⟩ = some (.int .i64 x.l) := h.e.c3
theorem KYP.c4 (h : KYP w g0 s t f l p g1 x g2 y W) : W.cell? ⟨g1, 4, none⟩ = some (.int .i64 x.p) := h.e.c4
theorem KYP.c5 (h : KYP w g0 s t f l p g1 x g2 y W) : W.cell? ⟨g1, 5, none⟩ = some (.int .i64 x.st) := h.e.c5
theorem KYP.c6 (h : KYP w g0 s t f l p g1 x g2 y W) : W.cell? ⟨g1, 6, none⟩ = some (.int .u64 x.hd) := h.e.c6
theorem KYP.c7 (h : KYP w g0 s t f l p g1 x g2 y W) : W.cell? ⟨g1, 7, none⟩ = some (.int .u64 x.lk) := h.e.c7
theorem KYP.c8 (h : KYP w g0 s t f l p g1 x g2 y W) : W.cell? ⟨g1, 8, none⟩ = some (.int .i64 x.sl) := h.e.c8
theorem KYP.c9 (h : KYP w g0 s t f l p g1 x g2 y W) : W.cell? ⟨g1, 9, none⟩ = some (.int .i64 x.tr) := h.e.c9
end
end Go.Proofs.YtfejkcbdbkpnfaaDoor
