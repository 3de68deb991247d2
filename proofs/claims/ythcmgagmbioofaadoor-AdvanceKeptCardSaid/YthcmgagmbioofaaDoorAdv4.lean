/- advance.Advance: Took as a function; law 18's awake; the classes of AdvanceValues. -/
import Derived.Test.YthcmgagmbioofaaDoorAdv3
import Derived.Test.YthcmgagmbioofaaDoorBits2
namespace Go.Proofs.YthcmgagmbioofaaDoor
set_option linter.unusedVariables false
open Go.RowKit Go.Extern.Stop Go.Stop Go.Extern
def Ad.took (x : Ad) (n : Nat) : Ad :=
  if x.st = 1 then Ad.turn ⟨x.s, x.t, x.f, x.l, x.p, x.th, x.st, x.oc, (n : Int), x.ot, x.wd, x.ev, 0⟩ 0
  else if x.st = 2 then (if awBlocks n x.ep.toNat = true then ⟨x.s, x.t, x.f, x.l, x.p, x.th, 3, x.oc, x.ep, x.ot, (n : Int), x.ev, 0⟩ else Ad.turn ⟨x.s, x.t, x.f, x.l, x.p, x.th, x.st, x.oc, x.ep, x.ot, x.wd, x.ev, 0⟩ (x.ot + 1))
  else if x.st = 3 then (if awStalled x.wd.toNat n x.p = true then ⟨x.s, x.t, x.f, x.l, x.p, x.th, 4, x.oc, x.ep, x.ot, x.wd, x.ev, 0⟩ else ⟨x.s, x.t, x.f, x.l, x.p, x.th, 0, 1, x.ep, x.ot, x.wd, x.ev, 0⟩)
  else if x.st = 4 then (if n = 1 then Ad.turn ⟨x.s, x.t, x.f, x.l, x.p, x.th, x.st, x.oc, x.ep, x.ot, x.wd, ((x.ev.toNat ||| 2 ^ x.ot.toNat : Nat) : Int), ((2 ^ x.ot.toNat : Nat) : Int)⟩ (x.ot + 1) else ⟨x.s, x.t, x.f, x.l, x.p, x.th, 2, x.oc, x.ep, x.ot, x.wd, x.ev, 0⟩)
  else if x.st = 5 then (if n = 1 then ⟨x.s, x.t, x.f, x.l, x.p, x.th, 0, 3, x.ep, x.ot, x.wd, x.ev, 0⟩ else ⟨x.s, x.t, x.f, x.l, x.p, x.th, 0, 2, x.ep, x.ot, x.wd, x.ev, 0⟩)
  else ⟨x.s, x.t, x.f, x.l, x.p, x.th, 0, x.oc, x.ep, x.ot, x.wd, x.ev, 0⟩
structure AOK (x : Ad) : Prop where
  st : 0 ≤ x.st ∧ x.st ≤ 5
  t : x.t ≤ 64
  p : x.p ≤ 9223372036854775807
  ot : ∃ n : Nat, x.ot = n ∧ n < 64
  ep : ∃ n : Nat, x.ep = n ∧ n < 18446744073709551616
  wd : ∃ n : Nat, x.wd = n ∧ n < 18446744073709551616
  ev : ∃ n : Nat, x.ev = n ∧ n < 18446744073709551616
theorem pow64 {k : Nat} (h : k < 64) : (2 : Nat) ^ k < 18446744073709551616 := by
  have : (2 : Nat) ^ k < 2 ^ 64 := Nat.pow_lt_pow_right (by omega) h
  omega
theorem or64 {a b : Nat} (h : a < 18446744073709551616) (h2 : b < 18446744073709551616) : a ||| b < 18446744073709551616 := by
  have := @Nat.or_lt_two_pow a b 64 (by omega) (by omega)
  omega
theorem AOK.turn {x : Ad} (h : AOK x) (n : Int) (h0 : 0 ≤ n) : AOK (x.turn n) := by
  obtain ⟨h1, h2, h3, h4, h5, h6, h7⟩ := h
  unfold Ad.turn
  by_cases hq : x.t ≤ (if n = x.th then n + 1 else n)
  · rw [if_pos hq]
    exact ⟨⟨by simp, by simp⟩, h2, h3, ⟨0, rfl, by omega⟩, h5, h6, h7⟩
  · rw [if_neg hq]
    have hm : 0 ≤ (if n = x.th then n + 1 else n) := by split <;> omega
    exact ⟨⟨by simp, by simp⟩, h2, h3, ⟨(if n = x.th then n + 1 else n).toNat, by simp only []; omega, by omega⟩, h5, h6, h7⟩
theorem AOK.took {x : Ad} (h : AOK x) (n : Nat) (hn : n < 18446744073709551616) : AOK (x.took n) := by
  have h0 := h
  obtain ⟨h1, h2, h3, ⟨o, ho, ho2⟩, h5, h6, ⟨v, hv, hv2⟩⟩ := h
  unfold Ad.took
  split
  · refine AOK.turn ?_ 0 (by omega)
    exact ⟨h1, h2, h3, h0.ot, ⟨n, rfl, hn⟩, h6, h0.ev⟩
  split
  · split
    · exact ⟨⟨by simp, by simp⟩, h2, h3, h0.ot, h5, ⟨n, rfl, hn⟩, h0.ev⟩
    · refine AOK.turn ?_ (x.ot + 1) (by omega)
      exact ⟨h1, h2, h3, h0.ot, h5, h6, h0.ev⟩
  split
  · split
    · exact ⟨⟨by simp, by simp⟩, h2, h3, h0.ot, h5, h6, h0.ev⟩
    · exact ⟨⟨by simp, by simp⟩, h2, h3, h0.ot, h5, h6, h0.ev⟩
  split
  · split
    · refine AOK.turn ?_ (x.ot + 1) (by omega)
      refine ⟨h1, h2, h3, h0.ot, h5, h6, ⟨_, rfl, or64 ?_ (pow64 ?_)⟩⟩
      · rw [hv]; simpa using hv2
      · rw [ho]; simpa using ho2
    · exact ⟨⟨by simp, by simp⟩, h2, h3, h0.ot, h5, h6, h0.ev⟩
  split
  · split
    · exact ⟨⟨by simp, by simp⟩, h2, h3, h0.ot, h5, h6, h0.ev⟩
    · exact ⟨⟨by simp, by simp⟩, h2, h3, h0.ot, h5, h6, h0.ev⟩
  · exact ⟨⟨by simp, by simp⟩, h2, h3, h0.ot, h5, h6, h0.ev⟩
theorem atook_any (x : Ad) (h : AOK x) (n : Nat) (hn : n < 18446744073709551616) (W : World) :
    Calls Tryd.prog 17 #[adV x, .int .u64 (n : Nat)] W fun e w' => e = .returned (adV (x.took n)) ∧ Below W.heap.size W w' := by
  obtain ⟨s, t, f, l, p, th, st, oc, ep, ot, wd, ev, ju⟩ := x
  obtain ⟨⟨h1, h2⟩, h3, h4, ⟨ot', ho, ho2⟩, ⟨ep', he, he2⟩, ⟨wd', hw, hw2⟩, ⟨ev', hv, hv2⟩⟩ := h
  simp only at h1 h2 h3 h4 ho he hw hv
  subst ho he hw hv
  unfold Ad.took
  simp only [Int.toNat_natCast]
  by_cases a1 : st = 1
  · subst a1; rw [if_pos rfl]; exact atook_1 s t f l p th oc _ _ _ _ ju n _ (fun W => turn_any _ 0 (by omega) (by omega) W) W
  rw [if_neg a1]
  by_cases a2 : st = 2
  · subst a2; rw [if_pos rfl]
    cases hb : awBlocks n ep' with
    | true => rw [if_pos rfl]; exact atook_2 s t f l p th oc _ _ _ _ ju n _ (fun W => ann_kept s t f l p th 2 oc _ _ _ 0 ep' n he2 hn hb W) W
    | false => rw [if_neg (by simp)]; exact atook_2 s t f l p th oc _ _ _ _ ju n _ (fun W => ann_free s t f l p th 2 oc _ _ _ 0 ep' n he2 hn hb (by omega) (by omega) W) W
  rw [if_neg a2]
  by_cases a3 : st = 3
  · subst a3; rw [if_pos rfl]
    cases hb : awStalled wd' n p with
    | true => rw [if_pos rfl]; exact atook_3 s t f l p th oc _ _ _ _ ju n _ (fun W => clk_yes s t f l p th 3 oc _ _ _ 0 wd' n hw2 hn h4 hb W) W
    | false => rw [if_neg (by simp)]; exact atook_3 s t f l p th oc _ _ _ _ ju n _ (fun W => clk_no s t f l p th 3 oc _ _ _ 0 wd' n hw2 hn h4 hb W) W
  rw [if_neg a3]
  by_cases a4 : st = 4
  · subst a4; rw [if_pos rfl]
    by_cases hb : n = 1
    · subst hb; rw [if_pos rfl]; exact atook_4 s t f l p th oc _ _ _ _ ju 1 _ (fun W => evi_hit s t f l p th 4 oc _ _ 0 ot' ev' ho2 hv2 W) W
    · rw [if_neg hb]; exact atook_4 s t f l p th oc _ _ _ _ ju n _ (fun W => evi_miss s t f l p th 4 oc _ _ _ _ 0 n hn hb W) W
  rw [if_neg a4]
  by_cases a5 : st = 5
  · subst a5; rw [if_pos rfl]
    by_cases hb : n = 1
    · subst hb; rw [if_pos rfl]; exact atook_5y s t f l p th oc _ _ _ _ ju W
    · rw [if_neg hb]; exact atook_5n s t f l p th oc _ _ _ _ ju n (by omega) W
  rw [if_neg a5]
  obtain rfl : st = 0 := by omega
  exact atook_0 s t f l p th oc _ _ _ _ ju n W
theorem own_sln {w : World} {B n sz : Nat} {e : TypeId} {v : Value} {xs : List Value} (h : w.ownsRow B e sz v n xs) : ∃ A c, v = .slice A n c := by
  rcases h.2 with ⟨rfl, h0⟩ | ⟨g, cap, cur, rfl, _⟩
  · exact ⟨_, _, by rw [h0]⟩
  · exact ⟨_, _, rfl⟩
theorem awake18_any (W : World) (hG : GL W) :
    Calls Tryd.prog 6 #[] W fun e w' => e = .returned (.bool true) ∧ Below W.heap.size W w' := by
  have ok : okC 1 2 4 1 3 := by decide
  have N := Lib.hid (new_yes 1 2 4 1 3 W hG ok)
  have E := Lib.hid (anew_yes 1 2 4 1 3 0 (.inl ok) (by omega) (by omega))
  have T1 : RowKit.Hid (∀ W, Calls Tryd.prog 17 #[adV ⟨1, 2, 4, 1, 3, 0, 1, 0, 0, 0, 0, 0, 0⟩, .int .u64 5] W fun e w' => e = .returned (adV ⟨1, 2, 4, 1, 3, 0, 2, 0, 5, 1, 0, 0, 0⟩) ∧ Below W.heap.size W w') := Lib.hid (fun W => atook_any ⟨1, 2, 4, 1, 3, 0, 1, 0, 0, 0, 0, 0, 0⟩ ⟨by simp, by simp, by simp, ⟨0, rfl, by omega⟩, ⟨0, rfl, by omega⟩, ⟨0, rfl, by omega⟩, ⟨0, rfl, by omega⟩⟩ 5 (by omega) W)
  have T2 : RowKit.Hid (∀ W, Calls Tryd.prog 17 #[adV ⟨1, 2, 4, 1, 3, 0, 2, 0, 5, 1, 0, 0, 0⟩, .int .u64 17] W fun e w' => e = .returned (adV ⟨1, 2, 4, 1, 3, 0, 3, 0, 5, 1, 17, 0, 0⟩) ∧ Below W.heap.size W w') := Lib.hid (fun W => atook_any ⟨1, 2, 4, 1, 3, 0, 2, 0, 5, 1, 0, 0, 0⟩ ⟨by simp, by simp, by simp, ⟨1, rfl, by omega⟩, ⟨5, rfl, by omega⟩, ⟨0, rfl, by omega⟩, ⟨0, rfl, by omega⟩⟩ 17 (by omega) W)
  have T3 : RowKit.Hid (∀ W, Calls Tryd.prog 17 #[adV ⟨1, 2, 4, 1, 3, 0, 3, 0, 5, 1, 17, 0, 0⟩, .int .u64 3] W fun e w' => e = .returned (adV ⟨1, 2, 4, 1, 3, 0, 4, 0, 5, 1, 17, 0, 0⟩) ∧ Below W.heap.size W w') := Lib.hid (fun W => atook_any ⟨1, 2, 4, 1, 3, 0, 3, 0, 5, 1, 17, 0, 0⟩ ⟨by simp, by simp, by simp, ⟨1, rfl, by omega⟩, ⟨5, rfl, by omega⟩, ⟨17, rfl, by omega⟩, ⟨0, rfl, by omega⟩⟩ 3 (by omega) W)
  have T4 : RowKit.Hid (∀ W, Calls Tryd.prog 17 #[adV ⟨1, 2, 4, 1, 3, 0, 4, 0, 5, 1, 17, 0, 0⟩, .int .u64 1] W fun e w' => e = .returned (adV ⟨1, 2, 4, 1, 3, 0, 5, 0, 5, 0, 17, 2, 2⟩) ∧ Below W.heap.size W w') := Lib.hid (fun W => atook_any ⟨1, 2, 4, 1, 3, 0, 4, 0, 5, 1, 17, 0, 0⟩ ⟨by simp, by simp, by simp, ⟨1, rfl, by omega⟩, ⟨5, rfl, by omega⟩, ⟨17, rfl, by omega⟩, ⟨0, rfl, by omega⟩⟩ 1 (by omega) W)
  have Q : RowKit.Hid (∀ W, Calls Tryd.prog 11 #[adV ⟨1, 2, 4, 1, 3, 0, 4, 0, 5, 1, 17, 0, 0⟩] W fun e w' => e = .returned (askV 3 4 17 18) ∧ Below W.heap.size W w') := Lib.hid (fun W => awant_4 1 2 4 1 3 0 0 5 1 0 0 17 (by omega) (.inl ok) W)
  have J : RowKit.Hid (∀ W, Calls Tryd.prog 14 #[adV ⟨1, 2, 4, 1, 3, 0, 5, 0, 5, 0, 17, 2, 2⟩] W fun e w' => e = .returned (.int .i64 1) ∧ Below W.heap.size W w') := Lib.hid (fun W => just_of 1 2 4 1 3 0 5 0 5 0 17 2 2 1 (by omega) (.inr ⟨1, by omega, rfl, rfl⟩) W)
  have V : RowKit.Hid (∀ W, Calls Tryd.prog 16 #[adV ⟨1, 2, 4, 1, 3, 0, 5, 0, 5, 0, 17, 2, 2⟩] W fun e w' => ∃ A c, e = .returned (.slice A 1 c) ∧ Below W.heap.size W w') := Lib.hid (fun W => (evicted_any 1 2 4 1 3 0 5 0 5 0 17 2 2 (by omega) W).mono fun e w' ⟨v, h1, h2, h3⟩ => by
    have hb : bitsTo 2 64 = [1] := bitsTo_pow 1 (by omega)
    rw [hb] at h2
    obtain ⟨A, c, rfl⟩ := own_sln h2
    exact ⟨A, c, h1, h3⟩)
  clear ok hG
  go_enter Tryd.func6, Tryd.ntmps6
  have k1 : True := trivial
  have k2 : True := trivial
  have k3 : True := trivial
  have k4 : True := trivial
  have k5 : True := trivial
  go_wp2_with (first
    | (go_at_call 8; refine N.out.mono ?_; rintro e w1 ⟨rfl, h1⟩)
    | (go_at_call 7; refine (E.out _).mono ?_; rintro e w2 ⟨rfl, hn⟩; have h2 := h1.trans (hn.mono h1.size); clear hn h1)
    | (go_at_call 17; have _k := k1; refine (T1.out _).mono ?_; rintro e w3 ⟨rfl, hn⟩; clear k1; have h3 := h2.trans (hn.mono h2.size); clear hn h2)
    | (go_at_call 17; have _k := k2; refine (T2.out _).mono ?_; rintro e w4 ⟨rfl, hn⟩; clear k2; have h4 := h3.trans (hn.mono h3.size); clear hn h3)
    | (go_at_call 17; have _k := k3; refine (T3.out _).mono ?_; rintro e w5 ⟨rfl, hn⟩; clear k3; have h5 := h4.trans (hn.mono h4.size); clear hn h4)
    | (go_at_call 11; refine (Q.out _).mono ?_; rintro e w6 ⟨rfl, hn⟩; have e6 := (AC.alloc w5 ⟨1, 2, 4, 1, 3, 0, 4, 0, 5, 1, 17, 0, 0⟩).next hn; have h5b := h5.alloc h5.size (adRow ⟨1, 2, 4, 1, 3, 0, 4, 0, 5, 1, 17, 0, 0⟩); have h6 := h5b.trans (hn.mono h5b.size); clear hn h5 h5b; have c0 := e6.c0; have c1 := e6.c1; have c2 := e6.c2; have c3 := e6.c3; have c4 := e6.c4; have c5 := e6.c5; have c6 := e6.c6; have c7 := e6.c7; have c8 := e6.c8; have c9 := e6.c9; have c10 := e6.c10; have c11 := e6.c11; have c12 := e6.c12)
    | (go_at_call 17; have _k := k4; refine (T4.out _).mono ?_; rintro e w7 ⟨rfl, hn⟩; clear k4; have h7 := h6.trans (hn.mono h6.size); have e7 := e6.next hn; clear hn h6 e6)
    | (go_at_call 14; refine (J.out _).mono ?_; rintro e w8 ⟨rfl, hn⟩; have h8 := h7.trans (hn.mono h7.size); have e8 := e7.next hn; clear hn h7 e7 c0 c1 c2 c3 c4 c5 c6 c7 c8 c9 c10 c11 c12; have c0 := e8.c0; have c1 := e8.c1; have c2 := e8.c2; have c3 := e8.c3; have c4 := e8.c4; have c5 := e8.c5; have c6 := e8.c6; have c7 := e8.c7; have c8 := e8.c8; have c9 := e8.c9; have c10 := e8.c10; have c11 := e8.c11; have c12 := e8.c12)
    | (go_at_call 17; have _k := k5; refine (T4.out _).mono ?_; rintro e w9 ⟨rfl, hn⟩; clear k5; have h9 := h8.trans (hn.mono h8.size); clear hn h8 e8)
    | (go_at_call 16; refine (V.out _).mono ?_; rintro e w10 ⟨A, c, rfl, hn⟩; have h10 := h9.trans (hn.mono h9.size); clear hn h9))
  go_ret
  exact ⟨rfl, h10⟩
/-- Two Advances, each in a block of its own. -/
structure KV (w : World) (g1 : Nat) (x : Ad) (g2 : Nat) (y : Ad) (W : World) : Prop where
  e : AC g1 x W
  f : AC g2 y W
  bl : Below w.heap.size w W
  l1 : w.heap.size ≤ g1
  l2 : w.heap.size ≤ g2
  ne : g1 ≠ g2
theorem KV.next {w : World} {g1 : Nat} {x : Ad} {g2 : Nat} {y : Ad} {W W' : World} (h : KV w g1 x g2 y W) (hn : Below W.heap.size W W') : KV w g1 x g2 y W' := ⟨h.e.next hn, h.f.next hn, h.bl.trans (hn.mono h.bl.size), h.l1, h.l2, h.ne⟩
theorem KV.drew {w : World} {g1 : Nat} {x : Ad} {g2 : Nat} {y : Ad} {W : World} (h : KV w g1 x g2 y W) : KV w g1 x g2 y W.drew := ⟨h.e.drew, h.f.drew, h.bl.drew, h.l1, h.l2, h.ne⟩
theorem KV.store1 {w : World} {g1 : Nat} {x : Ad} {g2 : Nat} {y : Ad} {W : World} (h : KV w g1 x g2 y W) (z : Ad) : KV w g1 z g2 y (putA W g1 z) := ⟨h.e.store z, h.f.keep h.ne z, belowA h.bl h.l1 z, h.l1, h.l2, h.ne⟩
theorem KV.store2 {w : World} {g1 : Nat} {x : Ad} {g2 : Nat} {y : Ad} {W : World} (h : KV w g1 x g2 y W) (z : Ad) : KV w g1 x g2 z (putA W g2 z) := ⟨h.e.keep (fun e => h.ne e.symm) z, h.f.store z, belowA h.bl h.l2 z, h.l1, h.l2, h.ne⟩
theorem KV.start {w W : World} (h : Below w.heap.size w W) (x : Ad) : KV w W.heap.size x (W.heap.size + 1) x ((W.alloc (adRow x)).alloc (adRow x)) := by
  have hs := h.size
  have e1 := (AC.alloc W x).next ((Below.refl (W.alloc (adRow x)).heap.size (W.alloc (adRow x))).alloc (Nat.le_refl _) (adRow x))
  have e2 := AC.alloc (W.alloc (adRow x)) x
  rw [show (W.alloc (adRow x)).heap.size = W.heap.size + 1 by simp] at e2
  exact ⟨e1, e2, (h.alloc hs _).alloc (by simp; omega) _, hs, by omega, by omega⟩
structure KVX (w : World) (g1 : Nat) (x : Ad) (g2 : Nat) (y : Ad) (a : Addr) (v : Value) (W : World) : Prop extends KV w g1 x g2 y W where
  xc : W.cell? a = some v
  xb : a.block < w.heap.size
theorem KVX.next {w : World} {g1 : Nat} {x : Ad} {g2 : Nat} {y : Ad} {a : Addr} {v : Value} {W W' : World} (h : KVX w g1 x g2 y a v W) (hn : Below W.heap.size W W') : KVX w g1 x g2 y a v W' :=
  ⟨h.toKV.next hn, (hn.cell (Nat.lt_of_lt_of_le h.xb h.bl.size)).trans h.xc, h.xb⟩
theorem KVX.mk' {w : World} {g1 : Nat} {x : Ad} {g2 : Nat} {y : Ad} {a : Addr} {v : Value} {W : World} (h : KV w g1 x g2 y W) (hb : a.block < w.heap.size) (hx : w.cell? a = some v) : KVX w g1 x g2 y a v W.drew :=
  ⟨h.drew, (h.bl.drew.cell hb).trans hx, hb⟩
theorem KV.c0 {w : World} {g1 : Nat} {x : Ad} {g2 : Nat} {y : Ad} {W : World} (h : KV w g1 x g2 y W) : W.cell? ⟨g1, 0, none⟩ = some (.int .i64 x.s) := h.e.c0
theorem KV.d0 {w : World} {g1 : Nat} {x : Ad} {g2 : Nat} {y : Ad} {W : World} (h : KV w g1 x g2 y W) : W.cell? ⟨g2, 0, none⟩ = some (.int .i64 y.s) := h.f.c0
theorem KV.c1 {w : World} {g1 : Nat} {x : Ad} {g2 : Nat} {y : Ad} {W : World} (h : KV w g1 x g2 y W) : W.cell? ⟨g1, 1, none⟩ = some (.int .i64 x.t) := h.e.c1
theorem KV.d1 {w : World} {g1 : Nat} {x : Ad} {g2 : Nat} {y : Ad} {W : World} (h : KV w g1 x g2 y W) : W.cell? ⟨g2, 1, none⟩ = some (.int .i64 y.t) := h.f.c1
theorem KV.c2 {w : World} {g1 : Nat} {x : Ad} {g2 : Nat} {y : Ad} {W : World} (h : KV w g1 x g2 y W) : W.cell? ⟨g1, 2, none⟩ = some (.int .i64 x.f) := h.e.c2
theorem KV.d2 {w : World} {g1 : Nat} {x : Ad} {g2 : Nat} {y : Ad} {W : World} (h : KV w g1 x g2 y W) : W.cell? ⟨g2, 2, none⟩ = some (.int .i64 y.f) := h.f.c2
theorem KV.c3 {w : World} {g1 : Nat} {x : Ad} {g2 : Nat} {y : Ad} {W : World} (h : KV w g1 x g2 y W) : W.cell? ⟨g1, 3, none⟩ = some (.int .i64 x.l) := h.e.c3
theorem KV.d3 {w : World} {g1 : Nat} {x : Ad} {g2 : Nat} {y : Ad} {W : World} (h : KV w g1 x g2 y W) : W.cell? ⟨g2, 3, none⟩ = some (.int .i64 y.l) := h.f.c3
theorem KV.c4 {w : World} {g1 : Nat} {x : Ad} {g2 : Nat} {y : Ad} {W : World} (h : KV w g1 x g2 y W) : W.cell? ⟨g1, 4, none⟩ = some (.int .i64 x.p) := h.e.c4
theorem KV.d4 {w : World} {g1 : Nat} {x : Ad} {g2 : Nat} {y : Ad} {W : World} (h : KV w g1 x g2 y W) : W.cell? ⟨g2, 4, none⟩ = some (.int .i64 y.p) := h.f.c4
theorem KV.c5 {w : World} {g1 : Nat} {x : Ad} {g2 : Nat} {y : Ad} {W : World} (h : KV w g1 x g2 y W) : W.cell? ⟨g1, 5, none⟩ = some (.int .i64 x.th) := h.e.c5
theorem KV.d5 {w : World} {g1 : Nat} {x : Ad} {g2 : Nat} {y : Ad} {W : World} (h : KV w g1 x g2 y W) : W.cell? ⟨g2, 5, none⟩ = some (.int .i64 y.th) := h.f.c5
theorem KV.c6 {w : World} {g1 : Nat} {x : Ad} {g2 : Nat} {y : Ad} {W : World} (h : KV w g1 x g2 y W) : W.cell? ⟨g1, 6, none⟩ = some (.int .i64 x.st) := h.e.c6
theorem KV.d6 {w : World} {g1 : Nat} {x : Ad} {g2 : Nat} {y : Ad} {W : World} (h : KV w g1 x g2 y W) : W.cell? ⟨g2, 6, none⟩ = some (.int .i64 y.st) := h.f.c6
theorem KV.c7 {w : World} {g1 : Nat} {x : Ad} {g2 : Nat} {y : Ad} {W : World} (h : KV w g1 x g2 y W) : W.cell? ⟨g1, 7, none⟩ = some (.int .i64 x.oc) := h.e.c7
theorem KV.d7 {w : World} {g1 : Nat} {x : Ad} {g2 : Nat} {y : Ad} {W : World} (h : KV w g1 x g2 y W) : W.cell? ⟨g2, 7, none⟩ = some (.int .i64 y.oc) := h.f.c7
theorem KV.c8 {w : World} {g1 : Nat} {x : Ad} {g2 : Nat} {y : Ad} {W : World} (h : KV w g1 x g2 y W) : W.cell? ⟨g1, 8, none⟩ = some (.int .u64 x.ep) := h.e.c8
theorem KV.d8 {w : World} {g1 : Nat} {x : Ad} {g2 : Nat} {y : Ad} {W : World} (h : KV w g1 x g2 y W) : W.cell? ⟨g2, 8, none⟩ = some (.int .u64 y.ep) := h.f.c8
theorem KV.c9 {w : World} {g1 : Nat} {x : Ad} {g2 : Nat} {y : Ad} {W : World} (h : KV w g1 x g2 y W) : W.cell? ⟨g1, 9, none⟩ = some (.int .i64 x.ot) := h.e.c9
theorem KV.d9 {w : World} {g1 : Nat} {x : Ad} {g2 : Nat} {y : Ad} {W : World} (h : KV w g1 x g2 y W) : W.cell? ⟨g2, 9, none⟩ = some (.int .i64 y.ot) := h.f.c9
theorem KV.c10 {w : World} {g1 : Nat} {x : Ad} {g2 : Nat} {y : Ad} {W : World} (h : KV w g1 x g2 y W) : W.cell? ⟨g1, 10, none⟩ = some (.int .u64 x.wd) := h.e.c10
theorem KV.d10 {w : World} {g1 : Nat} {x : Ad} {g2 : Nat} {y : Ad} {W : World} (h : KV w g1 x g2 y W) : W.cell? ⟨g2, 10, none⟩ = some (.int .u64 y.wd) := h.f.c10
theorem KV.c11 {w : World} {g1 : Nat} {x : Ad} {g2 : Nat} {y : Ad} {W : World} (h : KV w g1 x g2 y W) : W.cell? ⟨g1, 11, none⟩ = some (.int .u64 x.ev) := h.e.c11
theorem KV.d11 {w : World} {g1 : Nat} {x : Ad} {g2 : Nat} {y : Ad} {W : World} (h : KV w g1 x g2 y W) : W.cell? ⟨g2, 11, none⟩ = some (.int .u64 y.ev) := h.f.c11
theorem KV.c12 {w : World} {g1 : Nat} {x : Ad} {g2 : Nat} {y : Ad} {W : World} (h : KV w g1 x g2 y W) : W.cell? ⟨g1, 12, none⟩ = some (.int .u64 x.ju) := h.e.c12
theorem KV.d12 {w : World} {g1 : Nat} {x : Ad} {g2 : Nat} {y : Ad} {W : World} (h : KV w g1 x g2 y W) : W.cell? ⟨g2, 12, none⟩ = some (.int .u64 y.ju) := h.f.c12
def Ad.run (zs : List Int) (x : Ad) : Nat → Ad
  | 0 => x
  | j + 1 => (Ad.run zs x j).took (zs.getD j 0).toNat
theorem AOK.run {x : Ad} (h : AOK x) (zs : List Int) (n : Nat) (hz : ∀ j, j < n → ∃ m : Nat, zs.getD j 0 = m ∧ m < 18446744073709551616) : ∀ j, j ≤ n → AOK (Ad.run zs x j)
  | 0, _ => h
  | j + 1, hj => by
    obtain ⟨m, h1, h2⟩ := hz j (by omega)
    have ih := AOK.run h zs n hz j (by omega)
    show AOK ((Ad.run zs x j).took (zs.getD j 0).toNat)
    rw [h1]
    exact ih.took _ (by simpa using h2)
/-- Whatever the configuration and the thread: an Advance. -/
theorem anew_ex (s t f l p th : Int) (h : okL s t f l p) : ∃ x : Ad, AOK x ∧ ∀ W, Calls Tryd.prog 7 #[layV s t f l p, .int .i64 th] W fun e w' => e = .returned (adV x) ∧ Below W.heap.size W w' := by
  have hp : p ≤ 9223372036854775807 ∧ t ≤ 64 := by
    rcases h with h | h
    · unfold okC at h; omega
    · omega
  by_cases ht : 0 ≤ th ∧ th < t
  · exact ⟨_, ⟨by simp, hp.2, hp.1, ⟨0, rfl, by omega⟩, ⟨0, rfl, by omega⟩, ⟨0, rfl, by omega⟩, ⟨0, rfl, by omega⟩⟩, fun W => anew_yes s t f l p th h ht.1 ht.2 W⟩
  · exact ⟨_, ⟨by simp, by simp, by simp, ⟨0, rfl, by omega⟩, ⟨0, rfl, by omega⟩, ⟨0, rfl, by omega⟩, ⟨0, rfl, by omega⟩⟩, fun W => anew_no s t f l p th h (by omega) W⟩
structure KZ (w : World) (g1 : Nat) (z : Ad) (g2 g3 : Nat) (W : World) : Prop extends KV w g1 z g2 z W where
  n : AC g3 Ad.none W
theorem KZ.next {w : World} {g1 : Nat} {z : Ad} {g2 g3 : Nat} {W W' : World} (h : KZ w g1 z g2 g3 W) (hn : Below W.heap.size W W') : KZ w g1 z g2 g3 W' := ⟨h.toKV.next hn, h.n.next hn⟩
theorem KZ.start {w : World} {g1 : Nat} {z : Ad} {g2 : Nat} {W : World} (h : KV w g1 z g2 z W) : KZ w g1 z g2 W.heap.size (W.alloc (adRow Ad.none)) :=
  ⟨h.next (below1 W (adRow Ad.none)), AC.alloc W Ad.none⟩
end Go.Proofs.YthcmgagmbioofaaDoor
