/- gleaninglaw12.small, leaf.follow, leaf.Merge. -/
import Derived.Test.YtahpdifneajblaaLeaf6
namespace Go.Proofs.Ytahpdifneajblaa
set_option linter.unusedVariables false
open Go.RowKit
theorem small_any (x : Nd) (W : World) (hc1 : x.ks.length ≤ maxLen) (hc2 : x.vs.length ≤ maxLen) :
    Calls Try.prog 8 #[ndV x] W fun e w' => e = .returned (.bool (decide (x.ks.length ≤ 80 ∧ x.vs.length ≤ 80))) ∧ Below W.heap.size W w' := by
  have HB := Lib.hid (nl1 W (ndRow x))
  by_cases h1 : x.ks.length ≤ 80
  · have k1 : (x.ks.length : Int) ≤ 80 := by omega
    by_cases h2 : x.vs.length ≤ 80
    · have k2 : (x.vs.length : Int) ≤ 80 := by omega
      have e : decide (x.ks.length ≤ 80 ∧ x.vs.length ≤ 80) = true := by simp [h1, h2]
      rw [e]
      clear e h1 h2
      go_enter Try.func8, Try.ntmps8
      go_wp2
      go_ret
      exact ⟨rfl, HB.out⟩
    · have k2 : ¬ (x.vs.length : Int) ≤ 80 := by omega
      have k3 : (80 : Int) < (x.vs.length : Int) := by omega
      have e : decide (x.ks.length ≤ 80 ∧ x.vs.length ≤ 80) = false := by simp; omega
      rw [e]
      clear e h1 h2
      go_enter Try.func8, Try.ntmps8
      go_wp2
      go_ret
      exact ⟨rfl, HB.out⟩
  · have k1 : ¬ (x.ks.length : Int) ≤ 80 := by omega
    have k3 : (80 : Int) < (x.ks.length : Int) := by omega
    have e : decide (x.ks.length ≤ 80 ∧ x.vs.length ≤ 80) = false := by simp; omega
    rw [e]
    clear e h1
    go_enter Try.func8, Try.ntmps8
    go_wp2
    go_ret
    exact ⟨rfl, HB.out⟩
abbrev nd2Row (x y : Nd) : Obj := .cells #[.bool x.inner, .slice x.A1 x.ks.length x.c1, .slice x.A2 x.vs.length x.c2, .int .u64 (x.link : Nat), .bool y.inner, .slice y.A1 y.ks.length y.c1, .slice y.A2 y.vs.length y.c2, .int .u64 (y.link : Nat)] 25
theorem NB.two (W : World) (x y : Nd) (hx : NR W x) (hy : NR W y) : NB (W.alloc (nd2Row x y)) W.heap.size [x, y] := by
  intro j hj
  match j, hj with
  | 0, _ => exact ⟨by simp, by simp, by simp, by simp, hx.next (nl1 _ _)⟩
  | 1, _ => exact ⟨by simp, by simp, by simp, by simp, hy.next (nl1 _ _)⟩
theorem glued_two (link : Nat) (x y : Nd) (c : Nat) (l1 : x.ks.length ≤ 1000) (l2 : x.vs.length ≤ 1000) (l3 : y.ks.length ≤ 1000) (l4 : y.vs.length ≤ 1000) (W : World) (hx : NR W x) (hy : NR W y) :
    Calls Try.prog 27 #[.int .u64 (link : Nat), .slice (some ⟨W.heap.size, 0, none⟩) 2 c] (W.alloc (nd2Row x y)) fun e w' => ∃ z : Nd, e = .returned (ndV z) ∧ z.inner = false ∧ z.link = link ∧ z.ks = x.ks ++ y.ks ∧ z.vs = x.vs ++ y.vs ∧ ON W.heap.size z w' ∧ Below W.heap.size W w' := by
  have := glued_any link [x, y] W.heap.size c (by simp) (by simp; omega) (by simp; omega) _ (NB.two W x y hx hy)
  refine this.mono ?_
  rintro e w' ⟨z, he, h1, h2, h3, h4, h5, h6⟩
  exact ⟨z, he, h1, h2, by simpa using h3, by simpa using h4, h5.le (by simp), (nl1 W _).trans (h6.mono (by simp))⟩
theorem glued_two0 (x y : Nd) (c : Nat) (l1 : x.ks.length ≤ 1000) (l2 : x.vs.length ≤ 1000) (l3 : y.ks.length ≤ 1000) (l4 : y.vs.length ≤ 1000) (W : World) (hx : NR W x) (hy : NR W y) :
    Calls Try.prog 27 #[.int .u64 0, .slice (some ⟨W.heap.size, 0, none⟩) 2 c] (W.alloc (nd2Row x y)) fun e w' => ∃ z : Nd, e = .returned (ndV z) ∧ z.inner = false ∧ z.link = 0 ∧ z.ks = x.ks ++ y.ks ∧ z.vs = x.vs ++ y.vs ∧ ON W.heap.size z w' ∧ Below W.heap.size W w' := glued_two 0 x y c l1 l2 l3 l4 W hx hy
/-- Two nodes' boxes. -/
structure F2 (w0 : World) (a b : Nd) (W : World) : Prop where
  na : NC w0.heap.size a W
  nb : NC (w0.heap.size + 1) b W
  ra : NR W a
  rb : NR W b
  bl : Below w0.heap.size w0 W
theorem F2.next {w0 : World} {a b : Nd} {W W' : World} (h : F2 w0 a b W) (hn : Below W.heap.size W W') : F2 w0 a b W' := ⟨h.na.next hn, h.nb.next hn, h.ra.next hn, h.rb.next hn, h.bl.trans (hn.mono h.bl.size)⟩
theorem F2.start (w : World) (a b : Nd) (ha : NR w a) (hb : NR w b) : F2 w a b ((w.alloc (ndRow a)).alloc (ndRow b)) :=
  ⟨(NC.alloc w a).next (nl1 _ _), by have := NC.alloc (w.alloc (ndRow a)) b; simpa only [World.size_alloc] using this, (ha.next (nl1 _ _)).next (nl1 _ _), (hb.next (nl1 _ _)).next (nl1 _ _), nl2 _ _ _⟩
def folP (a b : Nd) : Prop := rightP a ∧ rightP b ∧ ris (a.ks ++ b.ks)
theorem rightB (x : Nd) : ∃ r : Bool, r = true ↔ rightP x := by
  by_cases h : rightP x
  · exact ⟨true, by simp [h]⟩
  · exact ⟨false, by simp [h]⟩
set_option maxHeartbeats 1000000 in
theorem follow_any (a b : Nd) (l1 : a.ks.length ≤ 1000) (l2 : a.vs.length ≤ 1000) (l3 : b.ks.length ≤ 1000) (l4 : b.vs.length ≤ 1000) (r : Bool) (hr : r = true ↔ folP a b) (W : World) (ha : NR W a) (hb : NR W b) :
    Calls Try.prog 31 #[ndV a, ndV b] W fun e w' => e = .returned (.bool r) ∧ Below W.heap.size W w' := by
  obtain ⟨p, hp⟩ := rightB a
  obtain ⟨q, hq⟩ := rightB b
  have R1 := Lib.hid (fun W' h => right_any a (by omega) p hp W' h)
  have R2 := Lib.hid (fun W' h => right_any b (by omega) q hq W' h)
  have K := Lib.hid (F2.start W a b ha hb)
  have t1 : True := trivial
  have t2 : True := trivial
  have t3 : True := trivial
  cases p with
  | false =>
    obtain rfl : r = false := by
      cases r with
      | false => rfl
      | true => have := hp.2 (hr.1 rfl).1; cases this
    clear hr hp hq ha hb
    go_enter Try.func31, Try.ntmps31
    go_wp2_with (go_at_call 14; refine (R1.out _ K.out.ra).mono ?_; rintro e w1 ⟨rfl, hn⟩; have K1 := Lib.hid (K.out.next hn); clear hn)
    go_ret
    exact ⟨rfl, K1.out.bl⟩
  | true =>
    cases q with
    | false =>
      obtain rfl : r = false := by
        cases r with
        | false => rfl
        | true => have := hq.2 (hr.1 rfl).2.1; cases this
      clear hr hp hq ha hb
      go_enter Try.func31, Try.ntmps31
      go_wp2_with (first
        | (go_at_call 14; have _t := t1; refine (R1.out _ K.out.ra).mono ?_; rintro e w1 ⟨rfl, hn⟩; clear t1; have K1 := Lib.hid (K.out.next hn); clear hn; have c0 := K1.out.nb.c0; have c1 := K1.out.nb.c1; have c2 := K1.out.nb.c2; have c3 := K1.out.nb.c3)
        | (go_at_call 14; have _t := t2; refine (R2.out _ K1.out.rb).mono ?_; rintro e w2 ⟨rfl, hn⟩; clear t2; have K2 := Lib.hid (K1.out.next hn); clear hn c0 c1 c2 c3))
      go_ret
      exact ⟨rfl, K2.out.bl⟩
    | true =>
      have ra := hp.1 rfl
      have rb := hq.1 rfl
      have R3 := Lib.hid (fun (z : Nd) (hz : z.inner = false) (h1 : z.ks = a.ks ++ b.ks) (h2 : z.vs = a.vs ++ b.vs) W' h => right_any z (by rw [h1]; simp; omega) r (by rw [hr]; exact ⟨fun h => ⟨hz, by rw [h1, h2]; simp [ra.2.1, rb.2.1], by rw [h1]; exact h.2.2⟩, fun h => ⟨ra, rb, by rw [← h1]; exact h.2.2⟩⟩) W' h)
      have G2 := Lib.hid (fun W' h h' => glued_two0 a b 2 l1 l2 l3 l4 W' h h')
      clear hr hp hq ha hb ra rb
      go_enter Try.func31, Try.ntmps31
      go_wp2_with (first
        | (go_at_call 14; have _t := t1; refine (R1.out _ K.out.ra).mono ?_; rintro e w1 ⟨rfl, hn⟩; clear t1; have K1 := Lib.hid (K.out.next hn); clear hn; have c0 := K1.out.nb.c0; have c1 := K1.out.nb.c1; have c2 := K1.out.nb.c2; have c3 := K1.out.nb.c3)
        | (go_at_call 14; have _t := t2; refine (R2.out _ K1.out.rb).mono ?_; rintro e w2 ⟨rfl, hn⟩; clear t2; have K2 := Lib.hid (K1.out.next hn); clear hn c0 c1 c2 c3; have c0 := K2.out.nb.c0; have c1 := K2.out.nb.c1; have c2 := K2.out.nb.c2; have c3 := K2.out.nb.c3; have d0 := K2.out.na.c0; have d1 := K2.out.na.c1; have d2 := K2.out.na.c2; have d3 := K2.out.na.c3)
        | (go_at_call 27; refine (G2.out w2 K2.out.ra K2.out.rb).mono ?_; rintro e w3 ⟨z, rfl, e1, e2, e3, e4, hz, hn⟩; have K3 := Lib.hid (K2.out.next hn); have RZ := Lib.hid (R3.out z e1 e3 e4 w3 hz.nr); clear hn e1 e2 e3 e4 hz c0 c1 c2 c3 d0 d1 d2 d3)
        | (go_at_call 14; refine RZ.out.mono ?_; rintro e w4 ⟨rfl, hn⟩; have K4 := Lib.hid (K3.out.next hn); clear hn))
      go_ret
      exact ⟨rfl, K4.out.bl⟩
/-- Two nodes' boxes, a result that waits. -/
structure F3 (w0 : World) (a b : Nd) (W : World) : Prop extends F2 w0 a b W where
  z : NC (w0.heap.size + 1 + 1) Nd.zero W
theorem F3.next {w0 : World} {a b : Nd} {W W' : World} (h : F3 w0 a b W) (hn : Below W.heap.size W W') : F3 w0 a b W' := ⟨h.toF2.next hn, h.z.next hn⟩
theorem F3.start (w : World) (a b : Nd) (ha : NR w a) (hb : NR w b) : F3 w a b (((w.alloc (ndRow a)).alloc (ndRow b)).alloc (ndRow Nd.zero)) :=
  ⟨(F2.start w a b ha hb).next (nl1 _ _), by have := NC.alloc ((w.alloc (ndRow a)).alloc (ndRow b)) Nd.zero; simpa only [World.size_alloc] using this⟩
set_option maxHeartbeats 1000000 in
theorem merge_yes (a b : Nd) (l1 : a.ks.length ≤ 1000) (l2 : a.vs.length ≤ 1000) (l3 : b.ks.length ≤ 1000) (l4 : b.vs.length ≤ 1000) (hr : folP a b) (W : World) (ha : NR W a) (hb : NR W b) :
    Calls Try.prog 21 #[ndV a, ndV b] W fun e w' => ∃ z : Nd, e = .returned (ndV z) ∧ z.inner = false ∧ z.link = b.link ∧ z.ks = a.ks ++ b.ks ∧ z.vs = a.vs ++ b.vs ∧ ON W.heap.size z w' ∧ Below W.heap.size W w' := by
  have FL := Lib.hid (fun W' h h' => follow_any a b l1 l2 l3 l4 true (by simp [hr]) W' h h')
  have G2 := Lib.hid (fun W' h h' => glued_two b.link a b 2 l1 l2 l3 l4 W' h h')
  have K := Lib.hid (F3.start W a b ha hb)
  clear hr ha hb
  go_enter Try.func21, Try.ntmps21
  go_wp2_with (first
    | (go_at_call 31; refine (FL.out _ K.out.ra K.out.rb).mono ?_; rintro e w1 ⟨rfl, hn⟩; have K1 := Lib.hid (K.out.next hn); clear hn; have c0 := K1.out.nb.c0; have c1 := K1.out.nb.c1; have c2 := K1.out.nb.c2; have c3 := K1.out.nb.c3; have d0 := K1.out.na.c0; have d1 := K1.out.na.c1; have d2 := K1.out.na.c2; have d3 := K1.out.na.c3)
    | (go_at_call 27; refine (G2.out w1 K1.out.ra K1.out.rb).mono ?_; rintro e w2 ⟨z, rfl, e1, e2, e3, e4, hz, hn⟩; have K2 := Lib.hid (K1.out.next (hn.mono (Nat.le_refl _))); have sz := K1.out.z.lt; have E := Lib.hid (And.intro e1 (And.intro e2 (And.intro e3 e4))); have HZ := Lib.hid hz; have SZ := Lib.hid sz; clear hn e1 e2 e3 e4 hz sz c0 c1 c2 c3 d0 d1 d2 d3; have z0 := K2.out.z.c0; have z1 := K2.out.z.c1; have z2 := K2.out.z.c2; have z3 := K2.out.z.c3; have fz := K2.out.z.fz))
  exact bodyPost_ret (v := ndV z) (by simp [results, Try.results21, go_sem, z0, z1, z2, z3]) rfl ⟨z, rfl, E.out.1, E.out.2.1, E.out.2.2.1, E.out.2.2.2, (HZ.out.put SZ.out _ _ _ _).le (by have := SZ.out; omega), below_put4 K2.out.bl (by omega) _ _ _ _⟩
set_option maxHeartbeats 1000000 in
theorem merge_no (a b : Nd) (l1 : a.ks.length ≤ 1000) (l2 : a.vs.length ≤ 1000) (l3 : b.ks.length ≤ 1000) (l4 : b.vs.length ≤ 1000) (hr : ¬ folP a b) (W : World) (ha : NR W a) (hb : NR W b) :
    Calls Try.prog 21 #[ndV a, ndV b] W fun e w' => e = .returned (ndV Nd.zero) ∧ Below W.heap.size W w' := by
  have FL := Lib.hid (fun W' h h' => follow_any a b l1 l2 l3 l4 false (by simp [hr]) W' h h')
  have K := Lib.hid (F3.start W a b ha hb)
  clear hr ha hb
  go_enter Try.func21, Try.ntmps21
  go_wp2_with (go_at_call 31; refine (FL.out _ K.out.ra K.out.rb).mono ?_; rintro e w1 ⟨rfl, hn⟩; have K1 := Lib.hid (K.out.next hn); clear hn; have z0 := K1.out.z.c0; have z1 := K1.out.z.c1; have z2 := K1.out.z.c2; have z3 := K1.out.z.c3; have fz := K1.out.z.fz)
  exact bodyPost_ret (v := ndV Nd.zero) (by simp [results, Try.results21, go_sem, z0, z1, z2, z3]) rfl ⟨rfl, below_put4 K1.out.bl (by omega) _ _ _ _⟩
end Go.Proofs.Ytahpdifneajblaa
