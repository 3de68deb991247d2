/- gleaningref12.Drop. -/
import Derived.Test.YtahpdifneajblaaLeaf13
import Derived.Test.YtahpdifneajblaaLm0
namespace Go.Proofs.Ytahpdifneajblaa
set_option linter.unusedVariables false
open Go.RowKit
structure RD (w0 : World) (x : Nd) (W : World) : Prop where
  n : NC w0.heap.size x W
  r0 : NR w0 x
  g1 : PT (w0.heap.size + 1) W
  bl : Below w0.heap.size w0 W
section
variable {w0 : World} {x : Nd} {W W' : World}
theorem RD.xr (h : RD w0 x W) : NR W x := h.r0.next h.bl
theorem RD.next (h : RD w0 x W) (hn : Below W.heap.size W W') : RD w0 x W' := ⟨h.n.next hn, h.r0, h.g1.next hn, h.bl.trans (hn.mono h.bl.size)⟩
theorem RD.set (h : RD w0 x W) {g i : Nat} (hg : w0.heap.size < g) (v : Value) : RD w0 x (W.setCell ⟨g, i, none⟩ v) :=
  ⟨h.n.set (by omega) v, h.r0, h.g1.set _ _, h.bl.setCell (by show w0.heap.size ≤ g; omega) _⟩
theorem RD.put (h : RD w0 x W) {g : Nat} (hg : w0.heap.size < g) (a c d e : Value) : RD w0 x ((((W.setCell ⟨g, 0, none⟩ a).setCell ⟨g, 1, none⟩ c).setCell ⟨g, 2, none⟩ d).setCell ⟨g, 3, none⟩ e) := (((h.set hg a).set hg c).set hg d).set hg e
theorem RD.all (h : RD w0 x W) : W.cell? ⟨w0.heap.size, 0, none⟩ = some (.bool x.inner) ∧ W.cell? ⟨w0.heap.size, 1, none⟩ = some (.slice x.A1 x.ks.length x.c1) ∧ W.cell? ⟨w0.heap.size, 2, none⟩ = some (.slice x.A2 x.vs.length x.c2) ∧ W.cell? ⟨w0.heap.size, 3, none⟩ = some (.int .u64 (x.link : Nat)) ∧ W.cell? ⟨w0.heap.size + 1, 0, none⟩ = some (oldV W ⟨w0.heap.size + 1, 0, none⟩) ∧ W.cell? ⟨w0.heap.size + 1, 1, none⟩ = some (oldV W ⟨w0.heap.size + 1, 1, none⟩) ∧ W.cell? ⟨w0.heap.size + 1, 2, none⟩ = some (oldV W ⟨w0.heap.size + 1, 2, none⟩) ∧ W.cell? ⟨w0.heap.size + 1, 3, none⟩ = some (oldV W ⟨w0.heap.size + 1, 3, none⟩) ∧ (∀ i, W.frozen? ⟨w0.heap.size + 1, i, none⟩ = false) ∧ RD w0 x W :=
  ⟨h.n.c0, h.n.c1, h.n.c2, h.n.c3, h.g1.c 0 (by omega), h.g1.c 1 (by omega), h.g1.c 2 (by omega), h.g1.c 3 (by omega), h.g1.fz, h⟩
theorem RD.of (h : W.cell? ⟨w0.heap.size, 0, none⟩ = some (.bool x.inner) ∧ W.cell? ⟨w0.heap.size, 1, none⟩ = some (.slice x.A1 x.ks.length x.c1) ∧ W.cell? ⟨w0.heap.size, 2, none⟩ = some (.slice x.A2 x.vs.length x.c2) ∧ W.cell? ⟨w0.heap.size, 3, none⟩ = some (.int .u64 (x.link : Nat)) ∧ W.cell? ⟨w0.heap.size + 1, 0, none⟩ = some (oldV W ⟨w0.heap.size + 1, 0, none⟩) ∧ W.cell? ⟨w0.heap.size + 1, 1, none⟩ = some (oldV W ⟨w0.heap.size + 1, 1, none⟩) ∧ W.cell? ⟨w0.heap.size + 1, 2, none⟩ = some (oldV W ⟨w0.heap.size + 1, 2, none⟩) ∧ W.cell? ⟨w0.heap.size + 1, 3, none⟩ = some (oldV W ⟨w0.heap.size + 1, 3, none⟩) ∧ (∀ i, W.frozen? ⟨w0.heap.size + 1, i, none⟩ = false) ∧ RD w0 x W) : RD w0 x W := h.2.2.2.2.2.2.2.2.2
theorem RD.start (w : World) (x : Nd) (h : NR w x) : RD w x ((w.alloc (ndRow x)).alloc (ndRow Nd.zero)) := by
  have p := PT.alloc (w.alloc (ndRow x)) Nd.zero
  simp only [World.size_alloc] at p
  exact ⟨(NC.alloc w x).next (nl1 _ _), h, p, nl2 _ _ _⟩
end
set_option maxHeartbeats 2000000 in
theorem rdrop_there (x : Nd) (q : Nat) (hl : x.ks.length ≤ 1000) (hr : rightP x) (hq : hasB x.ks q = true) (W : World) (hx : NR W x) :
    Calls Try.prog 18 #[ndV x, .int .u64 (q : Nat)] W fun e w' => ∃ y : Nd, e = .returned (ndV y) ∧ y.inner = false ∧ y.link = x.link ∧ y.ks = cutL x.ks 0 (cnt x.ks q) ++ cutL x.ks (cnt x.ks q + 1) x.ks.length ∧ y.vs = cutL x.vs 0 (cnt x.ks q) ++ cutL x.vs (cnt x.ks q + 1) x.ks.length ∧ ON W.heap.size y w' ∧ Below W.heap.size W w' := by
  have ra := hr.2.1
  have e0 := cnt_le x.ks q
  have e5 := ((has_at x.ks q hr.2.2).1 hq).1
  have FD0 := fun W' h => rfind_any x q hl W' h
  rw [hq] at FD0
  have FD := Lib.hid FD0
  generalize cnt x.ks q = n0 at e0 FD e5 ⊢
  have CA := Lib.hid (fun W' (h : NR W' x) => rcut0 x n0 (by omega) (by omega) hl W' h)
  have CB := Lib.hid (fun W' (h : NR W' x) => rcut_t0 x (n0 + 1) x.ks.length (by omega) (by omega) (by omega) hl W' h)
  have JN := Lib.hid (fun (p1 p2 : Nd) (h1 : p1.ks = cutL x.ks 0 n0) (h2 : p1.vs = cutL x.vs 0 n0) (h3 : p2.ks = cutL x.ks (n0 + 1) x.ks.length) (h4 : p2.vs = cutL x.vs (n0 + 1) x.ks.length) W' (h : NR W' p1) (h' : NR W' p2) => rjoin_any p1 p2 x.link (by rw [h1, h2, cutL_len _ _ _ (by omega), cutL_len _ _ _ (by omega)]) (by rw [h3, h4, cutL_len _ _ _ (by omega), cutL_len _ _ _ (by omega)]) (by rw [h1, cutL_len _ _ _ (by omega)]; omega) (by rw [h3, cutL_len _ _ _ (by omega)]; omega) W' h h')
  have K0 := Lib.hid (RD.start W x hx)
  have hw1 : RowKit.wrap64 ((n0 : Int) + 1) = (n0 : Int) + 1 := IntWalk.wrap64_in _ ⟨by omega, by omega⟩
  have t1 : True := trivial
  have t2 : True := trivial
  clear FD0 e5
  clear hr ra hx hq e0
  go_enter Try.func18, Try.ntmps18
  go_wp2_with (go_at_call 16; refine (FD.out _ K0.out.xr).mono ?_; rintro e w1 ⟨rfl, hn⟩; have K1 := Lib.hid ((K0.out.next hn).next (Below.refl _ _).drew); clear hn)
  have hs := RD.all K1.out
  go_region_held3 (fun w' => w'.cell? ⟨W.heap.size, 0, none⟩ = some (.bool x.inner) ∧ w'.cell? ⟨W.heap.size, 1, none⟩ = some (.slice x.A1 x.ks.length x.c1) ∧ w'.cell? ⟨W.heap.size, 2, none⟩ = some (.slice x.A2 x.vs.length x.c2) ∧ w'.cell? ⟨W.heap.size, 3, none⟩ = some (.int .u64 (x.link : Nat)) ∧ w'.cell? ⟨W.heap.size + 1, 0, none⟩ = some (oldV w' ⟨W.heap.size + 1, 0, none⟩) ∧ w'.cell? ⟨W.heap.size + 1, 1, none⟩ = some (oldV w' ⟨W.heap.size + 1, 1, none⟩) ∧ w'.cell? ⟨W.heap.size + 1, 2, none⟩ = some (oldV w' ⟨W.heap.size + 1, 2, none⟩) ∧ w'.cell? ⟨W.heap.size + 1, 3, none⟩ = some (oldV w' ⟨W.heap.size + 1, 3, none⟩) ∧ (∀ i, w'.frozen? ⟨W.heap.size + 1, i, none⟩ = false) ∧ RD W x w') (first | with_reducible exact hs | with_reducible exact RD.all (RD.put (RD.of (w0 := W) (x := x) (by assumption)) (by omega) _ _ _ _))
    (first
    | (go_at_call 20; have _t := t1; refine (CA.out _ K1.out.xr).mono ?_; rintro e k1 ⟨p1, rfl, e1, e2, e3, e4, op, hn⟩; clear t1; have K2 := Lib.hid (K1.out.next hn); have hs := RD.all K2.out; have P1 := Lib.hid (And.intro e3 e4); have O1 := Lib.hid op.nr; clear hn e1 e2 e3 e4 op)
    | (go_at_call 20; have _t := t2; refine (CB.out _ K2.out.xr).mono ?_; rintro e k2 ⟨p2, rfl, e1, e2, e3, e4, op, hn⟩; clear t2; have K3 := Lib.hid (K2.out.next hn); have hs := RD.all K3.out; have P2 := Lib.hid (And.intro e3 e4); have O1' := Lib.hid (O1.out.next hn); have O2 := Lib.hid op.nr; clear hn e1 e2 e3 e4 op)
    | (go_at_call 24; refine (JN.out p1 p2 P1.out.1 P1.out.2 P2.out.1 P2.out.2 _ O1'.out O2.out).mono ?_; rintro e k3 ⟨y, rfl, e1, e2, e3, e4, op, hn⟩; have K4 := Lib.hid (K3.out.next hn); have hs := RD.all K4.out; have E := Lib.hid (And.intro e1 (And.intro e2 (And.intro (e3.trans (by rw [P1.out.1, P2.out.1])) (e4.trans (by rw [P1.out.2, P2.out.2]))))); have O4 := Lib.hid op; have SZ := Lib.hid K3.out.g1.lt; clear hn e1 e2 e3 e4 op))
  all_goals (
    obtain ⟨-, -, -, -, z0, z1, z2, z3, fz, -⟩ := RD.all K4.out
    clear hs
    go_wp2
    exact bodyPost_ret (v := ndV y) (by simp [results, Try.results18, go_sem, z0, z1, z2, z3]) rfl ⟨y, rfl, E.out.1, E.out.2.1, E.out.2.2.1, E.out.2.2.2, (O4.out.put (by have := SZ.out; omega) _ _ _ _).le (by have := SZ.out; omega), below_put4 K4.out.bl (by omega) _ _ _ _⟩)
set_option maxHeartbeats 2000000 in
theorem rdrop_away (x : Nd) (q : Nat) (hl : x.ks.length ≤ 1000) (hr : rightP x) (hq : hasB x.ks q = false) (W : World) (hx : NR W x) :
    Calls Try.prog 18 #[ndV x, .int .u64 (q : Nat)] W fun e w' => ∃ y : Nd, e = .returned (ndV y) ∧ y.inner = false ∧ y.link = x.link ∧ y.ks = cutL x.ks 0 (cnt x.ks q) ++ cutL x.ks (cnt x.ks q) x.ks.length ∧ y.vs = cutL x.vs 0 (cnt x.ks q) ++ cutL x.vs (cnt x.ks q) x.ks.length ∧ ON W.heap.size y w' ∧ Below W.heap.size W w' := by
  have ra := hr.2.1
  have e0 := cnt_le x.ks q

  have FD0 := fun W' h => rfind_any x q hl W' h
  rw [hq] at FD0
  have FD := Lib.hid FD0
  generalize cnt x.ks q = n0 at e0 FD ⊢
  have CA := Lib.hid (fun W' (h : NR W' x) => rcut0 x n0 (by omega) (by omega) hl W' h)
  have CB := Lib.hid (fun W' (h : NR W' x) => rcut_t0 x (n0) x.ks.length (by omega) (by omega) (by omega) hl W' h)
  have JN := Lib.hid (fun (p1 p2 : Nd) (h1 : p1.ks = cutL x.ks 0 n0) (h2 : p1.vs = cutL x.vs 0 n0) (h3 : p2.ks = cutL x.ks (n0) x.ks.length) (h4 : p2.vs = cutL x.vs (n0) x.ks.length) W' (h : NR W' p1) (h' : NR W' p2) => rjoin_any p1 p2 x.link (by rw [h1, h2, cutL_len _ _ _ (by omega), cutL_len _ _ _ (by omega)]) (by rw [h3, h4, cutL_len _ _ _ (by omega), cutL_len _ _ _ (by omega)]) (by rw [h1, cutL_len _ _ _ (by omega)]; omega) (by rw [h3, cutL_len _ _ _ (by omega)]; omega) W' h h')
  have K0 := Lib.hid (RD.start W x hx)

  have t1 : True := trivial
  have t2 : True := trivial
  clear FD0
  clear hr ra hx hq e0
  go_enter Try.func18, Try.ntmps18
  go_wp2_with (go_at_call 16; refine (FD.out _ K0.out.xr).mono ?_; rintro e w1 ⟨rfl, hn⟩; have K1 := Lib.hid ((K0.out.next hn).next (Below.refl _ _).drew); clear hn)
  have hs := RD.all K1.out
  go_region_held3 (fun w' => w'.cell? ⟨W.heap.size, 0, none⟩ = some (.bool x.inner) ∧ w'.cell? ⟨W.heap.size, 1, none⟩ = some (.slice x.A1 x.ks.length x.c1) ∧ w'.cell? ⟨W.heap.size, 2, none⟩ = some (.slice x.A2 x.vs.length x.c2) ∧ w'.cell? ⟨W.heap.size, 3, none⟩ = some (.int .u64 (x.link : Nat)) ∧ w'.cell? ⟨W.heap.size + 1, 0, none⟩ = some (oldV w' ⟨W.heap.size + 1, 0, none⟩) ∧ w'.cell? ⟨W.heap.size + 1, 1, none⟩ = some (oldV w' ⟨W.heap.size + 1, 1, none⟩) ∧ w'.cell? ⟨W.heap.size + 1, 2, none⟩ = some (oldV w' ⟨W.heap.size + 1, 2, none⟩) ∧ w'.cell? ⟨W.heap.size + 1, 3, none⟩ = some (oldV w' ⟨W.heap.size + 1, 3, none⟩) ∧ (∀ i, w'.frozen? ⟨W.heap.size + 1, i, none⟩ = false) ∧ RD W x w') (first | with_reducible exact hs | with_reducible exact RD.all (RD.put (RD.of (w0 := W) (x := x) (by assumption)) (by omega) _ _ _ _))
    (first
    | (go_at_call 20; have _t := t1; refine (CA.out _ K1.out.xr).mono ?_; rintro e k1 ⟨p1, rfl, e1, e2, e3, e4, op, hn⟩; clear t1; have K2 := Lib.hid (K1.out.next hn); have hs := RD.all K2.out; have P1 := Lib.hid (And.intro e3 e4); have O1 := Lib.hid op.nr; clear hn e1 e2 e3 e4 op)
    | (go_at_call 20; have _t := t2; refine (CB.out _ K2.out.xr).mono ?_; rintro e k2 ⟨p2, rfl, e1, e2, e3, e4, op, hn⟩; clear t2; have K3 := Lib.hid (K2.out.next hn); have hs := RD.all K3.out; have P2 := Lib.hid (And.intro e3 e4); have O1' := Lib.hid (O1.out.next hn); have O2 := Lib.hid op.nr; clear hn e1 e2 e3 e4 op)
    | (go_at_call 24; refine (JN.out p1 p2 P1.out.1 P1.out.2 P2.out.1 P2.out.2 _ O1'.out O2.out).mono ?_; rintro e k3 ⟨y, rfl, e1, e2, e3, e4, op, hn⟩; have K4 := Lib.hid (K3.out.next hn); have hs := RD.all K4.out; have E := Lib.hid (And.intro e1 (And.intro e2 (And.intro (e3.trans (by rw [P1.out.1, P2.out.1])) (e4.trans (by rw [P1.out.2, P2.out.2]))))); have O4 := Lib.hid op; have SZ := Lib.hid K3.out.g1.lt; clear hn e1 e2 e3 e4 op))
  all_goals (
    obtain ⟨-, -, -, -, z0, z1, z2, z3, fz, -⟩ := RD.all K4.out
    clear hs
    go_wp2
    exact bodyPost_ret (v := ndV y) (by simp [results, Try.results18, go_sem, z0, z1, z2, z3]) rfl ⟨y, rfl, E.out.1, E.out.2.1, E.out.2.2.1, E.out.2.2.2, (O4.out.put (by have := SZ.out; omega) _ _ _ _).le (by have := SZ.out; omega), below_put4 K4.out.bl (by omega) _ _ _ _⟩)
end Go.Proofs.Ytahpdifneajblaa
