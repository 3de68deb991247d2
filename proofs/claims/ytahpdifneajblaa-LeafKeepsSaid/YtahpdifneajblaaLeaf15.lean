/- leaf.Drop of a key that is there. -/
import Derived.Test.YtahpdifneajblaaLeaf14
namespace Go.Proofs.Ytahpdifneajblaa
set_option linter.unusedVariables false
open Go.RowKit
structure RK (w0 : World) (x : Nd) (kb o kv : Nat) (W : World) : Prop extends RD w0 x W where
  kc : W.cell? ⟨kb, o, none⟩ = some (.int .u64 (kv : Nat))
  kl : kb < w0.heap.size
section
variable {w0 : World} {x : Nd} {kb o kv : Nat} {W W' : World}
theorem RK.next (h : RK w0 x kb o kv W) (hn : Below W.heap.size W W') : RK w0 x kb o kv W' := ⟨h.toRD.next hn, (hn.cell (p := ⟨kb, o, none⟩) (World.block_lt_of_cell? W _ h.kc)).trans h.kc, h.kl⟩
theorem RK.set (h : RK w0 x kb o kv W) {g i : Nat} (hg : w0.heap.size < g) (v : Value) : RK w0 x kb o kv (W.setCell ⟨g, i, none⟩ v) := by
  have hk := h.kl
  exact ⟨h.toRD.set hg v, (World.cell?_setCell_other _ ⟨g, i, none⟩ ⟨kb, o, none⟩ v (by intro e; injection e with e1; omega)).trans h.kc, h.kl⟩
theorem RK.put (h : RK w0 x kb o kv W) {g : Nat} (hg : w0.heap.size < g) (a c d e : Value) : RK w0 x kb o kv ((((W.setCell ⟨g, 0, none⟩ a).setCell ⟨g, 1, none⟩ c).setCell ⟨g, 2, none⟩ d).setCell ⟨g, 3, none⟩ e) := (((h.set hg a).set hg c).set hg d).set hg e
theorem RK.all (h : RK w0 x kb o kv W) : W.cell? ⟨w0.heap.size, 0, none⟩ = some (.bool x.inner) ∧ W.cell? ⟨w0.heap.size, 1, none⟩ = some (.slice x.A1 x.ks.length x.c1) ∧ W.cell? ⟨w0.heap.size, 2, none⟩ = some (.slice x.A2 x.vs.length x.c2) ∧ W.cell? ⟨w0.heap.size, 3, none⟩ = some (.int .u64 (x.link : Nat)) ∧ W.cell? ⟨w0.heap.size + 1, 0, none⟩ = some (oldV W ⟨w0.heap.size + 1, 0, none⟩) ∧ W.cell? ⟨w0.heap.size + 1, 1, none⟩ = some (oldV W ⟨w0.heap.size + 1, 1, none⟩) ∧ W.cell? ⟨w0.heap.size + 1, 2, none⟩ = some (oldV W ⟨w0.heap.size + 1, 2, none⟩) ∧ W.cell? ⟨w0.heap.size + 1, 3, none⟩ = some (oldV W ⟨w0.heap.size + 1, 3, none⟩) ∧ (∀ i, W.frozen? ⟨w0.heap.size + 1, i, none⟩ = false) ∧ W.cell? ⟨kb, o, none⟩ = some (.int .u64 (kv : Nat)) ∧ RK w0 x kb o kv W :=
  ⟨h.n.c0, h.n.c1, h.n.c2, h.n.c3, h.g1.c 0 (by omega), h.g1.c 1 (by omega), h.g1.c 2 (by omega), h.g1.c 3 (by omega), h.g1.fz, h.kc, h⟩
theorem RK.of (h : W.cell? ⟨w0.heap.size, 0, none⟩ = some (.bool x.inner) ∧ W.cell? ⟨w0.heap.size, 1, none⟩ = some (.slice x.A1 x.ks.length x.c1) ∧ W.cell? ⟨w0.heap.size, 2, none⟩ = some (.slice x.A2 x.vs.length x.c2) ∧ W.cell? ⟨w0.heap.size, 3, none⟩ = some (.int .u64 (x.link : Nat)) ∧ W.cell? ⟨w0.heap.size + 1, 0, none⟩ = some (oldV W ⟨w0.heap.size + 1, 0, none⟩) ∧ W.cell? ⟨w0.heap.size + 1, 1, none⟩ = some (oldV W ⟨w0.heap.size + 1, 1, none⟩) ∧ W.cell? ⟨w0.heap.size + 1, 2, none⟩ = some (oldV W ⟨w0.heap.size + 1, 2, none⟩) ∧ W.cell? ⟨w0.heap.size + 1, 3, none⟩ = some (oldV W ⟨w0.heap.size + 1, 3, none⟩) ∧ (∀ i, W.frozen? ⟨w0.heap.size + 1, i, none⟩ = false) ∧ W.cell? ⟨kb, o, none⟩ = some (.int .u64 (kv : Nat)) ∧ RK w0 x kb o kv W) : RK w0 x kb o kv W := h.2.2.2.2.2.2.2.2.2.2
end
set_option maxHeartbeats 2000000 in
theorem drop_there (x : Nd) (q : Nat) (hl : x.ks.length ≤ 400) (hr : rightP x) (hq : hasB x.ks q = true) (W : World) (hx : NR W x) :
    Calls Try.prog 12 #[ndV x, .int .u64 (q : Nat)] W fun e w' => ∃ y : Nd, e = .returned (.tuple #[ndV y, .int .u64 ((x.vs.getD (cnt x.ks q) 0 : Nat)), .bool true]) ∧ y.inner = false ∧ y.link = x.link ∧ y.ks = cutL x.ks 0 (cnt x.ks q) ++ cutL x.ks (cnt x.ks q + 1) x.ks.length ∧ y.vs = cutL x.vs 0 (cnt x.ks q) ++ cutL x.vs (cnt x.ks q + 1) x.ks.length ∧ ON W.heap.size y w' ∧ Below W.heap.size W w' := by
  have ra := hr.2.1
  have e5 := ((has_at x.ks q hr.2.2).1 hq).1
  have RT := Lib.hid (fun W' h => right_any x (by omega) true (by simp [hr]) W' h)
  have FD0 := fun W' h => find_yes x q (by omega) hr W' h
  rw [hq] at FD0
  have FD := Lib.hid FD0
  generalize cnt x.ks q = n0 at e5 FD ⊢
  obtain ⟨kb, o, hA, qk⟩ := hx.at2 n0 (by omega)
  have P1 := Lib.hid (fun W' (h : NR W' x) => part_ex0 x n0 (by omega) (by omega) W' h)
  have P2 := Lib.hid (fun W' (h : NR W' x) => (show Calls Try.prog 28 #[ndV x, .int .i64 ((n0 : Int) + 1), .int .i64 x.ks.length] W' (fun e w' => (∃ p : Nd, RowKit.Hid (p = x.part (n0 + 1) x.ks.length) ∧ e = .returned (ndV p)) ∧ Below W'.heap.size W' w') by rw [show ((n0 : Int) + 1) = ((n0 + 1 : Nat) : Int) by omega]; exact part_ex x (n0 + 1) x.ks.length (by omega) (by omega) (by omega) W' h))
  have AP1 := Lib.hid (fun p (hp : p = x.part 0 n0) W' (h : NR W' x) => NR.of_part hp h (by omega) (by omega) (by omega))
  have AP2 := Lib.hid (fun p (hp : p = x.part (n0 + 1) x.ks.length) W' (h : NR W' x) => NR.of_part hp h (by omega) (by omega) (by omega))
  have QL := Lib.hid (fun (p : Nd) (f t : Nat) (hp : p = x.part f t) => show p.ks.length ≤ 1000 ∧ p.vs.length ≤ 1000 by subst hp; exact ⟨Nat.le_trans (cutL_le _ _ _) (by omega), Nat.le_trans (cutL_le _ _ _) (by omega)⟩)
  have hkl := World.block_lt_of_cell? W _ qk
  generalize hkv : x.vs.getD n0 0 = kv at qk ⊢
  have hn1 : (n0 : Int) < (x.vs.length : Int) := by omega
  have hn0 : (0 : Int) ≤ (n0 : Int) := by omega
  have hw1 : IntKind.i64.wrap ((n0 : Int) + 1) = (n0 : Int) + 1 := IntWalk.i64_in _ ⟨by omega, by omega⟩
  have hmx : x.vs.length ≤ maxLen := by unfold maxLen; omega
  have R0 := RD.start W x hx
  obtain ⟨inner, ks, vs, lk, A1, c1, A2, c2⟩ := x
  simp only at hA hn1 hmx qk
  subst hA
  have K0 := Lib.hid (show RK W (⟨inner, ks, vs, lk, A1, c1, some ⟨kb, o, none⟩, c2⟩ : Nd) kb (o + n0) kv _ from ⟨R0, (R0.bl.cell (p := ⟨kb, o + n0, none⟩) hkl).trans qk, hkl⟩)
  have t1 : True := trivial
  have t2 : True := trivial
  clear R0 hx hr ra e5 FD0 hq qk hkl hkv hl
  go_enter Try.func12, Try.ntmps12
  go_wp2_with (first
    | (go_at_call 14; refine (RT.out _ K0.out.xr).mono ?_; rintro e w1 ⟨rfl, hn⟩; have K1 := Lib.hid (K0.out.next hn); clear hn; have c0' := K1.out.n.c0; have c1' := K1.out.n.c1; have c2' := K1.out.n.c2; have c3' := K1.out.n.c3)
    | (go_at_call 10; refine (FD.out _ K1.out.xr).mono ?_; rintro e w2 ⟨rfl, hn⟩; have K2 := Lib.hid ((K1.out.next hn).next (Below.refl _ _).drew); clear hn c0' c1' c2' c3'))
  have hs := RK.all K2.out
  go_region_held3 (fun w' => w'.cell? ⟨W.heap.size, 0, none⟩ = some (.bool inner) ∧ w'.cell? ⟨W.heap.size, 1, none⟩ = some (.slice A1 ks.length c1) ∧ w'.cell? ⟨W.heap.size, 2, none⟩ = some (.slice (some ⟨kb, o, none⟩) vs.length c2) ∧ w'.cell? ⟨W.heap.size, 3, none⟩ = some (.int .u64 (lk : Nat)) ∧ w'.cell? ⟨W.heap.size + 1, 0, none⟩ = some (oldV w' ⟨W.heap.size + 1, 0, none⟩) ∧ w'.cell? ⟨W.heap.size + 1, 1, none⟩ = some (oldV w' ⟨W.heap.size + 1, 1, none⟩) ∧ w'.cell? ⟨W.heap.size + 1, 2, none⟩ = some (oldV w' ⟨W.heap.size + 1, 2, none⟩) ∧ w'.cell? ⟨W.heap.size + 1, 3, none⟩ = some (oldV w' ⟨W.heap.size + 1, 3, none⟩) ∧ (∀ i, w'.frozen? ⟨W.heap.size + 1, i, none⟩ = false) ∧ w'.cell? ⟨kb, o + n0, none⟩ = some (.int .u64 (kv : Nat)) ∧ RK W (⟨inner, ks, vs, lk, A1, c1, some ⟨kb, o, none⟩, c2⟩ : Nd) kb (o + n0) kv w') (first | with_reducible exact hs | with_reducible exact RK.all (RK.put (RK.of (w0 := W) (x := (⟨inner, ks, vs, lk, A1, c1, some ⟨kb, o, none⟩, c2⟩ : Nd)) (kb := kb) (o := o + n0) (kv := kv) (by assumption)) (by omega) _ _ _ _) | with_reducible exact RK.all (RK.next (RK.of (w0 := W) (x := (⟨inner, ks, vs, lk, A1, c1, some ⟨kb, o, none⟩, c2⟩ : Nd)) (kb := kb) (o := o + n0) (kv := kv) (by assumption)) (nl1 _ _)))
    (first
    | (go_at_call 28; have _t := t1; refine (P1.out _ K2.out.xr).mono ?_; rintro e k1 ⟨⟨p1, hp1, rfl⟩, hn⟩; clear t1; have K3 := Lib.hid (K2.out.next hn); have hs := RK.all K3.out; clear hn)
    | (go_at_call 28; have _t := t2; refine (P2.out _ K3.out.xr).mono ?_; rintro e k2 ⟨⟨p2, hp2, rfl⟩, hn⟩; clear t2; have K4 := Lib.hid (K3.out.next hn); have hs := RK.all K4.out; clear hn)
    | (go_at_call 27; refine (glued_two lk p1 p2 _ (QL.out p1 _ _ hp1.out).1 (QL.out p1 _ _ hp1.out).2 (QL.out p2 _ _ hp2.out).1 (QL.out p2 _ _ hp2.out).2 k2 (AP1.out p1 hp1.out _ K4.out.xr) (AP2.out p2 hp2.out _ K4.out.xr)).mono ?_; rintro e k3 ⟨y, rfl, e1, e2, e3, e4, oy, hn⟩; have K5 := Lib.hid (K4.out.next hn); have hs := RK.all K5.out; have E := Lib.hid (And.intro e1 (And.intro e2 (And.intro (e3.trans (by rw [hp1.out, hp2.out])) (e4.trans (by rw [hp1.out, hp2.out]))))); have O4 := Lib.hid oy; have SZ := Lib.hid K4.out.g1.lt; clear hn e1 e2 e3 e4 oy))
  all_goals (
    obtain ⟨-, -, -, -, z0, z1, z2, z3, fz, -⟩ := RK.all K5.out
    clear hs
    go_wp2
    exact bodyPost_ret (v := .tuple #[ndV y, .int .u64 (kv : Nat), .bool true]) (by simp [results, Try.results12, go_sem, z0, z1, z2, z3]) rfl ⟨y, rfl, E.out.1, E.out.2.1, E.out.2.2.1, E.out.2.2.2, (O4.out.put (by have := SZ.out; omega) _ _ _ _).le (by have := SZ.out; omega), below_put4 K5.out.bl (by omega) _ _ _ _⟩)
end Go.Proofs.Ytahpdifneajblaa
