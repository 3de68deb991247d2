/- leaf.entry; leaf.Drop where it does not go, or where the key is not there. -/
import Derived.Test.YtahpdifneajblaaFind3
namespace Go.Proofs.Ytahpdifneajblaa
set_option linter.unusedVariables false
open Go.RowKit
/-- A leaf's box, a result that waits. -/
structure DP (w0 : World) (x : Nd) (W : World) : Prop extends L0 w0 x W where
  z : NC (w0.heap.size + 1) Nd.zero W
theorem DP.next {w0 : World} {x : Nd} {W W' : World} (h : DP w0 x W) (hn : Below W.heap.size W W') : DP w0 x W' := ⟨h.toL0.next hn, h.z.next hn⟩
theorem DP.start (w : World) (x : Nd) (h : NR w x) : DP w x ((w.alloc (ndRow x)).alloc (ndRow Nd.zero)) := ⟨(L0.start w x h).next (nl1 _ _), by have := NC.alloc (w.alloc (ndRow x)) Nd.zero; simpa only [World.size_alloc] using this⟩
set_option maxHeartbeats 1000000 in
theorem drop_no (x : Nd) (q : Nat) (hl : x.ks.length ≤ 1000) (hr : ¬ rightP x) (W : World) (hx : NR W x) :
    Calls Try.prog 12 #[ndV x, .int .u64 (q : Nat)] W fun e w' => e = .returned (.tuple #[ndV Nd.zero, .int .u64 0, .bool false]) ∧ Below W.heap.size W w' := by
  have RT := Lib.hid (fun W' h => right_any x (by omega) false (by simp [hr]) W' h)
  have K0 := Lib.hid (DP.start W x hx)
  clear hx hr
  go_enter Try.func12, Try.ntmps12
  go_wp2_with (go_at_call 14; refine (RT.out _ K0.out.r).mono ?_; rintro e w1 ⟨rfl, hn⟩; have K1 := Lib.hid (K0.out.next hn); clear hn; have z0 := K1.out.z.c0; have z1 := K1.out.z.c1; have z2 := K1.out.z.c2; have z3 := K1.out.z.c3; have fz := K1.out.z.fz)
  exact bodyPost_ret (v := .tuple #[ndV Nd.zero, .int .u64 0, .bool false]) (by simp [results, Try.results12, go_sem, z0, z1, z2, z3]) rfl ⟨rfl, below_put4 K1.out.bl (by omega) _ _ _ _⟩
set_option maxHeartbeats 1000000 in
theorem drop_away (x : Nd) (q : Nat) (hl : x.ks.length ≤ 1000) (hr : rightP x) (hq : hasB x.ks q = false) (W : World) (hx : NR W x) :
    Calls Try.prog 12 #[ndV x, .int .u64 (q : Nat)] W fun e w' => ∃ y : Nd, e = .returned (.tuple #[ndV y, .int .u64 0, .bool false]) ∧ y.inner = false ∧ y.link = x.link ∧ y.ks = x.ks ∧ y.vs = x.vs ∧ ON W.heap.size y w' ∧ Below W.heap.size W w' := by
  have RT := Lib.hid (fun W' h => right_any x (by omega) true (by simp [hr]) W' h)
  have hv := hr.2.1
  have FD0 := fun W' h => find_yes x q hl hr W' h
  rw [hq] at FD0
  have FD := Lib.hid FD0
  have GL := Lib.hid (fun W' (h : NR W' x) => glued_one x.link x W'.heap.size 1 (by omega) (by omega) (W'.alloc (ndRow x)) (NB.one W' x h))
  have K0 := Lib.hid (DP.start W x hx)
  generalize cnt x.ks q = n0 at FD
  clear hx hr hq FD0 hv
  go_enter Try.func12, Try.ntmps12
  go_wp2_with (first
    | (go_at_call 14; refine (RT.out _ K0.out.r).mono ?_; rintro e w1 ⟨rfl, hn⟩; have K1 := Lib.hid (K0.out.next hn); clear hn; have c0 := K1.out.n.c0; have c1 := K1.out.n.c1; have c2 := K1.out.n.c2; have c3 := K1.out.n.c3)
    | (go_at_call 10; refine (FD.out _ K1.out.r).mono ?_; rintro e w2 ⟨rfl, hn⟩; have K2 := Lib.hid (K1.out.next hn); clear hn c0 c1 c2 c3; have c0 := K2.out.n.c0; have c1 := K2.out.n.c1; have c2 := K2.out.n.c2; have c3 := K2.out.n.c3)
    | (go_at_call 27; refine (GL.out w2 K2.out.r).mono ?_; rintro e w3 ⟨y, rfl, e1, e2, e3, e4, oy, hn⟩; have K3 := Lib.hid ((K2.out.next (nl1 _ _)).next hn); have E := Lib.hid (And.intro e1 (And.intro e2 (And.intro e3 e4))); have OY := Lib.hid oy; have SZ := Lib.hid K2.out.z.lt; clear hn c0 c1 c2 c3 e1 e2 e3 e4 oy; have z0 := K3.out.z.c0; have z1 := K3.out.z.c1; have z2 := K3.out.z.c2; have z3 := K3.out.z.c3; have fz := K3.out.z.fz))
  exact bodyPost_ret (v := .tuple #[ndV y, .int .u64 0, .bool false]) (by simp [results, Try.results12, go_sem, z0, z1, z2, z3]) rfl ⟨y, rfl, E.out.1, E.out.2.1, E.out.2.2.1, E.out.2.2.2, (OY.out.put (by have := SZ.out; simp; omega) _ _ _ _).le (by have := SZ.out; simp; omega), below_put4 K3.out.bl (by omega) _ _ _ _⟩
end Go.Proofs.Ytahpdifneajblaa
