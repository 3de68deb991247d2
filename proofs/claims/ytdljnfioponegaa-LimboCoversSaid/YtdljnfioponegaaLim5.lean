/- The law's awake. -/
import Derived.Test.YtdljnfioponegaaLim4
namespace Go.Proofs.Ytdljnfioponegaa
set_option linter.unusedVariables false
open Go.RowKit
structure A16 (W : World) (g : Nat) (v : Value) (U : World) : Prop where
  c0 : U.cell? ⟨W.heap.size, 0, none⟩ = some (.int .u64 65537)
  c1 : U.cell? ⟨W.heap.size, 1, none⟩ = some (.int .u64 4)
  d1 : U.cell? ⟨g, 1, none⟩ = some v
  bl : Below W.heap.size W U
theorem A16.next {W : World} {g : Nat} {v : Value} {U U' : World} (h : A16 W g v U) (hn : Below U.heap.size U U') : A16 W g v U' :=
  ⟨(hn.cell (p := ⟨W.heap.size, 0, none⟩) (World.block_lt_of_cell? U _ h.c0)).trans h.c0, (hn.cell (p := ⟨W.heap.size, 1, none⟩) (World.block_lt_of_cell? U _ h.c1)).trans h.c1, (hn.cell (p := ⟨g, 1, none⟩) (World.block_lt_of_cell? U _ h.d1)).trans h.d1, h.bl.trans (hn.mono h.bl.size)⟩
set_option maxHeartbeats 2000000 in
theorem awake16_any (W : World) :
    Calls Try.prog 7 #[] W fun e w' => e = .returned (.bool true) ∧ Below W.heap.size W w' := by
  have hr : RdR ((W.alloc (.cells #[.int .u64 65537, .int .u64 4] 32)).alloc (.cells #[.int .u64 65537, .int .u64 4] 32)) (some ⟨W.heap.size + 1, 0, none⟩) (W.heap.size + 1) 0 [(65537, 4)] :=
    ⟨fun _ => rfl, fun _ => by simp, fun j hj => by
      obtain rfl : j = 0 := by simpa using hj
      simp, fun j hj => by
      obtain rfl : j = 0 := by simpa using hj
      simp⟩
  have hb := bags_any [(65537, 4)] (by simp) (by simp) _ _ _ 1 _ hr
  have B := Lib.hid hb
  have H2 := Lib.hid (bel2 W (.cells #[.int .u64 65537, .int .u64 4] 32) (.cells #[.int .u64 65537, .int .u64 4] 32))
  have r6 : ripeB 4 6 = true := by decide
  have r5 : ripeB 4 5 = false := by decide
  have r3 : ripeB 4 3 = false := by decide
  have k6 := ripe_any 65537 4 6 (by omega) (by omega)
  have k5 := ripe_any 65537 4 5 (by omega) (by omega)
  have k3 := ripe_any 65537 4 3 (by omega) (by omega)
  rw [r6] at k6
  rw [r5] at k5
  rw [r3] at k3
  have R6 : RowKit.Hid (∀ W : World, Calls Try.prog 10 #[.agg #[.int .u64 65537, .int .u64 4], .int .u64 6] W fun x w' => x = .returned (.bool true) ∧ Below W.heap.size W w') := Lib.hid k6
  have R5 : RowKit.Hid (∀ W : World, Calls Try.prog 10 #[.agg #[.int .u64 65537, .int .u64 4], .int .u64 5] W fun x w' => x = .returned (.bool false) ∧ Below W.heap.size W w') := Lib.hid k5
  have R3 : RowKit.Hid (∀ W : World, Calls Try.prog 10 #[.agg #[.int .u64 65537, .int .u64 4], .int .u64 3] W fun x w' => x = .returned (.bool false) ∧ Below W.heap.size W w') := Lib.hid k3
  have RM := Lib.hid (room_any none 0 0 0 0 0 1 0)
  clear hr hb r6 r5 r3 k6 k5 k3
  have t1 : True := trivial
  have t2 : True := trivial
  have t3 : True := trivial
  go_enter Try.func7, Try.ntmps7
  go_wp2_with (first
  | (go_at_call 20; refine B.out.mono ?_; rintro e w1 ⟨v0, v1, v2, rfl, o0, o1, o2, hn⟩; obtain ⟨A0, n0, p0, rfl⟩ := own_slice o0; obtain ⟨A2, n2, p2, rfl⟩ := own_slice o2; obtain ⟨A1, p1, b1, rfl, hR⟩ := RdR.of_own (rs := [(65537, 4)]) o1; clear o0 o1 o2 hR; have h1 := Lib.hid (H2.out.trans (hn.mono (by simp; omega))); have c0 : w1.cell? ⟨W.heap.size, 0, none⟩ = some (.int .u64 65537) := (hn.cell (p := ⟨W.heap.size, 0, none⟩) (by simp; omega)).trans (by simp); have c1 : w1.cell? ⟨W.heap.size, 1, none⟩ = some (.int .u64 4) := (hn.cell (p := ⟨W.heap.size, 1, none⟩) (by simp; omega)).trans (by simp); have z0 : W.heap.size < w1.heap.size := World.block_lt_of_cell? w1 _ c0; have HA := Lib.hid (show A16 W w1.heap.size (.slice A1 1 p1) (w1.alloc (.cells #[.slice A0 n0 p0, .slice A1 1 p1, .slice A2 n2 p2] 43)) from ⟨((bel1 w1 _).cell (p := ⟨W.heap.size, 0, none⟩) (World.block_lt_of_cell? w1 _ c0)).trans c0, ((bel1 w1 _).cell (p := ⟨W.heap.size, 1, none⟩) (World.block_lt_of_cell? w1 _ c1)).trans c1, by simp, h1.out.trans ((bel1 w1 _).mono h1.out.size)⟩); clear hn)
  | (go_at_call 10; have _t := t1; with_reducible refine (R6.out _).mono ?_; rintro e u1 ⟨rfl, hn⟩; clear t1; have K1 := Lib.hid (HA.out.next hn); clear hn c0 c1; have c0 := K1.out.c0; have c1 := K1.out.c1; have d1 := K1.out.d1)
  | (go_at_call 10; have _t := t2; with_reducible refine (R5.out _).mono ?_; rintro e u2 ⟨rfl, hn⟩; clear t2; have K2 := Lib.hid (K1.out.next hn); clear hn c0 c1 d1; have c0 := K2.out.c0; have c1 := K2.out.c1; have d1 := K2.out.d1)
  | (go_at_call 10; have _t := t3; with_reducible refine (R3.out _).mono ?_; rintro e u3 ⟨rfl, hn⟩; clear t3; have K3 := Lib.hid (K2.out.next hn); clear hn c0 c1 d1; have c0 := K3.out.c0; have c1 := K3.out.c1; have d1 := K3.out.d1)
  | (go_at_call 16; refine (RM.out _).mono ?_; rintro e u4 ⟨rfl, hn⟩; have K4 := Lib.hid (K3.out.next hn); clear hn))
  go_ret
  exact ⟨rfl, K4.out.bl⟩
end Go.Proofs.Ytdljnfioponegaa
