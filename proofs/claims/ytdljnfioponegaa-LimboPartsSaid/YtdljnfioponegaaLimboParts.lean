/- gleaninglaw16.LimboParts: for every input the law returns true, and leaves its arguments as they were. No condition. -/
import Derived.Test.YtdljnfioponegaaRows
import Derived.WalkKit
import Derived.Test.YtdljnfioponegaaOpen
import Derived.Deep.QuietTactic
import Derived.BigQuiet
import Derived.Deep.LoopGhost
import Derived.Deep.RegionHeld3
import Derived.Test.YtdljnfioponegaaLim5
import Derived.Test.YtdljnfioponegaaOpen
import Derived.Test.YtdljnfioponegaaTail
import Derived.Test.YtdljnfioponegaaFrame
import Derived.ProofKit
import Derived.OpenShut
namespace Go.Proofs.Ytdljnfioponegaa.limboParts
open Go.ChangeShapes Go.WideShapes Go.ChangeAt Go.RowKit
set_option linter.unusedVariables false

theorem own : ownKnob Try.prog.godebug = none := by kernel_rfl
theorem laidOut : laidOutB Try.prog = true := by kernel_rfl
structure PK (w : World) (rs : List (Nat × Nat)) (ep : Nat) (A : Option Addr) (b off : Nat) (A1 A2 : Option Addr) (b1 b2 : Nat) (W : World) : Prop where
  l : RdR W A b off rs
  r1 : RdR W A1 b1 0 (rs.filter fun r => ripeB r.2 ep)
  r2 : RdR W A2 b2 0 (rs.filter fun r => !(ripeB r.2 ep))
  bl : Below w.heap.size w W
def PX (w : World) (g : Nat) (s t f l p : Int) (rs : List (Nat × Nat)) (ep : Nat) (A : Option Addr) (b off : Nat) (A1 A2 : Option Addr) (b1 b2 : Nat) (W : World) : Prop :=
  W.cell? ⟨g, 0, none⟩ = some (.int .i64 s) ∧ W.cell? ⟨g, 1, none⟩ = some (.int .i64 t) ∧ W.cell? ⟨g, 2, none⟩ = some (.int .i64 f) ∧ W.cell? ⟨g, 3, none⟩ = some (.int .i64 l) ∧ W.cell? ⟨g, 4, none⟩ = some (.int .i64 p) ∧ PK w rs ep A b off A1 A2 b1 b2 W
section
variable {w : World} {g : Nat} {s t f l p : Int} {rs : List (Nat × Nat)} {ep : Nat} {A : Option Addr} {b off : Nat} {A1 A2 : Option Addr} {b1 b2 : Nat} {W W' : World}
theorem PK.next (h : PK w rs ep A b off A1 A2 b1 b2 W) (hn : Below W.heap.size W W') : PK w rs ep A b off A1 A2 b1 b2 W' := ⟨h.l.next hn, h.r1.next hn, h.r2.next hn, h.bl.trans (hn.mono h.bl.size)⟩
theorem PX.next (h : PX w g s t f l p rs ep A b off A1 A2 b1 b2 W) (hn : Below W.heap.size W W') : PX w g s t f l p rs ep A b off A1 A2 b1 b2 W' := by
  obtain ⟨c0, c1, c2, c3, c4, k⟩ := h
  have hg : g < W.heap.size := World.block_lt_of_cell? W _ c0
  have c : ∀ i, W'.cell? ⟨g, i, none⟩ = W.cell? ⟨g, i, none⟩ := fun i => hn.cell (p := ⟨g, i, none⟩) hg
  exact ⟨(c _).trans c0, (c _).trans c1, (c _).trans c2, (c _).trans c3, (c _).trans c4, k.next hn⟩
theorem PX.drew (h : PX w g s t f l p rs ep A b off A1 A2 b1 b2 W) : PX w g s t f l p rs ep A b off A1 A2 b1 b2 W.drew := h.next (Below.refl _ _).drew
theorem PX.k (h : PX w g s t f l p rs ep A b off A1 A2 b1 b2 W) : PK w rs ep A b off A1 A2 b1 b2 W := h.2.2.2.2.2
end
/-- The handles' row. -/
structure HH (rs : List (Nat × Nat)) (bh : Nat) (W : World) : Prop where
  c : ∀ j, j < rs.length → W.cell? ⟨bh, j, none⟩ = some (.int .u64 ((rs.getD j (0, 0)).1 : Nat))
  lt : 0 < rs.length → bh < W.heap.size
theorem HH.next {rs : List (Nat × Nat)} {bh : Nat} {W W' : World} (h : HH rs bh W) (hn : Below W.heap.size W W') : HH rs bh W' :=
  ⟨fun j hj => (hn.cell (p := ⟨bh, j, none⟩) (h.lt (by omega))).trans (h.c j hj), fun h0 => Nat.lt_of_lt_of_le (h.lt h0) hn.size⟩
theorem HH.of_own {W : World} {B : Nat} {v : Value} {rs : List (Nat × Nat)} (h : W.ownsRow B 23 1 v rs.length (hnd rs)) : ∃ A cap b, v = .slice A rs.length cap ∧ (0 < rs.length → A = some ⟨b, 0, none⟩) ∧ HH rs b W := by
  have hc := fun g (e : v.ownBlock = some g) => h.cells e
  have hlt := h.lt
  rcases h.2 with ⟨rfl, h0⟩ | ⟨g, cap, cur, rfl, hb, hh, h3⟩
  · obtain rfl : rs = [] := List.eq_nil_of_length_eq_zero h0
    exact ⟨none, 0, 0, rfl, fun h => by simp at h, fun j hj => by simp at hj, fun h => by simp at h⟩
  · refine ⟨_, cap, g, rfl, fun _ => rfl, fun j hj => ?_, fun _ => (hlt g rfl).2⟩
    have hj' : (hnd rs)[j]? = some (.int .u64 ((rs.getD j (0, 0)).1 : Nat)) := by simp [hnd, List.getD, hj]
    have := hc g rfl j _ hj'
    rw [add_plain', Nat.zero_add] at this; exact this
structure S5 (B : Nat) (w0 : World) (bh ih b o : Nat) (x y : Nat) (W : World) : Prop where
  h0 : W.cell? ⟨bh, ih, none⟩ = some (.int .u64 x)
  c0 : W.cell? ⟨b, o, none⟩ = some (.int .u64 x)
  c1 : W.cell? ⟨b, o + 1, none⟩ = some (.int .u64 y)
  bl : Below B w0 W
theorem S5.next {B : Nat} {w0 : World} {bh ih b o x y : Nat} {W W' : World} (h : S5 B w0 bh ih b o x y W) (hB : B ≤ W.heap.size) (hn : Below W.heap.size W W') : S5 B w0 bh ih b o x y W' :=
  ⟨(hn.cell (p := ⟨bh, ih, none⟩) (World.block_lt_of_cell? W _ h.h0)).trans h.h0, (hn.cell (p := ⟨b, o, none⟩) (World.block_lt_of_cell? W _ h.c0)).trans h.c0, (hn.cell (p := ⟨b, o + 1, none⟩) (World.block_lt_of_cell? W _ h.c1)).trans h.c1, h.bl.trans (hn.mono hB)⟩

set_option maxHeartbeats 4000000 in
theorem walk (w : World) (A0 : Option Addr) (len0 cap0 b0 off0 : Nat) (rs0 : List (Nat × Nat)) (hl0 : rs0.length = len0) (hm0 : len0 ≤ cap0 ∧ len0 ≤ maxLen) (hR0 : RdR w A0 b0 off0 rs0) (hb0 : ∀ r ∈ rs0, r.1 < 18446744073709551616 ∧ r.2 < 18446744073709551616) (a1 : Int) (w1 : (Lit.int .u64 a1).wf = true) (a2 : Int) (w2 : (Lit.int .i64 a2).wf = true) (a3_0 : Int) (w3_0 : (Lit.int .i64 a3_0).wf = true) (a3_1 : Int) (w3_1 : (Lit.int .i64 a3_1).wf = true) (a3_2 : Int) (w3_2 : (Lit.int .i64 a3_2).wf = true) (a3_3 : Int) (w3_3 : (Lit.int .i64 a3_3).wf = true) (a3_4 : Int) (w3_4 : (Lit.int .i64 a3_4).wf = true) :
    Calls Try.prog 3 #[.slice A0 len0 cap0, .int .u64 a1, .int .i64 a2, .agg #[.int .i64 a3_0, .int .i64 a3_1, .int .i64 a3_2, .int .i64 a3_3, .int .i64 a3_4]] w fun e w' => e = .returned (.bool true) ∧ Below w.heap.size w w' := by
  have AW := Lib.hid awake16_any
  obtain ⟨ep, rfl⟩ : ∃ x : Nat, a1 = x := ⟨a1.toNat, by have := u64_lo w1; omega⟩
  have hep : ep < 18446744073709551616 := by have := u64_hi w1; omega
  have B1 := Lib.hid (bel1 w (.cells #[.int .i64 a3_0, .int .i64 a3_1, .int .i64 a3_2, .int .i64 a3_3, .int .i64 a3_4] 25))
  clear w1 w2 w3_0 w3_1 w3_2 w3_3 w3_4
  by_cases hlen : (len0 : Int) ≤ 100
  · have hln : len0 ≤ 100 := by omega
    subst hl0
    have l1 := hR0.next B1.out
    have hp := part_any rs0 (by omega) hb0 ep hep A0 b0 off0 cap0 _ l1
    have P := Lib.hid hp
    have H1 := Lib.hid hR0
    have BD := Lib.hid hb0
    have e1 : (fun r : Nat × Nat => ripeB r.2 ep == true) = fun r => ripeB r.2 ep := by funext r; simp
    have e2 : (fun r : Nat × Nat => ripeB r.2 ep == false) = fun r => !(ripeB r.2 ep) := by funext r; cases ripeB r.2 ep <;> rfl
    have T1 : RowKit.Hid (∀ W : World, RdR W A0 b0 off0 rs0 → Calls Try.prog 13 #[.slice A0 rs0.length cap0, .int .u64 ep, .bool true] W fun x w' => ∃ v, x = .returned v ∧ OR W.heap.size W v (rs0.filter fun r => ripeB r.2 ep) w') := Lib.hid (fun W h => by have := rpart_any rs0 (by omega) BD.out ep hep true A0 b0 off0 cap0 W h; rw [e1] at this; exact this)
    have T2 : RowKit.Hid (∀ W : World, RdR W A0 b0 off0 rs0 → Calls Try.prog 13 #[.slice A0 rs0.length cap0, .int .u64 ep, .bool false] W fun x w' => ∃ v, x = .returned v ∧ OR W.heap.size W v (rs0.filter fun r => !(ripeB r.2 ep)) w') := Lib.hid (fun W h => by have := rpart_any rs0 (by omega) BD.out ep hep false A0 b0 off0 cap0 W h; rw [e2] at this; exact this)
    have HD := Lib.hid (fun (W : World) (h : RdR W A0 b0 off0 rs0) => handles_any rs0 (by omega) A0 b0 off0 cap0 W h)
    have WO := Lib.hid (fun (W : World) (h : RdR W A0 b0 off0 rs0) => without_any rs0 (by omega) BD.out a2 A0 b0 off0 cap0 W h)
    have RW := Lib.hid (fun (W : World) (h : RdR W A0 b0 off0 rs0) => rwithout_any rs0 (by omega) BD.out a2 A0 b0 off0 cap0 W h)
    have F1 := Lib.hid (show (rs0.filter fun r => ripeB r.2 ep).length ≤ 100000 by have := List.length_filter_le (fun r : Nat × Nat => ripeB r.2 ep) rs0; omega)
    have F2 := Lib.hid (show (rs0.filter fun r => !(ripeB r.2 ep)).length ≤ 100000 by have := List.length_filter_le (fun r : Nat × Nat => !(ripeB r.2 ep)) rs0; omega)
    have F3 := Lib.hid (show (rs0.filter (nsl a2)).length ≤ 100000 by have := List.length_filter_le (nsl a2) rs0; omega)
    clear hp hR0 hb0 l1 e1 e2
    obtain ⟨len0, hN⟩ : ∃ n, n = rs0.length := ⟨_, rfl⟩
    rw [← hN] at hlen hln hm0 P T1 T2 HD WO RW ⊢
    have HN := Lib.hid hN
    clear hN
    have hne : ((len0 : Int) != (len0 : Int)) = false := by simp
    have t1 : True := trivial
    have t2 : True := trivial
    have s1 : True := trivial
    have s2 : True := trivial
    have s3 : True := trivial
    go_enter Try.func3, Try.ntmps3
    go_wp2_with (first
      | (go_at_call 8; refine P.out.mono ?_; rintro e u1 ⟨v1, v2, rfl, ho⟩; obtain ⟨A1, p1, b1, rfl, R1⟩ := RdR.of_own ho.o1; obtain ⟨A2, p2, b2, rfl, R2⟩ := RdR.of_own ho.o2; have HX1 := Lib.hid (show PX w w.heap.size a3_0 a3_1 a3_2 a3_3 a3_4 rs0 ep A0 b0 off0 A1 A2 b1 b2 u1 from ⟨(ho.bl.cell (p := ⟨w.heap.size, 0, none⟩) (by simp)).trans (by simp), (ho.bl.cell (p := ⟨w.heap.size, 1, none⟩) (by simp)).trans (by simp), (ho.bl.cell (p := ⟨w.heap.size, 2, none⟩) (by simp)).trans (by simp), (ho.bl.cell (p := ⟨w.heap.size, 3, none⟩) (by simp)).trans (by simp), (ho.bl.cell (p := ⟨w.heap.size, 4, none⟩) (by simp)).trans (by simp), (H1.out.next B1.out).next ho.bl, R1, R2, B1.out.trans (ho.bl.mono (by simp))⟩); clear ho R1 R2)
      | (go_at_call 9; refine (HD.out _ HX1.out.k.l).mono ?_; rintro e u2 ⟨v3, rfl, ho⟩; obtain ⟨A3, p3, b3, rfl, HA3, R3⟩ := HH.of_own (rs := rs0) ho.own; have HX2 := Lib.hid (HX1.out.next ho.bl); have HH2 := Lib.hid R3; rw [← HN.out] at HA3 ⊢; have HA := Lib.hid HA3; clear ho R3 HA3))
    have HX3 := HX2
    clear HX1 HD P B1
    go_loopg [12] len0 (fun gk i wr => ∃ j : Nat, j ≤ len0 ∧ gk = len0 - j ∧ i = .int .i64 j ∧ PX w w.heap.size a3_0 a3_1 a3_2 a3_3 a3_4 rs0 ep A0 b0 off0 A1 A2 b1 b2 wr ∧ HH rs0 b3 wr)
    case atStart => exact ⟨0, by omega, by omega, rfl, HX2.out, HH2.out⟩
    case round =>
      clear HX2 HX3 HH2
      obtain ⟨j, hj, hg, rfl, hr, hh⟩ := hrel
      by_cases hlt : j < len0
      · have hjl : j < rs0.length := by rw [← HN.out]; exact hlt
        obtain rfl := H1.out.a (by omega)
        obtain rfl := HA.out (by omega)
        have q0 := hh.c j hjl
        have q1 := hr.k.l.c0 j hjl
        have q2 := hr.k.l.c1 j hjl
        have hm : rs0.getD j (0, 0) ∈ rs0 := by
          rw [List.getD_eq_getElem?_getD, List.getElem?_eq_getElem hjl]; exact List.getElem_mem hjl
        have hb2 := (BD.out _ hm).2
        clear hm hjl
        generalize rs0.getD j (0, 0) = r at q0 q1 q2 hb2
        obtain ⟨x, y⟩ := r
        have RI := Lib.hid (ripe_any x y ep hb2 hep)
        have RR := Lib.hid (rripe_any x y ep hb2 hep)
        have HS := Lib.hid (show S5 wr.heap.size wr b3 j b0 (off0 + j * 2) x y wr from ⟨q0, q1, q2, Below.refl _ _⟩)
        have HS1 := Lib.hid (HS.out.next (Nat.le_refl _) (Below.refl _ _).drew)
        have HR := Lib.hid hr
        have HHH := Lib.hid hh
        generalize ripeB y ep = bb at RI RR
        clear hr hh q0 q1 q2 hb2 HS H1 HA
        go_wp2
        refine wp_region_class (C := S5 wr.heap.size wr b3 j b0 (off0 + j * 2) x y) (by kernel_rfl) (by kernel_rfl) (HS1.out) ?_
        repeat (first
          | go_big_quiet_skip
          | (go_big_quiet_want; go_big_quiet_op; go_big_quiet_on)
          | (go_big_quiet_want; go_big_quiet_op; refine ⟨_, fun _ _ => rfl, ?_⟩; go_big_quiet_on)
          | (go_big_quiet_want
             apply quiet_mk
             · intro u hu
               have h0 := hu.h0; have c0 := hu.c0; have c1 := hu.c1
               have HU := Lib.hid hu
               clear hu
               go_simp
               first
                 | with_reducible rfl
                 | (go_at_call 10; refine (RI.out _).mono ?_; rintro e w' ⟨rfl, hn⟩; exact ⟨rfl, HU.out.next HU.out.bl.size hn⟩) | (go_at_call 11; refine (RR.out _).mono ?_; rintro e w' ⟨rfl, hn⟩; exact ⟨rfl, HU.out.next HU.out.bl.size hn⟩)
             simp only [Act.put, List.setIfInBounds_toArray, List.set_cons_zero, List.set_cons_succ]
             go_big_quiet_on))
        refine wpQuiet_nil ?_
        intro u hu
        have HB := Lib.hid hu.bl
        clear hu HS1
        go_wp2
        go_roundg (len0 - (j + 1))
        case rel => exact ⟨j + 1, by omega, rfl, by go_num, HR.out.next HB.out, HHH.out.next HB.out⟩
        case measure => omega
      · obtain rfl : j = len0 := by omega
        have HR := Lib.hid hr.drew
        clear hr hh
        have RM := Lib.hid (room_any A0 j cap0 a3_0 a3_1 a3_2 a3_3 a3_4)
        go_wp2
        go_region_held3 (fun w' => w'.cell? ⟨w.heap.size, 0, none⟩ = some (.int .i64 a3_0) ∧ w'.cell? ⟨w.heap.size, 1, none⟩ = some (.int .i64 a3_1) ∧ w'.cell? ⟨w.heap.size, 2, none⟩ = some (.int .i64 a3_2) ∧ w'.cell? ⟨w.heap.size, 3, none⟩ = some (.int .i64 a3_3) ∧ w'.cell? ⟨w.heap.size, 4, none⟩ = some (.int .i64 a3_4) ∧ PK w rs0 ep A0 b0 off0 A1 A2 b1 b2 w') (first | exact hs | assumption | exact HR.out)
          (first
            | (go_at_call 13; have _t := t1; refine (T1.out _ (PX.k (g := w.heap.size) (by assumption)).l).mono ?_; rintro e k1 ⟨v, rfl, ho⟩; clear t1; obtain ⟨A4, p4, b4, rfl, R4⟩ := RdR.of_own ho.own; have hs := PX.next (g := w.heap.size) (w := w) (s := a3_0) (t := a3_1) (f := a3_2) (l := a3_3) (p := a3_4) (rs := rs0) (ep := ep) (A := A0) (b := b0) (off := off0) (A1 := A1) (A2 := A2) (b1 := b1) (b2 := b2) (by assumption) ho.bl; clear ho)
            | (go_at_call 12; have _t := s1; refine (rsame_any _ F1.out _ _ _ _ _ _ _ _ _ (PX.k (g := w.heap.size) (w := w) (s := a3_0) (t := a3_1) (f := a3_2) (l := a3_3) (p := a3_4) (rs := rs0) (ep := ep) (A := A0) (b := b0) (off := off0) (A1 := A1) (A2 := A2) (b1 := b1) (b2 := b2) (by assumption)).r1 R4).mono ?_; rintro e k2 ⟨rfl, hn⟩; clear s1; have hs := PX.next (g := w.heap.size) (w := w) (s := a3_0) (t := a3_1) (f := a3_2) (l := a3_3) (p := a3_4) (rs := rs0) (ep := ep) (A := A0) (b := b0) (off := off0) (A1 := A1) (A2 := A2) (b1 := b1) (b2 := b2) (by assumption) hn; clear hn R4)
            | (go_at_call 13; have _t := t2; refine (T2.out _ (PX.k (g := w.heap.size) (w := w) (s := a3_0) (t := a3_1) (f := a3_2) (l := a3_3) (p := a3_4) (rs := rs0) (ep := ep) (A := A0) (b := b0) (off := off0) (A1 := A1) (A2 := A2) (b1 := b1) (b2 := b2) (by assumption)).l).mono ?_; rintro e k3 ⟨v, rfl, ho⟩; clear t2; obtain ⟨A5, p5, b5, rfl, R5⟩ := RdR.of_own ho.own; have hs := PX.next (g := w.heap.size) (w := w) (s := a3_0) (t := a3_1) (f := a3_2) (l := a3_3) (p := a3_4) (rs := rs0) (ep := ep) (A := A0) (b := b0) (off := off0) (A1 := A1) (A2 := A2) (b1 := b1) (b2 := b2) (by assumption) ho.bl; clear ho)
            | (go_at_call 12; have _t := s2; refine (rsame_any _ F2.out _ _ _ _ _ _ _ _ _ (PX.k (g := w.heap.size) (w := w) (s := a3_0) (t := a3_1) (f := a3_2) (l := a3_3) (p := a3_4) (rs := rs0) (ep := ep) (A := A0) (b := b0) (off := off0) (A1 := A1) (A2 := A2) (b1 := b1) (b2 := b2) (by assumption)).r2 R5).mono ?_; rintro e k4 ⟨rfl, hn⟩; clear s2; have hs := PX.next (g := w.heap.size) (w := w) (s := a3_0) (t := a3_1) (f := a3_2) (l := a3_3) (p := a3_4) (rs := rs0) (ep := ep) (A := A0) (b := b0) (off := off0) (A1 := A1) (A2 := A2) (b1 := b1) (b2 := b2) (by assumption) hn; clear hn R5)
            | (go_at_call 14; refine (WO.out _ (PX.k (g := w.heap.size) (w := w) (s := a3_0) (t := a3_1) (f := a3_2) (l := a3_3) (p := a3_4) (rs := rs0) (ep := ep) (A := A0) (b := b0) (off := off0) (A1 := A1) (A2 := A2) (b1 := b1) (b2 := b2) (by assumption)).l).mono ?_; rintro e k5 ⟨v, rfl, ho⟩; obtain ⟨A6, p6, b6, rfl, R6⟩ := RdR.of_own ho.own; have hs := PX.next (g := w.heap.size) (w := w) (s := a3_0) (t := a3_1) (f := a3_2) (l := a3_3) (p := a3_4) (rs := rs0) (ep := ep) (A := A0) (b := b0) (off := off0) (A1 := A1) (A2 := A2) (b1 := b1) (b2 := b2) (by assumption) ho.bl; try (have R8 := R7.next ho.bl; clear R7; have R7 := R8; clear R8); clear ho)
            | (go_at_call 15; refine (RW.out _ (PX.k (g := w.heap.size) (w := w) (s := a3_0) (t := a3_1) (f := a3_2) (l := a3_3) (p := a3_4) (rs := rs0) (ep := ep) (A := A0) (b := b0) (off := off0) (A1 := A1) (A2 := A2) (b1 := b1) (b2 := b2) (by assumption)).l).mono ?_; rintro e k6 ⟨v, rfl, ho⟩; obtain ⟨A7, p7, b7, rfl, R7⟩ := RdR.of_own ho.own; have hs := PX.next (g := w.heap.size) (w := w) (s := a3_0) (t := a3_1) (f := a3_2) (l := a3_3) (p := a3_4) (rs := rs0) (ep := ep) (A := A0) (b := b0) (off := off0) (A1 := A1) (A2 := A2) (b1 := b1) (b2 := b2) (by assumption) ho.bl; try (have R8 := R6.next ho.bl; clear R6; have R6 := R8; clear R8); clear ho)
            | (go_at_call 12; have _t := s3; refine (rsame_any _ F3.out _ _ _ _ _ _ _ _ _ R6 R7).mono ?_; rintro e k7 ⟨rfl, hn⟩; clear s3; have hs := PX.next (g := w.heap.size) (w := w) (s := a3_0) (t := a3_1) (f := a3_2) (l := a3_3) (p := a3_4) (rs := rs0) (ep := ep) (A := A0) (b := b0) (off := off0) (A1 := A1) (A2 := A2) (b1 := b1) (b2 := b2) (by assumption) hn; clear hn R6 R7)
            | (go_at_call 16; refine (RM.out _).mono ?_; rintro e k8 ⟨rfl, hn⟩; have hs := PX.next (g := w.heap.size) (w := w) (s := a3_0) (t := a3_1) (f := a3_2) (l := a3_3) (p := a3_4) (rs := rs0) (ep := ep) (A := A0) (b := b0) (off := off0) (A1 := A1) (A2 := A2) (b1 := b1) (b2 := b2) (by assumption) hn; clear hn)
            | (go_at_call 7; refine (AW.out _).mono ?_; rintro e k9 ⟨rfl, hn⟩; have hs := PX.next (g := w.heap.size) (w := w) (s := a3_0) (t := a3_1) (f := a3_2) (l := a3_3) (p := a3_4) (rs := rs0) (ep := ep) (A := A0) (b := b0) (off := off0) (A1 := A1) (A2 := A2) (b1 := b1) (b2 := b2) (by assumption) hn; clear hn))
        all_goals (go_wp2; go_ret; exact ⟨rfl, hs.k.bl⟩)
  · have h20 : 100 < (len0 : Int) := by omega
    clear hlen hR0 hb0
    go_enter Try.func3, Try.ntmps3
    go_wp2_with (go_at_call 7; refine (AW.out _).mono ?_; rintro e un ⟨rfl, hn⟩)
    go_ret
    exact ⟨rfl, B1.out.trans (hn.mono B1.out.size)⟩

set_option maxRecDepth 100000 in
theorem lifted (os : Os) (started : os.Started) (H : Type) (enc : TypeId × Value → H) :
    ReturnsInHanded {} Try.checked os 3 .any (Rows.limboPartsSpec.pre6 enc Try.prog Try.f3 Rows.limboPartsRow.domain false) (Rows.limboPartsSpec.post enc Try.prog Try.f3 false true false false) := by
  refine returnsInHanded_of_change (C := Try.checked) own started (by kernel_rfl) Try.func3
    (ChangeSpec.witness6 (enc := enc) (C := Try.checked) false ⟨#[], #[.slice none 0 0, .int .u64 0, .int .i64 0, .agg #[.int .i64 0, .int .i64 0, .int .i64 0, .int .i64 0, .int .i64 0]], []⟩ 8 (by kernel_rfl) (by kernel_rfl) (by kernel_rfl) (by kernel_rfl)) ?_
  intro W base args ds gs before hval0 hW hcnd _
  have hval : ∀ (j : Nat) t v, Try.f3.params[j]? = some t → args[j]? = some v → Value.okWide Try.prog W .any base t v := hval0
  have hW' := hW
  obtain ⟨p, q, hA0, hV, rfl, hfz, hnd⟩ := hW
  have hA : DataW.TrodAll enc Try.prog W 0 (fun _ => true) true Try.f3.params.toList args.toList ds p := hA0
  rw [Try.params3] at hA hval
  obtain ⟨v0, vs0, d0, ds0, p0, q0, hargs, rfl, rfl, h0, r0⟩ := trodAll_cons hA
  obtain ⟨v1, vs1, d1, ds1, p1, q1, rfl, rfl, rfl, h1, r1⟩ := trodAll_cons r0
  obtain ⟨v2, vs2, d2, ds2, p2, q2, rfl, rfl, rfl, h2, r2⟩ := trodAll_cons r1
  obtain ⟨v3, vs3, d3, ds3, p3, q3, rfl, rfl, rfl, h3, r3⟩ := trodAll_cons r2
  obtain ⟨rfl, rfl, rfl⟩ := trodAll_nil r3
  obtain rfl : args = #[v0, v1, v2, v3] := by cases args; simp_all
  obtain ⟨rfl, rfl⟩ := trodVars_none hV
  obtain ⟨A0, len0, cap0, rfl⟩ := okWide_slice Try.underlying22 (hval 0 22 v0 rfl rfl)
  have k0 := h0
  obtain ⟨b0, off0, rs0, hl0, hm0, hR0, hb0⟩ := open_pairs Try.underlying22 Try.underlying32 (by kernel_rfl) rfl rfl (by kernel_rfl) (by kernel_rfl) Try.underlying23 Try.underlying23 h0
  obtain ⟨a1, rfl, rfl, rfl, w1⟩ := open_int Try.underlying23 (hval 1 23 v1 rfl rfl) h1
  obtain ⟨a2, rfl, rfl, rfl, w2⟩ := open_int Try.underlying3 (hval 2 3 v2 rfl rfl) h2
  have k3 := h3
  obtain ⟨ns3, h3l, h3v, h3w⟩ := open_intStruct [.i64, .i64, .i64, .i64, .i64] Try.underlying25 (by kernel_rfl) (by kernel_rfl) rfl (hval 3 25 v3 rfl rfl) h3
  obtain ⟨a3_0, a3_1, a3_2, a3_3, a3_4, rfl⟩ := list5 h3l
  obtain rfl : v3 = .agg #[.int .i64 a3_0, .int .i64 a3_1, .int .i64 a3_2, .int .i64 a3_3, .int .i64 a3_4] := h3v
  clear hA0 hval0
  simp only [List.append_nil, List.nil_append] at hW'
  have hlt0 : ∀ x ∈ p0, x.block < W.heap.size := fun x hx => by simpa using hW'.lt x (by simp [hx])
  have hlt3 : ∀ x ∈ p3, x.block < W.heap.size := fun x hx => by simpa using hW'.lt x (by simp [hx])
  refine (walk W A0 len0 cap0 b0 off0 rs0 hl0 hm0 hR0 hb0 a1 w1 a2 w2 a3_0 (h3w 0 .i64 _ rfl rfl) a3_1 (h3w 1 .i64 _ rfl rfl) a3_2 (h3w 2 .i64 _ rfl rfl) a3_3 (h3w 3 .i64 _ rfl rfl) a3_4 (h3w 4 .i64 _ rfl rfl)).mono fun e W' ⟨he, hg⟩ => ?_
  subst he
  exact ⟨_, rfl, post_of_below2 (pv := []) hW' (fun _ _ _ => (trodAll_cons_mk (shut_bool Try.underlying4 _) trodAll_mk0)) (trodAll_cons_mk (Below.trod laidOut (by kernel_rfl) (of_decide_eq_true (by kernel_rfl)) k0 hg hlt0) (trodAll_cons_mk (shut_int Try.underlying23 w1) (trodAll_cons_mk (shut_int Try.underlying3 w2) (trodAll_cons_mk (Below.trod laidOut (by kernel_rfl) (of_decide_eq_true (by kernel_rfl)) k3 hg hlt3) trodAll_mk0)))) rfl (by simp) (hg.frame _)⟩

theorem over : Rows.limboPartsRow.holds Try.pinned (OpenSpec.ofChange Rows.limboPartsSpec) :=
  OpenClaim.holds_of_wide 3 Try.f3 rfl rfl rfl rfl rfl rfl rfl ⟨rfl, rfl, rfl, rfl, rfl⟩ rfl rfl rfl rfl rfl (by kernel_rfl) Try.func3 (by kernel_rfl)
    (of_decide_eq_true (by kernel_rfl)) (by unfold Func.isWrapper; first | (rw [if_pos (by decide +kernel)]; kernel_rfl) | (rw [if_neg (by decide +kernel)]; exact ⟨rfl, rfl⟩))
    (fun os started H enc _ => lifted os started H enc)

theorem proved : Rows.LimboPartsSaid :=
  over

#print axioms proved
end Go.Proofs.Ytdljnfioponegaa.limboParts
