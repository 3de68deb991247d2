/- Write, All, Copy. -/
import Derived.Test.YtllkbofjegadeaaDoorMem5
import Derived.Deep.LoopGhost
namespace Go.Proofs.YtllkbofjegadeaaDoor
set_option linter.unusedVariables false
open Go.RowKit
/-- A list of writes that is read. -/
structure RW2 (W : World) (A : Option Addr) (b off : Nat) (ws : List (Int × Nat)) : Prop where
  a : 0 < ws.length → A = some ⟨b, off, none⟩
  lt : 0 < ws.length → b < W.heap.size
  c0 : ∀ j, j < ws.length → W.cell? ⟨b, off + j * 2, none⟩ = some (.int .i64 ((ws.getD j (0, 0)).1))
  c1 : ∀ j, j < ws.length → W.cell? ⟨b, off + j * 2 + 1, none⟩ = some (.int .u64 (((ws.getD j (0, 0)).2 : Nat)))
theorem RW2.but {W W' : World} {A : Option Addr} {b off g : Nat} {ws : List (Int × Nat)} (h : RW2 W A b off ws) (hb : But g W W') (hg : b ≠ g) : RW2 W' A b off ws :=
  ⟨h.a, fun h0 => Nat.lt_of_lt_of_le (h.lt h0) hb.size, fun j hj => (hb.cell (p := ⟨b, off + j * 2, none⟩) (h.lt (by omega)) hg).trans (h.c0 j hj), fun j hj => (hb.cell (p := ⟨b, off + j * 2 + 1, none⟩) (h.lt (by omega)) hg).trans (h.c1 j hj)⟩
theorem RW2.next {W W' : World} {A : Option Addr} {b off : Nat} {ws : List (Int × Nat)} (h : RW2 W A b off ws) (hb : Below W.heap.size W W') : RW2 W' A b off ws :=
  ⟨h.a, fun h0 => Nat.lt_of_lt_of_le (h.lt h0) hb.size, fun j hj => (hb.cell (p := ⟨b, off + j * 2, none⟩) (h.lt (by omega))).trans (h.c0 j hj), fun j hj => (hb.cell (p := ⟨b, off + j * 2 + 1, none⟩) (h.lt (by omega))).trans (h.c1 j hj)⟩
abbrev wrRow (a : Int) (x : Nat) : Obj := .cells #[.int .i64 a, .int .u64 (x : Nat)] 42
theorem RW2.one (W : World) (a : Int) (x : Nat) : RW2 (W.alloc (wrRow a x)) (some ⟨W.heap.size, 0, none⟩) W.heap.size 0 [(a, x)] :=
  ⟨fun _ => rfl, fun _ => by simp, fun j hj => by obtain rfl : j = 0 := by simpa using hj
                                                  simp, fun j hj => by obtain rfl : j = 0 := by simpa using hj
                                                                       simp⟩
/-- One write; some, one behind the other. -/
def wr1 (us : List Nat) (w : Int × Nat) : List Nat := if 0 ≤ w.1 ∧ w.1 < us.length then us.set w.1.toNat w.2 else us
def wrs (us : List Nat) (ws : List (Int × Nat)) : List Nat := ws.foldl wr1 us
theorem wr1_len (us : List Nat) (w : Int × Nat) : (wr1 us w).length = us.length := by unfold wr1; split <;> simp
theorem wrs_len (us : List Nat) (ws : List (Int × Nat)) : (wrs us ws).length = us.length := by
  induction ws generalizing us with
  | nil => rfl
  | cons w ws ih => exact (ih (wr1 us w)).trans (wr1_len us w)
theorem wrs_snoc (us : List Nat) (ws : List (Int × Nat)) (j : Nat) (hj : j < ws.length) : wrs us (ws.take (j + 1)) = wr1 (wrs us (ws.take j)) (ws.getD j (0, 0)) := by
  have e : ws.getD j (0, 0) = ws[j] := by simp [List.getD, hj]
  rw [e, List.take_succ_eq_append_getElem hj]
  unfold wrs
  rw [List.foldl_append]; rfl
/-- Where 'has' says no. -/
theorem mwrite_no (pv : Option Addr) (ws : List (Int × Nat)) (hl : ws.length ≤ 100000) (A : Option Addr) (b off c : Nat) (W : World) (hr : RW2 W A b off ws) (HN : ∀ (a : Int) (W' : World), Below W.heap.size W W' → Calls Tryd.prog 23 #[.pointer pv, .int .i64 a] W' fun e w' => e = .returned (.bool false) ∧ W' = w') :
    Calls Tryd.prog 15 #[.pointer pv, .slice A ws.length c] W fun e w' => (∃ v, e = .returned v) ∧ Below W.heap.size W w' := by
  have H := Lib.hid hr
  have HH := Lib.hid HN
  have hmx : ws.length ≤ maxLen := by unfold maxLen; omega
  clear hr HN
  go_enter Tryd.func15, Tryd.ntmps15
  go_wp2
  go_loopg [8] ws.length (fun gk i wr => ∃ j : Nat, j ≤ ws.length ∧ gk = ws.length - j ∧ i = .int .i64 j ∧ Below W.heap.size W wr)
  case atStart => exact ⟨0, by omega, by omega, rfl, Below.refl _ _⟩
  case round =>
    obtain ⟨j, hj, hg, rfl, hb⟩ := hrel
    by_cases hlt : j < ws.length
    · obtain rfl := H.out.a (by omega)
      have q0 := (H.out.next hb).c0 j hlt
      have q1 := (H.out.next hb).c1 j hlt
      have hji : (j : Int) < (ws.length : Int) := by omega
      generalize ws.getD j (0, 0) = r at q0 q1
      obtain ⟨a, x⟩ := r
      simp only at q0 q1
      have HB := Lib.hid (hb.trans ((ml1 wr (wrRow a x)).mono hb.size))
      have HN := Lib.hid (HH.out a _ HB.out)
      clear hb
      go_wp2_with (go_at_call 23; refine HN.out.mono ?_; rintro e w' ⟨rfl, rfl⟩)
      go_roundg (ws.length - (j + 1))
      case rel => exact ⟨j + 1, by omega, rfl, by go_num, HB.out⟩
      case measure => omega
    · obtain rfl : j = ws.length := by omega
      have HB := Lib.hid hb
      clear hb
      go_wp2
      go_end0
      exact ⟨⟨_, rfl⟩, HB.out⟩
structure DX (W0 : World) (gb g gw q : Nat) (s t f l p : Int) (us : List Nat) (i x y : Nat) (W : World) : Prop where
  a0 : W.cell? ⟨gb, 0, none⟩ = some (.int .i64 (i : Nat))
  a1 : W.cell? ⟨gb, 1, none⟩ = some (.int .u64 (x : Nat))
  m5 : W.cell? ⟨g, 5, none⟩ = some (.slice (some ⟨gw, 0, none⟩) us.length q)
  xc : W.cell? ⟨gw, i, none⟩ = some (.int .u64 (y : Nat))
  fz : W.frozen? ⟨gw, i, none⟩ = false
  mb : MB g gw s t f l p us W
  bl : Below W0.heap.size W0 W
theorem DX.start (W0 : World) (g gw : Nat) (s t f l p : Int) (us : List Nat) (i x y : Nat) (h : MB g gw s t f l p us W0) (hi : i < us.length) (hy : us.getD i 0 = y) : ∃ q, us.length ≤ q ∧ DX W0 W0.heap.size g gw q s t f l p us i x y (W0.alloc (wrRow i x)).drew := by
  have h2 := (h.next (ml1 W0 (wrRow i x))).next (Below.refl _ _).drew
  obtain ⟨q, hr, hq, _⟩ := h2.ex
  exact ⟨q, hq, by simp, by simp, hr.c5, by rw [← hy]; exact h2.b.wd i hi, h2.b.fz i, h2, (ml1 _ _).drew⟩
set_option maxHeartbeats 1000000 in
theorem mwrite_any (g gw : Nat) (s t f l p : Int) (us : List Nat) (ws : List (Int × Nat)) (hu : us.length ≤ 100000) (hl : ws.length ≤ 100000) (A : Option Addr) (b off c : Nat) (W : World) (hm : MB g gw s t f l p us W) (hr : RW2 W A b off ws) (hbw : b ≠ gw) :
    Calls Tryd.prog 15 #[.pointer (some ⟨g, 0, none⟩), .slice A ws.length c] W fun e w' => (∃ v, e = .returned v) ∧ MB g gw s t f l p (wrs us ws) w' ∧ But gw W w' := by
  have H := Lib.hid hr
  have HM := Lib.hid hm
  have hmx : ws.length ≤ maxLen := by unfold maxLen; omega
  clear hr hm
  go_enter Tryd.func15, Tryd.ntmps15
  go_wp2
  go_loopg [8] ws.length (fun gk i wr => ∃ (j : Nat) (vs : List Nat), j ≤ ws.length ∧ gk = ws.length - j ∧ i = .int .i64 j ∧ vs = wrs us (ws.take j) ∧ MB g gw s t f l p vs wr ∧ But gw W wr)
  case atStart => exact ⟨0, us, by omega, by omega, rfl, by simp [wrs], HM.out, But.refl _ _⟩
  case round =>
    clear HM
    obtain ⟨j, vs, hj, hg, rfl, hvs, hm, hb⟩ := hrel
    have hvl : vs.length = us.length := by rw [hvs]; exact wrs_len _ _
    by_cases hlt : j < ws.length
    · obtain rfl := H.out.a (by omega)
      have q0 := (H.out.but hb hbw).c0 j hlt
      have q1 := (H.out.but hb hbw).c1 j hlt
      have hji : (j : Int) < (ws.length : Int) := by omega
      have SN := Lib.hid (wrs_snoc us ws j hlt)
      rw [← hvs] at SN
      clear hvs
      generalize ws.getD j (0, 0) = r at q0 q1 SN
      obtain ⟨a, x⟩ := r
      simp only at q0 q1
      have HB := Lib.hid hb
      have HM := Lib.hid hm
      have HM1 := Lib.hid (hm.next (ml1 wr (wrRow a x)))
      have HL := Lib.hid hvl
      by_cases hin : 0 ≤ a ∧ a < vs.length
      · obtain ⟨i, rfl⟩ : ∃ i : Nat, a = i := ⟨a.toNat, by omega⟩
        have hi : i < vs.length := by omega
        have HN := Lib.hid (has_any g _ vs.length _ (i : Int) _ HM1.out.r.c5 (by omega) true (by simp only [true_iff]; exact hin))
        have E : RowKit.Hid (wr1 vs ((i : Int), x) = vs.set i x) := Lib.hid (by unfold wr1; simp only; rw [if_pos hin, Int.toNat_natCast])
        have hi1 : (i : Int) < (vs.length : Int) := hin.2
        have hmv : vs.length ≤ maxLen := by unfold maxLen; omega
        obtain ⟨y, hy⟩ : ∃ y, vs.getD i 0 = y := ⟨_, rfl⟩
        obtain ⟨q, hq, hd0⟩ := DX.start wr g gw s t f l p vs i x y hm hi hy
        have HD := Lib.hid hd0
        clear hd0 hq
        have HI := Lib.hid hi
        clear hb hm hin hi hvl hy
        go_wp2_with (go_at_call 23; refine HN.out.mono ?_; rintro e w' ⟨rfl, rfl⟩)
        refine wp_region_class_tail (C := DX wr wr.heap.size g gw q s t f l p vs i x y) 9 (by kernel_rfl) (by kernel_rfl) (HD.out) ?_
        simp only [List.take_succ_cons, List.take_zero, List.drop_succ_cons, List.drop_zero]
        repeat (first
          | go_big_quiet_skip
          | (go_big_quiet_want; go_big_quiet_op; go_big_quiet_on)
          | (go_big_quiet_want; go_big_quiet_op; refine ⟨_, fun _ _ => rfl, ?_⟩; go_big_quiet_on)
          | (go_big_quiet_want
             apply quiet_mk
             · intro u hu
               have a0 := hu.a0; have a1 := hu.a1; have m5 := hu.m5; have xc := hu.xc; have fz := hu.fz
               have HU := Lib.hid hu
               clear hu
               go_simp
               first
                 | with_reducible rfl
                 | (fail)
             simp only [Act.put, List.setIfInBounds_toArray, List.set_cons_zero, List.set_cons_succ]
             go_big_quiet_on))
        refine wpQuiet_nil ?_
        intro u hu
        have HU := Lib.hid hu
        have xc' := hu.xc
        have fz' := hu.fz
        clear hu HD
        go_wp2
        go_roundg (ws.length - (j + 1))
        case rel => exact ⟨j + 1, vs.set i x, by omega, rfl, by go_num, by rw [SN.out, E.out], HU.out.mb.set HI.out, HB.out.trans ((But.of_below HU.out.bl).set _)⟩
        case measure => omega
      · have HN := Lib.hid (has_any g _ vs.length _ a _ HM1.out.r.c5 (by omega) false (by simp only [Bool.false_eq_true, false_iff]; exact hin))
        have E : RowKit.Hid (wr1 vs (a, x) = vs) := Lib.hid (by unfold wr1; simp only; rw [if_neg hin])
        clear hb hm hin hvl
        go_wp2_with (go_at_call 23; refine HN.out.mono ?_; rintro e w' ⟨rfl, rfl⟩)
        go_roundg (ws.length - (j + 1))
        case rel => exact ⟨j + 1, vs, by omega, rfl, by go_num, by rw [SN.out, E.out], HM1.out, HB.out.trans (But.of_below (ml1 _ _))⟩
        case measure => omega
    · obtain rfl : j = ws.length := by omega
      have HB := Lib.hid hb
      have HM := Lib.hid hm
      have HV := Lib.hid hvs
      clear hb hm hvs hvl
      go_wp2
      go_end0
      exact ⟨⟨_, rfl⟩, by have := HV.out; rw [List.take_length] at this; rw [← this]; exact HM.out, HB.out⟩
end Go.Proofs.YtllkbofjegadeaaDoor
