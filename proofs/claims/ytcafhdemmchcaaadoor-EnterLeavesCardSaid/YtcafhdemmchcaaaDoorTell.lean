/- layout.inSlot, What, Config. -/
import Derived.Test.YtcafhdemmchcaaaDoorWhat
import Derived.Deep.RegionWith
namespace Go.Proofs.YtcafhdemmchcaaaDoor
set_option linter.unusedVariables false
open Go.RowKit Go.Extern.Stop Go.Stop Go.Extern
/-- A slot's word's place, by its number in the slot. -/
def inS (f x j : Int) : Int × Int × Int := if j < 3 then (6 + j, x, 0) else if j < 3 + f then (9, x, j - 3) else (10, x, j - 3 - f)
abbrev pl3 (x : Int × Int × Int) : Value := placeV x.1 x.2.1 x.2.2
theorem belowSets {B : Nat} {a w : World} (h : Below B a w) {g : Nat} (hg : B ≤ g) (u v x : Value) : Below B a (((w.setCell ⟨g, 0, none⟩ u).setCell ⟨g, 1, none⟩ v).setCell ⟨g, 2, none⟩ x) := ((h.setCell hg u).setCell hg v).setCell hg x
theorem ret_pl {a b c a' b' c' : Int} (h1 : a = a') (h2 : b = b') (h3 : c = c') : Ending.returned (placeV a b c) = .returned (placeV a' b' c') := by rw [h1, h2, h3]
set_option maxHeartbeats 1000000 in
theorem inSlot_any (s t f l p x j : Int) (hf : 0 ≤ f) (hf2 : f ≤ 64) (hj : 0 ≤ j) (hj2 : j ≤ 131) (W : World) :
    Calls Tryd.prog 47 #[layV s t f l p, .int .i64 x, .int .i64 j] W fun e w' => e = .returned (pl3 (inS f x j)) ∧ Below W.heap.size W w' := by
  have hB := Lib.hid (below2 W)
  by_cases h3 : j < 3
  · have e : inS f x j = (6 + j, x, 0) := by unfold inS; rw [if_pos h3]
    rw [e]
    clear e
    go_enter Tryd.func47, Tryd.ntmps47
    go_wp2
    exact bodyPost_ret (v := placeV (6 + j) x 0) (by simp [results, Tryd.results47, go_sem]) rfl ⟨rfl, hB.out _ _⟩
  · by_cases hf3 : j < 3 + f
    · have e : inS f x j = (9, x, j - 3) := by unfold inS; rw [if_neg h3, if_pos hf3]
      rw [e]
      have h3' : 3 ≤ j := by omega
      clear e h3
      go_enter Tryd.func47, Tryd.ntmps47
      go_wp2
      exact bodyPost_ret (v := placeV 9 x (j - 3)) (by simp [results, Tryd.results47, go_sem]) rfl ⟨rfl, hB.out _ _⟩
    · have e : inS f x j = (10, x, j - 3 - f) := by unfold inS; rw [if_neg h3, if_neg hf3]
      rw [e]
      have h3' : 3 + f ≤ j := by omega
      clear e h3 hf3
      go_enter Tryd.func47, Tryd.ntmps47
      go_wp2
      exact bodyPost_ret (v := placeV 10 x (j - 3 - f)) (by simp [results, Tryd.results47, go_sem]) rfl ⟨rfl, hB.out _ _⟩
/-- The class: a layout's block, and a place's that is to be stored into. -/
structure KW (B : Nat) (w0 : World) (g : Nat) (s t f l p : Int) (r : Nat) (W : World) : Prop extends K5 B w0 g s t f l p W where
  e0 : W.cell? ⟨r, 0, none⟩ = some (.int .i64 0)
  e1 : W.cell? ⟨r, 1, none⟩ = some (.int .i64 0)
  e2 : W.cell? ⟨r, 2, none⟩ = some (.int .i64 0)
  fz : ∀ i, W.frozen? ⟨r, i, none⟩ = false
theorem KW.next {B : Nat} {w0 : World} {g : Nat} {s t f l p : Int} {r : Nat} {W W' : World} (h : KW B w0 g s t f l p r W) (hb : Below W.heap.size W W') : KW B w0 g s t f l p r W' := by
  have hr : r < W.heap.size := World.block_lt_of_cell? W _ h.e0
  have c : ∀ j, W'.cell? ⟨r, j, none⟩ = W.cell? ⟨r, j, none⟩ := fun j => hb.cell (p := ⟨r, j, none⟩) hr
  exact ⟨h.toK5.next hb, (c _).trans h.e0, (c _).trans h.e1, (c _).trans h.e2, fun i => (hb.frozen (p := ⟨r, i, none⟩) hr).trans (h.fz i)⟩
theorem KW.drew {B : Nat} {w0 : World} {g : Nat} {s t f l p : Int} {r : Nat} {W : World} (h : KW B w0 g s t f l p r W) : KW B w0 g s t f l p r W.drew := ⟨⟨h.c0, h.c1, h.c2, h.c3, h.c4, h.bl.drew, h.le⟩, h.e0, h.e1, h.e2, h.fz⟩
theorem KW.start (W : World) (s t f l p : Int) : KW W.heap.size W W.heap.size s t f l p (W.heap.size + 1) ((W.alloc (.cells #[.int .i64 s, .int .i64 t, .int .i64 f, .int .i64 l, .int .i64 p] 27)).alloc (.cells #[.int .i64 0, .int .i64 0, .int .i64 0] 51)) :=
  ⟨⟨by simp, by simp, by simp, by simp, by simp, below2 _ _ _, by simp; omega⟩, by simp, by simp, by simp, fun i => by simp⟩
set_option maxHeartbeats 2000000 in
theorem what_neg (s t f l p at' : Int) (h : okL s t f l p) (a0 : at' < 0) (W : World) :
    Calls Tryd.prog 35 #[layV s t f l p, .int .i64 at'] W fun e w' => e = .returned (placeV 0 0 0) ∧ Below W.heap.size W w' := by
  have bd := h.bd
  obtain ⟨⟨b1, b2⟩, ⟨b3, b4⟩, b5, b6⟩ := bd
  have S := Lib.hid (size_any s t f l p h)
  have H := Lib.hid (hazards_any s t f l p b3 b4)
  have L := Lib.hid (slots_any s t f l p b3 b4)
  have D := Lib.hid (width_any s t f l p b5 b6)
  have HK := Lib.hid (KW.start W s t f l p)
  clear h
  go_enter Tryd.func35, Tryd.ntmps35
  go_wp2
  exact bodyPost_ret (v := placeV 0 0 0) (by simp [results, Tryd.results35, go_sem]) rfl ⟨rfl, HK.out.bl⟩
set_option maxHeartbeats 2000000 in
theorem what_big (s t f l p at' : Int) (h : okL s t f l p) (a0 : 0 ≤ at') (a1 : sizeL s t f ≤ at') (W : World) :
    Calls Tryd.prog 35 #[layV s t f l p, .int .i64 at'] W fun e w' => e = .returned (placeV 0 0 0) ∧ Below W.heap.size W w' := by
  have bd := h.bd
  obtain ⟨⟨b1, b2⟩, ⟨b3, b4⟩, b5, b6⟩ := bd
  have S := Lib.hid (size_any s t f l p h)
  have H := Lib.hid (hazards_any s t f l p b3 b4)
  have L := Lib.hid (slots_any s t f l p b3 b4)
  have D := Lib.hid (width_any s t f l p b5 b6)
  have HK := Lib.hid (KW.start W s t f l p)
  clear h
  generalize sizeL s t f = n at S a1
  go_enter Tryd.func35, Tryd.ntmps35
  have k1 : True := trivial
  go_wp2_with (first
    | (go_at_call 44; have _k := k1; refine (S.out _).mono ?_; rintro e u1 ⟨rfl, hn⟩; have h1 := HK.out.next hn; clear hn k1; have c0 := h1.c0; have c1 := h1.c1; have c2 := h1.c2; have c3 := h1.c3; have c4 := h1.c4; have e0 := h1.e0; have e1 := h1.e1; have e2 := h1.e2; have fz := h1.fz))
  exact bodyPost_ret (v := placeV 0 0 0) (by simp [results, Tryd.results35, go_sem, e0, e1, e2]) rfl ⟨rfl, belowSets h1.bl (by omega) _ _ _⟩
set_option maxHeartbeats 2000000 in
theorem what_first (s t f l p at' : Int) (h : okL s t f l p) (a0 : 0 ≤ at') (a1 : at' < sizeL s t f) (a2 : at' < 3) (W : World) :
    Calls Tryd.prog 35 #[layV s t f l p, .int .i64 at'] W fun e w' => e = .returned (placeV (1 + at') 0 0) ∧ Below W.heap.size W w' := by
  have bd := h.bd
  obtain ⟨⟨b1, b2⟩, ⟨b3, b4⟩, b5, b6⟩ := bd
  have S := Lib.hid (size_any s t f l p h)
  have H := Lib.hid (hazards_any s t f l p b3 b4)
  have L := Lib.hid (slots_any s t f l p b3 b4)
  have D := Lib.hid (width_any s t f l p b5 b6)
  have HK := Lib.hid (KW.start W s t f l p)
  clear h
  generalize sizeL s t f = n at S a1
  go_enter Tryd.func35, Tryd.ntmps35
  have k1 : True := trivial
  go_wp2_with (first
    | (go_at_call 44; have _k := k1; refine (S.out _).mono ?_; rintro e u1 ⟨rfl, hn⟩; have h1 := HK.out.next hn; clear hn k1; have c0 := h1.c0; have c1 := h1.c1; have c2 := h1.c2; have c3 := h1.c3; have c4 := h1.c4; have e0 := h1.e0; have e1 := h1.e1; have e2 := h1.e2; have fz := h1.fz))
  exact bodyPost_ret (v := placeV (1 + at') 0 0) (by simp [results, Tryd.results35, go_sem, e0, e1, e2]) rfl ⟨rfl, belowSets h1.bl (by omega) _ _ _⟩
set_option maxHeartbeats 2000000 in
theorem what_ann (s t f l p at' : Int) (h : okL s t f l p) (a0 : 3 ≤ at') (a1 : at' < sizeL s t f) (a2 : at' < 3 + t) (W : World) :
    Calls Tryd.prog 35 #[layV s t f l p, .int .i64 at'] W fun e w' => e = .returned (placeV 4 (at' - 3) 0) ∧ Below W.heap.size W w' := by
  have bd := h.bd
  obtain ⟨⟨b1, b2⟩, ⟨b3, b4⟩, b5, b6⟩ := bd
  have S := Lib.hid (size_any s t f l p h)
  have H := Lib.hid (hazards_any s t f l p b3 b4)
  have L := Lib.hid (slots_any s t f l p b3 b4)
  have D := Lib.hid (width_any s t f l p b5 b6)
  have HK := Lib.hid (KW.start W s t f l p)
  clear h
  generalize sizeL s t f = n at S a1
  go_enter Tryd.func35, Tryd.ntmps35
  have k1 : True := trivial
  have k2 : True := trivial
  go_wp2_with (first
    | (go_at_call 44; have _k := k1; refine (S.out _).mono ?_; rintro e u1 ⟨rfl, hn⟩; have h1 := HK.out.next hn; clear hn k1; have c0 := h1.c0; have c1 := h1.c1; have c2 := h1.c2; have c3 := h1.c3; have c4 := h1.c4; have e0 := h1.e0; have e1 := h1.e1; have e2 := h1.e2; have fz := h1.fz)
    | (go_at_call 45; have _k := k2; refine (H.out _).mono ?_; rintro e u2 ⟨rfl, hn⟩; have h2 := h1.next hn; clear hn k2 h1 c0 c1 c2 c3 c4 e0 e1 e2 fz; have c0 := h2.c0; have c1 := h2.c1; have c2 := h2.c2; have c3 := h2.c3; have c4 := h2.c4; have e0 := h2.e0; have e1 := h2.e1; have e2 := h2.e2; have fz := h2.fz))
  exact bodyPost_ret (v := placeV 4 (at' - 3) 0) (by simp [results, Tryd.results35, go_sem, e0, e1, e2]) rfl ⟨rfl, belowSets h2.bl (by omega) _ _ _⟩
set_option maxHeartbeats 2000000 in
theorem what_haz (s t f l p at' : Int) (h : okL s t f l p) (a0 : 3 + t ≤ at') (a1 : at' < sizeL s t f) (a2 : at' < 3 + t + 2 * t) (W : World) :
    Calls Tryd.prog 35 #[layV s t f l p, .int .i64 at'] W fun e w' => e = .returned (placeV 5 ((at' - (3 + t)) / 2) ((at' - (3 + t)) % 2)) ∧ Below W.heap.size W w' := by
  have bd := h.bd
  obtain ⟨⟨b1, b2⟩, ⟨b3, b4⟩, b5, b6⟩ := bd
  have S := Lib.hid (size_any s t f l p h)
  have H := Lib.hid (hazards_any s t f l p b3 b4)
  have L := Lib.hid (slots_any s t f l p b3 b4)
  have D := Lib.hid (width_any s t f l p b5 b6)
  have HK := Lib.hid (KW.start W s t f l p)
  clear h
  generalize sizeL s t f = n at S a1
  go_enter Tryd.func35, Tryd.ntmps35
  have k1 : True := trivial
  have k2 : True := trivial
  have k3 : True := trivial
  have k4 : True := trivial
  go_wp2_with (first
    | (go_at_call 44; have _k := k1; refine (S.out _).mono ?_; rintro e u1 ⟨rfl, hn⟩; have h1 := HK.out.next hn; clear hn k1; have c0 := h1.c0; have c1 := h1.c1; have c2 := h1.c2; have c3 := h1.c3; have c4 := h1.c4; have e0 := h1.e0; have e1 := h1.e1; have e2 := h1.e2; have fz := h1.fz)
    | (go_at_call 45; have _k := k2; refine (H.out _).mono ?_; rintro e u2 ⟨rfl, hn⟩; have h2 := h1.next hn; clear hn k2 h1 c0 c1 c2 c3 c4 e0 e1 e2 fz; have c0 := h2.c0; have c1 := h2.c1; have c2 := h2.c2; have c3 := h2.c3; have c4 := h2.c4; have e0 := h2.e0; have e1 := h2.e1; have e2 := h2.e2; have fz := h2.fz)
    | (go_at_call 46; have _k := k3; refine (L.out _).mono ?_; rintro e u3 ⟨rfl, hn⟩; have h3 := h2.next hn; clear hn k3 h2 c0 c1 c2 c3 c4 e0 e1 e2 fz; have c0 := h3.c0; have c1 := h3.c1; have c2 := h3.c2; have c3 := h3.c3; have c4 := h3.c4; have e0 := h3.e0; have e1 := h3.e1; have e2 := h3.e2; have fz := h3.fz)
    | (go_at_call 45; have _k := k4; refine (H.out _).mono ?_; rintro e u4 ⟨rfl, hn⟩; have h4 := h3.next hn; clear hn k4 h3 c0 c1 c2 c3 c4 e0 e1 e2 fz; have c0 := h4.c0; have c1 := h4.c1; have c2 := h4.c2; have c3 := h4.c3; have c4 := h4.c4; have e0 := h4.e0; have e1 := h4.e1; have e2 := h4.e2; have fz := h4.fz))
  exact bodyPost_ret (v := placeV 5 ((at' - (3 + t)) / 2) ((at' - (3 + t)) % 2)) (by simp [results, Tryd.results35, go_sem, e0, e1, e2]) rfl ⟨rfl, belowSets h4.bl (by omega) _ _ _⟩
set_option maxRecDepth 100000 in
set_option maxHeartbeats 2000000 in
theorem what_slot (s t f l p at' : Int) (h : okL s t f l p) (a0 : 3 + t + 2 * t ≤ at') (a1 : at' < sizeL s t f) (a2 : s ≠ 0) (W : World) :
    Calls Tryd.prog 35 #[layV s t f l p, .int .i64 at'] W fun e w' => e = .returned (pl3 (inS f ((at' - (3 + t + 2 * t)) / (3 + 2 * f)) ((at' - (3 + t + 2 * t)) % (3 + 2 * f)))) ∧ Below W.heap.size W w' := by
  have bd := h.bd
  obtain ⟨⟨b1, b2⟩, ⟨b3, b4⟩, b5, b6⟩ := bd
  have S := Lib.hid (size_any s t f l p h)
  have H := Lib.hid (hazards_any s t f l p b3 b4)
  have L := Lib.hid (slots_any s t f l p b3 b4)
  have D := Lib.hid (width_any s t f l p b5 b6)
  have HK := Lib.hid (KW.start W s t f l p)
  clear h
  have hs : sizeL s t f ≤ 200000 := by
    unfold sizeL
    rw [if_neg a2]
    obtain ⟨m1, m2⟩ := mul_bd (a := s + 1) (b := 3 + 2 * f) (x := 1001) (y := 131) (by omega) (by omega) (by omega) (by omega) (by omega)
    omega
  have hat : at' ≤ 200000 := by omega
  have hx : 0 ≤ at' - (3 + t + 2 * t) := by omega
  have hr0 := Int.emod_nonneg (at' - (3 + t + 2 * t)) (show (3 + 2 * f) ≠ 0 by omega)
  have hr1 := Int.emod_lt_of_pos (at' - (3 + t + 2 * t)) (show 0 < (3 + 2 * f) by omega)
  have hq0 : 0 ≤ (at' - (3 + t + 2 * t)) / (3 + 2 * f) := Int.ediv_nonneg hx (by omega)
  have I := Lib.hid (inSlot_any s t f l p ((at' - (3 + t + 2 * t)) / (3 + 2 * f)) ((at' - (3 + t + 2 * t)) % (3 + 2 * f)) b5 b6 hr0 (by omega))
  clear hs hr0 hr1 hq0 a2
  generalize sizeL s t f = n at S a1
  generalize inS f ((at' - (3 + t + 2 * t)) / (3 + 2 * f)) ((at' - (3 + t + 2 * t)) % (3 + 2 * f)) = res at I ⊢
  go_enter Tryd.func35, Tryd.ntmps35
  have k1 : True := trivial
  have k2 : True := trivial
  have k3 : True := trivial
  have k4 : True := trivial
  go_wp2_with (first
    | (go_at_call 44; have _k := k1; refine (S.out _).mono ?_; rintro e u1 ⟨rfl, hn⟩; have h1 := HK.out.next hn; clear hn k1; have c0 := h1.c0; have c1 := h1.c1; have c2 := h1.c2; have c3 := h1.c3; have c4 := h1.c4; have e0 := h1.e0; have e1 := h1.e1; have e2 := h1.e2; have fz := h1.fz)
    | (go_at_call 45; have _k := k2; refine (H.out _).mono ?_; rintro e u2 ⟨rfl, hn⟩; have h2 := h1.next hn; clear hn k2 h1 c0 c1 c2 c3 c4 e0 e1 e2 fz; have c0 := h2.c0; have c1 := h2.c1; have c2 := h2.c2; have c3 := h2.c3; have c4 := h2.c4; have e0 := h2.e0; have e1 := h2.e1; have e2 := h2.e2; have fz := h2.fz)
    | (go_at_call 46; have _k := k3; refine (L.out _).mono ?_; rintro e u3 ⟨rfl, hn⟩; have h3 := h2.next hn; clear hn k3 h2 c0 c1 c2 c3 c4 e0 e1 e2 fz; have c0 := h3.c0; have c1 := h3.c1; have c2 := h3.c2; have c3 := h3.c3; have c4 := h3.c4; have e0 := h3.e0; have e1 := h3.e1; have e2 := h3.e2; have fz := h3.fz)
    | (go_at_call 46; have _k := k4; refine (L.out _).mono ?_; rintro e u4 ⟨rfl, hn⟩; have h4 := h3.next hn; clear hn k4 h3 c0 c1 c2 c3 c4 e0 e1 e2 fz; have c0 := h4.c0; have c1 := h4.c1; have c2 := h4.c2; have c3 := h4.c3; have c4 := h4.c4; have e0 := h4.e0; have e1 := h4.e1; have e2 := h4.e2; have fz := h4.fz))
  have HD := Lib.hid h4.drew
  clear h4 c0 c1 c2 c3 c4 e0 e1 e2 fz
  have hd0 : ¬ 3 + 2 * f = 0 := by omega
  refine wp_region_class_tail (C := KW W.heap.size W W.heap.size s t f l p (W.heap.size + 1)) 10 (by kernel_rfl) (by kernel_rfl) (HD.out) ?_
  simp only [List.take_succ_cons, List.take_zero, List.drop_succ_cons, List.drop_zero]
  repeat (first
    | go_big_quiet_skip
    | (go_big_quiet_want; go_big_quiet_op; go_big_quiet_on)
    | (go_big_quiet_want; go_big_quiet_op; refine ⟨_, fun _ _ => rfl, ?_⟩; go_big_quiet_on)
    | (go_big_quiet_want
       apply quiet_mk
       · intro u hu
         have c0 := hu.c0; have c1 := hu.c1; have c2 := hu.c2; have c3 := hu.c3; have c4 := hu.c4
         have HU := Lib.hid hu
         clear hu
         go_simp
         first
           | with_reducible rfl
           | (go_at_call 48; refine (D.out _).mono ?_; rintro e w' ⟨rfl, hn⟩; exact ⟨rfl, HU.out.next hn⟩) | (go_at_call 47; refine (I.out _).mono ?_; rintro e w' ⟨rfl, hn⟩; exact ⟨rfl, HU.out.next hn⟩)
       simp only [Act.put, List.setIfInBounds_toArray, List.set_cons_zero, List.set_cons_succ]
       go_big_quiet_on))
  refine wpQuiet_nil ?_
  intro u hu
  have e0 := hu.e0
  have e1 := hu.e1
  have e2 := hu.e2
  have fz := hu.fz
  go_wp2
  exact bodyPost_ret (v := pl3 res) (by simp [results, Tryd.results35, go_sem, e0, e1, e2]) rfl ⟨rfl, belowSets hu.bl (by omega) _ _ _⟩
end Go.Proofs.YtcafhdemmchcaaaDoor
