/- layout.Layout.Config, What at every number; the place's word. -/
import Derived.Test.YthcmgagmbioofaaDoorTell
namespace Go.Proofs.YthcmgagmbioofaaDoor
set_option linter.unusedVariables false
open Go.RowKit Go.Extern.Stop Go.Stop Go.Extern
theorem config_any (s t f l p : Int) (W : World) :
    Calls Tryd.prog 57 #[layV s t f l p] W fun e w' => e = .returned (cfgV s t f l p) ∧ Below W.heap.size W w' := by
  have hB := Lib.hid (below2 W)
  go_enter Tryd.func57, Tryd.ntmps57
  go_wp2
  exact bodyPost_ret (v := cfgV s t f l p) (by simp [results, Tryd.results57, go_sem]) rfl ⟨rfl, by repeat (first | exact hB.out _ _ | exact Nat.le_refl _ | (refine Below.setCell ?_ (by simp) _))⟩
/-- The word of a word's place is that word. -/
theorem what_at {s t f at' : Int} (hs : 1 ≤ s) (ht : 1 ≤ t) (hf : 4 ≤ f) (h0 : 0 ≤ at') (h1 : at' < sizeL s t f) :
    (whatL s t f at').1 ≠ 0 ∧ atL s t f (whatL s t f at').1 (whatL s t f at').2.1 (whatL s t f at').2.2 = at' := by
  have n1 : ¬ (at' < 0 ∨ sizeL s t f ≤ at') := by omega
  have hs0 : s ≠ 0 := by omega
  have hsz : sizeL s t f = 3 + t + 2 * t + (s + 1) * (3 + 2 * f) := by unfold sizeL; rw [if_neg hs0]
  by_cases a2 : at' < 3
  · have e : whatL s t f at' = (at' + 1, 0, 0) := by unfold whatL; rw [if_neg n1, if_pos a2]
    rw [e]; refine ⟨by show at' + 1 ≠ 0; omega, ?_⟩
    show atL s t f (at' + 1) 0 0 = at'
    unfold atL; rw [if_pos (by omega), if_neg (by omega)]; omega
  by_cases a3 : at' < 3 + t
  · have e : whatL s t f at' = (4, at' - 3, 0) := by unfold whatL; rw [if_neg n1, if_neg a2, if_pos a3]
    rw [e]; refine ⟨by show (4 : Int) ≠ 0; omega, ?_⟩
    show atL s t f 4 (at' - 3) 0 = at'
    unfold atL; rw [if_neg (by omega), if_pos rfl, if_neg (by omega)]; omega
  by_cases a4 : at' < 3 + t + 2 * t
  · have e : whatL s t f at' = (5, (at' - (3 + t)) / 2, (at' - (3 + t)) % 2) := by unfold whatL; rw [if_neg n1, if_neg a2, if_neg a3, if_pos a4]
    rw [e]; refine ⟨by show (5 : Int) ≠ 0; omega, ?_⟩
    show atL s t f 5 ((at' - (3 + t)) / 2) ((at' - (3 + t)) % 2) = at'
    unfold atL; rw [if_neg (by omega), if_neg (by omega), if_pos rfl, if_neg (by omega)]; omega
  have hd := Int.emod_add_mul_ediv (at' - (3 + t + 2 * t)) (3 + 2 * f)
  have hr0 := Int.emod_nonneg (at' - (3 + t + 2 * t)) (show (3 + 2 * f) ≠ 0 by omega)
  have hr1 := Int.emod_lt_of_pos (at' - (3 + t + 2 * t)) (show 0 < (3 + 2 * f) by omega)
  have hq0 : 0 ≤ (at' - (3 + t + 2 * t)) / (3 + 2 * f) := Int.ediv_nonneg (by omega) (by omega)
  have hq1 : (at' - (3 + t + 2 * t)) / (3 + 2 * f) < s + 1 := Int.ediv_lt_of_lt_mul (by omega) (by omega)
  have e : whatL s t f at' = inS f ((at' - (3 + t + 2 * t)) / (3 + 2 * f)) ((at' - (3 + t + 2 * t)) % (3 + 2 * f)) := by
    unfold whatL inS; rw [if_neg n1, if_neg a2, if_neg a3, if_neg a4]
  rw [e]
  generalize (at' - (3 + t + 2 * t)) % (3 + 2 * f) = r at *
  generalize (at' - (3 + t + 2 * t)) / (3 + 2 * f) = q at *
  have hm : q * (3 + 2 * f) = (3 + 2 * f) * q := Int.mul_comm _ _
  generalize (3 + 2 * f) * q = m at *
  unfold inS
  by_cases b3 : r < 3
  · rw [if_pos b3]; refine ⟨by show 6 + r ≠ 0; omega, ?_⟩
    show atL s t f (6 + r) q 0 = at'
    unfold atL
    rw [if_neg (by omega), if_neg (by omega), if_neg (by omega), if_pos (by omega), if_neg (show ¬ (6 + r = 9 ∨ 6 + r = 10) by omega), if_neg (by omega), hm]
    have hi : inL f (6 + r) = r := by
      unfold inL
      have : r = 0 ∨ r = 1 ∨ r = 2 := by omega
      rcases this with rfl | rfl | rfl <;> rfl
    rw [hi]; omega
  · rw [if_neg b3]
    by_cases b4 : r < 3 + f
    · rw [if_pos b4]; refine ⟨by show (9 : Int) ≠ 0; omega, ?_⟩
      show atL s t f 9 q (r - 3) = at'
      unfold atL
      rw [if_neg (by omega), if_neg (by omega), if_neg (by omega), if_pos (by omega), if_pos (show ((9:Int) = 9 ∨ (9:Int) = 10) by omega), if_neg (by omega), hm]
      have hi : inL f 9 = 3 := rfl
      rw [hi]; omega
    · rw [if_neg b4]; refine ⟨by show (10 : Int) ≠ 0; omega, ?_⟩
      show atL s t f 10 q (r - 3 - f) = at'
      unfold atL
      rw [if_neg (by omega), if_neg (by omega), if_neg (by omega), if_pos (by omega), if_pos (show ((10:Int) = 9 ∨ (10:Int) = 10) by omega), if_neg (by omega), hm]
      have hi : inL f 10 = 3 + f := rfl
      rw [hi]; omega
theorem what_out {s t f at' : Int} (h : at' < 0 ∨ sizeL s t f ≤ at') : whatL s t f at' = (0, 0, 0) := by unfold whatL; rw [if_pos h]
/-- Two blocks of five. -/
structure KD (B : Nat) (w0 : World) (g : Nat) (s t f l p : Int) (q : Nat) (s' t' f' l' p' : Int) (W : World) : Prop extends K5 B w0 g s t f l p W where
  e0 : W.cell? ⟨q, 0, none⟩ = some (.int .i64 s')
  e1 : W.cell? ⟨q, 1, none⟩ = some (.int .i64 t')
  e2 : W.cell? ⟨q, 2, none⟩ = some (.int .i64 f')
  e3 : W.cell? ⟨q, 3, none⟩ = some (.int .i64 l')
  e4 : W.cell? ⟨q, 4, none⟩ = some (.int .i64 p')
theorem KD.next {B : Nat} {w0 : World} {g : Nat} {s t f l p : Int} {q : Nat} {s' t' f' l' p' : Int} {W W' : World} (h : KD B w0 g s t f l p q s' t' f' l' p' W) (hb : Below W.heap.size W W') : KD B w0 g s t f l p q s' t' f' l' p' W' := by
  have c : ∀ j, W'.cell? ⟨q, j, none⟩ = W.cell? ⟨q, j, none⟩ := fun j => hb.cell (p := ⟨q, j, none⟩) (show q < W.heap.size from World.block_lt_of_cell? W _ h.e0)
  exact ⟨h.toK5.next hb, (c _).trans h.e0, (c _).trans h.e1, (c _).trans h.e2, (c _).trans h.e3, (c _).trans h.e4⟩
theorem KD.drew {B : Nat} {w0 : World} {g : Nat} {s t f l p : Int} {q : Nat} {s' t' f' l' p' : Int} {W : World} (h : KD B w0 g s t f l p q s' t' f' l' p' W) : KD B w0 g s t f l p q s' t' f' l' p' W.drew :=
  ⟨⟨h.c0, h.c1, h.c2, h.c3, h.c4, h.bl.drew, h.le⟩, h.e0, h.e1, h.e2, h.e3, h.e4⟩
theorem KD.start {B : Nat} {w0 : World} {g : Nat} {s t f l p : Int} {W : World} (h : K5 B w0 g s t f l p W) (s' t' f' l' p' : Int) (ty : Nat) : KD B w0 g s t f l p W.heap.size s' t' f' l' p' (W.alloc (.cells #[.int .i64 s', .int .i64 t', .int .i64 f', .int .i64 l', .int .i64 p'] ty)) :=
  ⟨h.next (below1 _ _), by simp, by simp, by simp, by simp, by simp⟩
/-- And a place's. -/
structure KP (B : Nat) (w0 : World) (g : Nat) (s t f l p : Int) (q : Nat) (s' t' f' l' p' : Int) (r : Nat) (k o i : Int) (W : World) : Prop extends KD B w0 g s t f l p q s' t' f' l' p' W where
  d0 : W.cell? ⟨r, 0, none⟩ = some (.int .i64 k)
  d1 : W.cell? ⟨r, 1, none⟩ = some (.int .i64 o)
  d2 : W.cell? ⟨r, 2, none⟩ = some (.int .i64 i)
theorem KP.next {B : Nat} {w0 : World} {g : Nat} {s t f l p : Int} {q : Nat} {s' t' f' l' p' : Int} {r : Nat} {k o i : Int} {W W' : World} (h : KP B w0 g s t f l p q s' t' f' l' p' r k o i W) (hb : Below W.heap.size W W') : KP B w0 g s t f l p q s' t' f' l' p' r k o i W' := by
  have c : ∀ j, W'.cell? ⟨r, j, none⟩ = W.cell? ⟨r, j, none⟩ := fun j => hb.cell (p := ⟨r, j, none⟩) (show r < W.heap.size from World.block_lt_of_cell? W _ h.d0)
  exact ⟨h.toKD.next hb, (c _).trans h.d0, (c _).trans h.d1, (c _).trans h.d2⟩
theorem KP.drew {B : Nat} {w0 : World} {g : Nat} {s t f l p : Int} {q : Nat} {s' t' f' l' p' : Int} {r : Nat} {k o i : Int} {W : World} (h : KP B w0 g s t f l p q s' t' f' l' p' r k o i W) : KP B w0 g s t f l p q s' t' f' l' p' r k o i W.drew := ⟨h.toKD.drew, h.d0, h.d1, h.d2⟩
theorem KP.start {B : Nat} {w0 : World} {g : Nat} {s t f l p : Int} {q : Nat} {s' t' f' l' p' : Int} {W : World} (h : KD B w0 g s t f l p q s' t' f' l' p' W) (k o i : Int) (ty : Nat) : KP B w0 g s t f l p q s' t' f' l' p' W.heap.size k o i (W.alloc (.cells #[.int .i64 k, .int .i64 o, .int .i64 i] ty)) :=
  ⟨h.next (below1 _ _), by simp, by simp, by simp⟩
end Go.Proofs.YthcmgagmbioofaaDoor
