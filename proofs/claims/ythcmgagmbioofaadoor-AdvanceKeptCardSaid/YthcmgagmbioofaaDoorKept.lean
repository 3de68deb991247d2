/- gleaningref08.Node and its kin, gleaningref10.New. -/
import Derived.Test.YthcmgagmbioofaaDoorMem7
import Derived.Test.YthcmgagmbioofaaDoorTells
namespace Go.Proofs.YthcmgagmbioofaaDoor
set_option linter.unusedVariables false
open Go.RowKit Go.Extern.Stop Go.Stop Go.Extern
/-- Where a slot's words begin. -/
def nodeI (t f x : Int) : Int := 3 + 3 * t + x * (3 + 2 * f)
theorem nodeI_bd {s t f l p x : Int} (h : okC s t f l p) (h0 : 0 ≤ x) (h1 : x ≤ s) : 0 ≤ nodeI t f x ∧ nodeI t f x + (3 + 2 * f) ≤ sizeL s t f ∧ sizeL s t f ≤ 200000 := by
  obtain ⟨⟨a1, a2⟩, ⟨b1, b2⟩, ⟨c1, c2⟩, _, _⟩ := h
  have hs : sizeL s t f = 3 + t + 2 * t + (s + 1) * (3 + 2 * f) := by unfold sizeL; rw [if_neg (by omega)]
  have m1 : 0 ≤ x * (3 + 2 * f) := Int.mul_nonneg h0 (by omega)
  have m2 : (x + 1) * (3 + 2 * f) ≤ (s + 1) * (3 + 2 * f) := Int.mul_le_mul_of_nonneg_right (by omega) (by omega)
  have m3 : (s + 1) * (3 + 2 * f) ≤ 1001 * 131 := Int.mul_le_mul (by omega) (by omega) (by omega) (by omega)
  have m4 : (x + 1) * (3 + 2 * f) = x * (3 + 2 * f) + (3 + 2 * f) := by rw [Int.add_mul, Int.one_mul]
  unfold nodeI
  rw [hs]
  omega
theorem rnode_any (s t f l p x : Int) (h : okC s t f l p) (h0 : 0 ≤ x) (h1 : x ≤ s) (W : World) :
    Calls Tryd.prog 60 #[cfgV s t f l p, .int .i64 x] W fun e w' => e = .returned (.int .i64 (nodeI t f x)) ∧ Below W.heap.size W w' := by
  have HB := Lib.hid (below1 W)
  have hb := nodeI_bd h h0 h1
  unfold nodeI at hb ⊢
  obtain ⟨⟨a1, a2⟩, ⟨b1, b2⟩, ⟨c1, c2⟩, _, _⟩ := h
  have hx : 0 ≤ x * (3 + 2 * f) := Int.mul_nonneg h0 (by omega)
  generalize sizeL s t f = z at hb
  go_enter Tryd.func60, Tryd.ntmps60
  go_wp2
  go_ret
  exact ⟨ret_i (by omega), HB.out _⟩
theorem rversion_any (s t f l p x : Int) (h : okC s t f l p) (h0 : 0 ≤ x) (h1 : x ≤ s) (W : World) :
    Calls Tryd.prog 45 #[cfgV s t f l p, .int .i64 x] W fun e w' => e = .returned (.int .i64 (nodeI t f x)) ∧ Below W.heap.size W w' := by
  have N := Lib.hid (rnode_any s t f l p x h h0 h1)
  have HB := Lib.hid (below1 W)
  generalize nodeI t f x = i at N ⊢
  clear h
  go_enter Tryd.func45, Tryd.ntmps45
  go_wp2_with (go_at_call 60; refine (N.out _).mono ?_; rintro e w1 ⟨rfl, hn⟩)
  go_ret
  exact ⟨rfl, (HB.out _).trans (hn.mono (by simp))⟩
theorem rshape_any (s t f l p x : Int) (h : okC s t f l p) (h0 : 0 ≤ x) (h1 : x ≤ s) (W : World) :
    Calls Tryd.prog 42 #[cfgV s t f l p, .int .i64 x] W fun e w' => e = .returned (.int .i64 (nodeI t f x + 1)) ∧ Below W.heap.size W w' := by
  have N := Lib.hid (rnode_any s t f l p x h h0 h1)
  have HB := Lib.hid (below1 W)
  have hb := nodeI_bd h h0 h1
  obtain ⟨_, _, ⟨c1, c2⟩, _, _⟩ := h
  generalize nodeI t f x = i at N hb ⊢
  generalize sizeL s t f = z at hb
  go_enter Tryd.func42, Tryd.ntmps42
  go_wp2_with (go_at_call 60; refine (N.out _).mono ?_; rintro e w1 ⟨rfl, hn⟩)
  go_ret
  exact ⟨ret_i (by omega), (HB.out _).trans (hn.mono (by simp))⟩
theorem rlink_any (s t f l p x : Int) (h : okC s t f l p) (h0 : 0 ≤ x) (h1 : x ≤ s) (W : World) :
    Calls Tryd.prog 46 #[cfgV s t f l p, .int .i64 x] W fun e w' => e = .returned (.int .i64 (nodeI t f x + 2)) ∧ Below W.heap.size W w' := by
  have N := Lib.hid (rnode_any s t f l p x h h0 h1)
  have HB := Lib.hid (below1 W)
  have hb := nodeI_bd h h0 h1
  obtain ⟨_, _, ⟨c1, c2⟩, _, _⟩ := h
  generalize nodeI t f x = i at N hb ⊢
  generalize sizeL s t f = z at hb
  go_enter Tryd.func46, Tryd.ntmps46
  go_wp2_with (go_at_call 60; refine (N.out _).mono ?_; rintro e w1 ⟨rfl, hn⟩)
  go_ret
  exact ⟨ret_i (by omega), (HB.out _).trans (hn.mono (by simp))⟩
theorem K5.drewV {B : Nat} {w0 : World} {g : Nat} {s t f l p : Int} {W : World} (h : K5 B w0 g s t f l p W) : K5 B w0 g s t f l p W.drew := ⟨h.c0, h.c1, h.c2, h.c3, h.c4, h.bl.drew, h.le⟩
theorem rval0_any (s t f l p : Int) (h : okC s t f l p) (W : World) :
    Calls Tryd.prog 43 #[cfgV s t f l p, .int .i64 0, .int .i64 0] W fun e w' => e = .returned (.int .i64 (nodeI t f 0 + 3 + f)) ∧ Below W.heap.size W w' := by
  have N := Lib.hid (rnode_any s t f l p 0 h (by omega) (by have := h.1.1; omega))
  have hk : K5 W.heap.size W W.heap.size s t f l p (W.alloc (.cells #[.int .i64 s, .int .i64 t, .int .i64 f, .int .i64 l, .int .i64 p] 23)) := ⟨by simp, by simp, by simp, by simp, by simp, below1 _ _, by simp⟩
  have HK := Lib.hid hk.drewV
  have hb := nodeI_bd (x := 0) h (by omega) (by have := h.1.1; omega)
  obtain ⟨_, _, ⟨c1, c2⟩, _, _⟩ := h
  clear hk
  generalize nodeI t f 0 = i at N hb ⊢
  generalize sizeL s t f = z at hb
  go_enter Tryd.func43, Tryd.ntmps43
  go_wp2
  refine wp_region_class (C := K5 W.heap.size W W.heap.size s t f l p) (by kernel_rfl) (by kernel_rfl) (HK.out) ?_
  repeat (first
    | go_big_quiet_skip
    | (go_big_quiet_want; go_big_quiet_op; go_big_quiet_on)
    | (go_big_quiet_want; go_big_quiet_op; refine ⟨_, fun _ _ => rfl, ?_⟩; go_big_quiet_on)
    | (go_big_quiet_want
       apply quiet_mk
       · intro u hu
         have c0 := hu.c0; have c1 := hu.c1; have c2 := hu.c2; have c3 := hu.c3; have c4 := hu.c4
         have HU := Lib.hid hu
         clear hu
         go_simp
         first
           | with_reducible rfl
           | (go_at_call 60; refine (N.out _).mono ?_; rintro e w' ⟨rfl, hn⟩; exact ⟨rfl, HU.out.next hn⟩)
       simp only [Act.put, List.setIfInBounds_toArray, List.set_cons_zero, List.set_cons_succ]
       go_big_quiet_on))
  refine wpQuiet_nil ?_
  intro u hu
  have HB := Lib.hid hu.bl
  clear hu HK
  go_wp2
  go_ret
  exact ⟨ret_i (by omega), HB.out⟩
end Go.Proofs.YthcmgagmbioofaaDoor
