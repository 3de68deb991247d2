/- layout.New, hazards, slots, width, Size, in, first, ofThread, ofSlot, At. -/
import Derived.Test.YthcmgagmbioofaaDoorConf2
import Derived.Test.YthcmgagmbioofaaDoorTail
namespace Go.Proofs.YthcmgagmbioofaaDoor
set_option linter.unusedVariables false
open Go.RowKit Go.Extern.Stop Go.Stop Go.Extern

/-- A struct of one struct lies flat. -/
abbrev layV (s t f l p : Int) : Value := .agg #[.int .i64 s, .int .i64 t, .int .i64 f, .int .i64 l, .int .i64 p]
theorem new_yes (s t f l p : Int) (W : World) (hG : GL W) (h : okC s t f l p) :
    Calls Tryd.prog 8 #[cfgV s t f l p] W fun e w' => e = .returned (layV s t f l p) ∧ Below W.heap.size W w' := by
  have hb0 : Below W.heap.size W ((W.alloc (.cells #[.int .i64 s, .int .i64 t, .int .i64 f, .int .i64 l, .int .i64 p] 23)).alloc (.cells #[.int .i64 0, .int .i64 0, .int .i64 0, .int .i64 0, .int .i64 0] 27)) := ((Below.refl _ _).alloc (Nat.le_refl _) _).alloc (by simp) _
  have R := right_any s t f l p _ (hG.next hb0)
  have e : okB s t f l p = true := by unfold okB; exact decide_eq_true h
  rw [e] at R
  have R := Lib.hid R
  have HB := Lib.hid hb0
  clear h hb0 hG e
  go_enter Tryd.func8, Tryd.ntmps8
  go_wp2_with (go_at_call 29; refine R.out.mono ?_; rintro e w1 ⟨rfl, h1⟩; have H1 := Lib.hid (HB.out.trans (h1.mono HB.out.size)); obtain ⟨hc, hf⟩ := (⟨fun b o h => h1.cell (p := ⟨b, o, none⟩) h, fun b o h => h1.frozen (p := ⟨b, o, none⟩) h⟩ : (∀ b o, b < ((W.alloc (.cells #[.int .i64 s, .int .i64 t, .int .i64 f, .int .i64 l, .int .i64 p] 23)).alloc (.cells #[.int .i64 0, .int .i64 0, .int .i64 0, .int .i64 0, .int .i64 0] 27)).heap.size → w1.cell? ⟨b, o, none⟩ = _) ∧ (∀ b o, b < _ → w1.frozen? ⟨b, o, none⟩ = _)); clear h1)
  exact bodyPost_ret (v := layV s t f l p) (by simp [results, Tryd.results8, go_sem, hc]) rfl ⟨rfl, by repeat (first | exact H1.out | exact Nat.le_refl _ | (refine Below.setCell ?_ (by simp) _))⟩
theorem new_no (s t f l p : Int) (W : World) (hG : GL W) (h : ¬ okC s t f l p) :
    Calls Tryd.prog 8 #[cfgV s t f l p] W fun e w' => e = .returned (layV 0 0 0 0 0) ∧ Below W.heap.size W w' := by
  have hb0 : Below W.heap.size W ((W.alloc (.cells #[.int .i64 s, .int .i64 t, .int .i64 f, .int .i64 l, .int .i64 p] 23)).alloc (.cells #[.int .i64 0, .int .i64 0, .int .i64 0, .int .i64 0, .int .i64 0] 27)) := ((Below.refl _ _).alloc (Nat.le_refl _) _).alloc (by simp) _
  have R := right_any s t f l p _ (hG.next hb0)
  have e : okB s t f l p = false := by unfold okB; exact decide_eq_false h
  rw [e] at R
  have R := Lib.hid R
  have HB := Lib.hid hb0
  clear h hb0 hG e
  go_enter Tryd.func8, Tryd.ntmps8
  go_wp2_with (go_at_call 29; refine R.out.mono ?_; rintro e w1 ⟨rfl, h1⟩; have H1 := Lib.hid (HB.out.trans (h1.mono HB.out.size)); obtain ⟨hc, hf⟩ := (⟨fun b o h => h1.cell (p := ⟨b, o, none⟩) h, fun b o h => h1.frozen (p := ⟨b, o, none⟩) h⟩ : (∀ b o, b < ((W.alloc (.cells #[.int .i64 s, .int .i64 t, .int .i64 f, .int .i64 l, .int .i64 p] 23)).alloc (.cells #[.int .i64 0, .int .i64 0, .int .i64 0, .int .i64 0, .int .i64 0] 27)).heap.size → w1.cell? ⟨b, o, none⟩ = _) ∧ (∀ b o, b < _ → w1.frozen? ⟨b, o, none⟩ = _)); clear h1)
  exact bodyPost_ret (v := layV 0 0 0 0 0) (by simp [results, Tryd.results8, go_sem, hc]) rfl ⟨rfl, by repeat (first | exact H1.out | exact Nat.le_refl _ | (refine Below.setCell ?_ (by simp) _))⟩

/-- What a layout's numbers may be: those of a configuration that may be, or none. -/
def okL (s t f l p : Int) : Prop := okC s t f l p ∨ (s = 0 ∧ t = 0 ∧ f = 0 ∧ l = 0 ∧ p = 0)
theorem okL.bd {s t f l p : Int} (h : okL s t f l p) : (0 ≤ s ∧ s ≤ 1000) ∧ (0 ≤ t ∧ t ≤ 64) ∧ (0 ≤ f ∧ f ≤ 64) := by
  rcases h with ⟨h1, h2, h3, h4, h5⟩ | ⟨rfl, rfl, rfl, rfl, rfl⟩ <;> omega
theorem hazards_any (s t f l p : Int) (h : 0 ≤ t) (h2 : t ≤ 64) (W : World) :
    Calls Tryd.prog 63 #[layV s t f l p] W fun e w' => e = .returned (.int .i64 (3 + t)) ∧ Below W.heap.size W w' := by
  go_enter Tryd.func63, Tryd.ntmps63
  go_wp2
  go_ret
  exact ⟨rfl, (Below.refl _ _).alloc (Nat.le_refl _) _⟩
theorem width_any (s t f l p : Int) (h : 0 ≤ f) (h2 : f ≤ 64) (W : World) :
    Calls Tryd.prog 65 #[layV s t f l p] W fun e w' => e = .returned (.int .i64 (3 + 2 * f)) ∧ Below W.heap.size W w' := by
  go_enter Tryd.func65, Tryd.ntmps65
  go_wp2
  go_ret
  exact ⟨rfl, (Below.refl _ _).alloc (Nat.le_refl _) _⟩
/-- The class: what five cells hold, and that nothing else has turned. -/
structure K5 (B : Nat) (w0 : World) (g : Nat) (s t f l p : Int) (W : World) : Prop where
  c0 : W.cell? ⟨g, 0, none⟩ = some (.int .i64 s)
  c1 : W.cell? ⟨g, 1, none⟩ = some (.int .i64 t)
  c2 : W.cell? ⟨g, 2, none⟩ = some (.int .i64 f)
  c3 : W.cell? ⟨g, 3, none⟩ = some (.int .i64 l)
  c4 : W.cell? ⟨g, 4, none⟩ = some (.int .i64 p)
  bl : Below B w0 W
  le : B ≤ W.heap.size
theorem K5.next {B : Nat} {w0 : World} {g : Nat} {s t f l p : Int} {W W' : World} (h : K5 B w0 g s t f l p W) (hb : Below W.heap.size W W') : K5 B w0 g s t f l p W' := by
  have c : ∀ i, W'.cell? ⟨g, i, none⟩ = W.cell? ⟨g, i, none⟩ := fun i => hb.cell (p := ⟨g, i, none⟩) (show g < W.heap.size from World.block_lt_of_cell? W _ h.c0)
  exact ⟨(c _).trans h.c0, (c _).trans h.c1, (c _).trans h.c2, (c _).trans h.c3, (c _).trans h.c4, h.bl.trans (hb.mono h.le), Nat.le_trans h.le hb.size⟩
set_option maxHeartbeats 1000000 in
theorem slots_any (s t f l p : Int) (h : 0 ≤ t) (h2 : t ≤ 64) (W : World) :
    Calls Tryd.prog 64 #[layV s t f l p] W fun e w' => e = .returned (.int .i64 (3 + t + 2 * t)) ∧ Below W.heap.size W w' := by
  have H := Lib.hid (hazards_any s t f l p h h2)
  have k : K5 W.heap.size W W.heap.size s t f l p (W.alloc (.cells #[.int .i64 s, .int .i64 t, .int .i64 f, .int .i64 l, .int .i64 p] 27)).drew := ⟨by simp, by simp, by simp, by simp, by simp, ((Below.refl _ _).alloc (Nat.le_refl _) _).drew, by simp⟩
  have HK := Lib.hid k
  clear k
  go_enter Tryd.func64, Tryd.ntmps64
  go_wp2
  have e1 : IntKind.i64.wrap (2 * t) = 2 * t := IntWalk.i64_in _ (by omega)
  have e2 : IntKind.i64.wrap (3 + t + 2 * t) = 3 + t + 2 * t := IntWalk.i64_in _ (by omega)
  refine wp_region_class (C := K5 W.heap.size W W.heap.size s t f l p) (by kernel_rfl) (by kernel_rfl) (HK.out) ?_
  repeat (first
    | go_big_quiet_skip
    | (go_big_quiet_want; go_big_quiet_op; go_big_quiet_on)
    | (go_big_quiet_want; go_big_quiet_op; refine ⟨_, fun _ _ => rfl, ?_⟩; go_big_quiet_on)
    | (go_big_quiet_want
       apply quiet_mk
       · intro u hu
         have c0 := hu.c0; have c1 := hu.c1; have c2 := hu.c2; have c3 := hu.c3; have c4 := hu.c4
         have HU := Lib.hid hu
         clear hu
         go_simp
         first
           | with_reducible rfl
           | (go_at_call 63; refine (H.out _).mono ?_; rintro e w' ⟨rfl, hn⟩; exact ⟨rfl, HU.out.next hn⟩)
       simp only [Act.put, List.setIfInBounds_toArray, List.set_cons_zero, List.set_cons_succ]
       go_big_quiet_on))
  refine wpQuiet_nil ?_
  intro u hu
  go_wp2
  go_ret
  exact ⟨rfl, hu.bl⟩
end Go.Proofs.YthcmgagmbioofaaDoor
