/- gleaninglaw08.LayoutAsks: for every input the law returns true, and leaves its arguments as they were. The package-level variables that it reads hold what the program's text lays in them (a tied card); no other condition. -/
import Derived.Test.YtcdmcnncigfclaaDoorRows
import Derived.WalkKit
import Derived.Test.YtcdmcnncigfclaaDoorCards
import Derived.Test.YtcdmcnncigfclaaDoorTie
import Derived.Test.YtcdmcnncigfclaaDoorLaid
import Derived.SevenTiedAt
import Derived.Test.YtcdmcnncigfclaaDoorOpen
import Derived.Test.YtcdmcnncigfclaaDoorWhat
import Derived.Test.YtcdmcnncigfclaaDoorFrame
import Derived.ProofKit
import Derived.OpenShut
namespace Go.Proofs.YtcdmcnncigfclaaDoor.layoutAsks
open Go.ChangeShapes Go.WideShapes Go.ChangeAt Go.RowKit
set_option linter.unusedVariables false

theorem own : ownKnob Tryd.prog.godebug = none := by kernel_rfl
theorem laidOut : laidOutB Tryd.prog = true := by kernel_rfl
theorem atBd {s t f k o i : Int} (h : atL s t f k o i = -1) : ∀ W : World, ∀ l p : Int, okL s t f l p → Calls Tryd.prog 22 #[layV s t f l p, placeV k o i] W fun e w' => e = .returned (.int .i64 (-1)) ∧ Below W.heap.size W w' := fun W l p hl => by
  have := at_any s t f l p k o i hl W
  rw [h] at this
  exact this
set_option maxRecDepth 100000 in
set_option maxHeartbeats 4000000 in
theorem no_klo (w : World) (hG : GL w) (s t f l p k o i : Int) (ok : okC s t f l p) (hat : atL s t f k o i = -1) (q0 : k < 1) :
    Calls Tryd.prog 6 #[cfgV s t f l p, placeV k o i] w fun e w' => e = .returned (.bool true) ∧ Below w.heap.size w w' := by
  have B2 := below2 w (.cells #[.int .i64 s, .int .i64 t, .int .i64 f, .int .i64 l, .int .i64 p] 23) (.cells #[.int .i64 k, .int .i64 o, .int .i64 i] 40)
  have k0 : K8 w.heap.size w w.heap.size s t f l p (w.heap.size + 1) k o i ((w.alloc (.cells #[.int .i64 s, .int .i64 t, .int .i64 f, .int .i64 l, .int .i64 p] 23)).alloc (.cells #[.int .i64 k, .int .i64 o, .int .i64 i] 40)) := ⟨⟨by simp, by simp, by simp, by simp, by simp, B2, by simp; omega⟩, by simp, by simp, by simp⟩
  have HK := Lib.hid k0
  have HG := Lib.hid hG
  have AW := Lib.hid awake8_any
  have hG2 := hG.next B2
  have N := Lib.hid (new_yes s t f l p _ hG2 ok)
  have T := Lib.hid (fun W => atBd hat W l p (.inl ok))
  have RW := Lib.hid (rwrong_yes s t f l p ok)
  obtain ⟨⟨a1, a2⟩, ⟨a3, a4⟩, ⟨a5, a6⟩, a7, a8⟩ := ok
  clear hat hG hG2 B2 k0 a7 a8
  go_enter Tryd.func6, Tryd.ntmps6
  go_wp2_with (first
    | (go_at_call 17; refine N.out.mono ?_; rintro e u1 ⟨rfl, hn⟩; have h1 := HK.out.next hn; clear hn; have d0 := h1.d0; have d1 := h1.d1; have d2 := h1.d2; have z1 : w.heap.size + 1 < u1.heap.size := World.block_lt_of_cell? u1 _ d0; have z0 : w.heap.size < u1.heap.size := by omega)
    | (go_at_call 22; refine (T.out _).mono ?_; rintro e u2 ⟨rfl, hn⟩; have h2 := (h1.next (below1 _ _)).next hn; clear hn h1 d0 d1 d2 z0 z1; have c0 := h2.c0; have c1 := h2.c1; have c2 := h2.c2; have c3 := h2.c3; have c4 := h2.c4)
    | (go_at_call 10; refine (RW.out _).mono ?_; rintro e u3 ⟨rfl, hn⟩; have h3 := h2.next hn; clear hn h2 c0 c1 c2 c3 c4; have c0 := h3.c0; have c1 := h3.c1; have c2 := h3.c2; have d0 := h3.d0; have d1 := h3.d1; have d2 := h3.d2; have BL := Lib.hid h3.bl; have LE := Lib.hid h3.le; clear h3)
    | (go_at_call 24; refine (PL.out _).mono ?_; rintro e u3 ⟨rfl, hn⟩; have h3 := h2.next hn; clear hn h2 c0 c1 c2 c3 c4; have d0 := h3.d0; have d1 := h3.d1; have d2 := h3.d2; have BL := Lib.hid h3.bl; have LE := Lib.hid h3.le; clear h3)
    | (go_at_call 23; refine (AW.out _ (HG.out.next BL.out)).mono ?_; rintro e u4 ⟨rfl, h4⟩))
  go_ret
  exact ⟨rfl, BL.out.trans (h4.mono LE.out)⟩
set_option maxRecDepth 100000 in
set_option maxHeartbeats 4000000 in
theorem no_khi (w : World) (hG : GL w) (s t f l p k o i : Int) (ok : okC s t f l p) (hat : atL s t f k o i = -1) (q0 : 10 < k) :
    Calls Tryd.prog 6 #[cfgV s t f l p, placeV k o i] w fun e w' => e = .returned (.bool true) ∧ Below w.heap.size w w' := by
  have B2 := below2 w (.cells #[.int .i64 s, .int .i64 t, .int .i64 f, .int .i64 l, .int .i64 p] 23) (.cells #[.int .i64 k, .int .i64 o, .int .i64 i] 40)
  have k0 : K8 w.heap.size w w.heap.size s t f l p (w.heap.size + 1) k o i ((w.alloc (.cells #[.int .i64 s, .int .i64 t, .int .i64 f, .int .i64 l, .int .i64 p] 23)).alloc (.cells #[.int .i64 k, .int .i64 o, .int .i64 i] 40)) := ⟨⟨by simp, by simp, by simp, by simp, by simp, B2, by simp; omega⟩, by simp, by simp, by simp⟩
  have HK := Lib.hid k0
  have HG := Lib.hid hG
  have AW := Lib.hid awake8_any
  have hG2 := hG.next B2
  have N := Lib.hid (new_yes s t f l p _ hG2 ok)
  have T := Lib.hid (fun W => atBd hat W l p (.inl ok))
  have RW := Lib.hid (rwrong_yes s t f l p ok)
  obtain ⟨⟨a1, a2⟩, ⟨a3, a4⟩, ⟨a5, a6⟩, a7, a8⟩ := ok
  clear hat hG hG2 B2 k0 a7 a8
  go_enter Tryd.func6, Tryd.ntmps6
  go_wp2_with (first
    | (go_at_call 17; refine N.out.mono ?_; rintro e u1 ⟨rfl, hn⟩; have h1 := HK.out.next hn; clear hn; have d0 := h1.d0; have d1 := h1.d1; have d2 := h1.d2; have z1 : w.heap.size + 1 < u1.heap.size := World.block_lt_of_cell? u1 _ d0; have z0 : w.heap.size < u1.heap.size := by omega)
    | (go_at_call 22; refine (T.out _).mono ?_; rintro e u2 ⟨rfl, hn⟩; have h2 := (h1.next (below1 _ _)).next hn; clear hn h1 d0 d1 d2 z0 z1; have c0 := h2.c0; have c1 := h2.c1; have c2 := h2.c2; have c3 := h2.c3; have c4 := h2.c4)
    | (go_at_call 10; refine (RW.out _).mono ?_; rintro e u3 ⟨rfl, hn⟩; have h3 := h2.next hn; clear hn h2 c0 c1 c2 c3 c4; have c0 := h3.c0; have c1 := h3.c1; have c2 := h3.c2; have d0 := h3.d0; have d1 := h3.d1; have d2 := h3.d2; have BL := Lib.hid h3.bl; have LE := Lib.hid h3.le; clear h3)
    | (go_at_call 24; refine (PL.out _).mono ?_; rintro e u3 ⟨rfl, hn⟩; have h3 := h2.next hn; clear hn h2 c0 c1 c2 c3 c4; have d0 := h3.d0; have d1 := h3.d1; have d2 := h3.d2; have BL := Lib.hid h3.bl; have LE := Lib.hid h3.le; clear h3)
    | (go_at_call 23; refine (AW.out _ (HG.out.next BL.out)).mono ?_; rintro e u4 ⟨rfl, h4⟩))
  go_ret
  exact ⟨rfl, BL.out.trans (h4.mono LE.out)⟩
set_option maxRecDepth 100000 in
set_option maxHeartbeats 4000000 in
theorem no_first1 (w : World) (hG : GL w) (s t f l p k o i : Int) (ok : okC s t f l p) (hat : atL s t f k o i = -1) (q0 : 1 ≤ k) (q1 : k ≤ 3) (q2 : o < 0) :
    Calls Tryd.prog 6 #[cfgV s t f l p, placeV k o i] w fun e w' => e = .returned (.bool true) ∧ Below w.heap.size w w' := by
  have B2 := below2 w (.cells #[.int .i64 s, .int .i64 t, .int .i64 f, .int .i64 l, .int .i64 p] 23) (.cells #[.int .i64 k, .int .i64 o, .int .i64 i] 40)
  have k0 : K8 w.heap.size w w.heap.size s t f l p (w.heap.size + 1) k o i ((w.alloc (.cells #[.int .i64 s, .int .i64 t, .int .i64 f, .int .i64 l, .int .i64 p] 23)).alloc (.cells #[.int .i64 k, .int .i64 o, .int .i64 i] 40)) := ⟨⟨by simp, by simp, by simp, by simp, by simp, B2, by simp; omega⟩, by simp, by simp, by simp⟩
  have HK := Lib.hid k0
  have HG := Lib.hid hG
  have AW := Lib.hid awake8_any
  have hG2 := hG.next B2
  have N := Lib.hid (new_yes s t f l p _ hG2 ok)
  have T := Lib.hid (fun W => atBd hat W l p (.inl ok))
  have RW := Lib.hid (rwrong_yes s t f l p ok)
  obtain ⟨⟨a1, a2⟩, ⟨a3, a4⟩, ⟨a5, a6⟩, a7, a8⟩ := ok
  clear hat hG hG2 B2 k0 a7 a8
  go_enter Tryd.func6, Tryd.ntmps6
  go_wp2_with (first
    | (go_at_call 17; refine N.out.mono ?_; rintro e u1 ⟨rfl, hn⟩; have h1 := HK.out.next hn; clear hn; have d0 := h1.d0; have d1 := h1.d1; have d2 := h1.d2; have z1 : w.heap.size + 1 < u1.heap.size := World.block_lt_of_cell? u1 _ d0; have z0 : w.heap.size < u1.heap.size := by omega)
    | (go_at_call 22; refine (T.out _).mono ?_; rintro e u2 ⟨rfl, hn⟩; have h2 := (h1.next (below1 _ _)).next hn; clear hn h1 d0 d1 d2 z0 z1; have c0 := h2.c0; have c1 := h2.c1; have c2 := h2.c2; have c3 := h2.c3; have c4 := h2.c4)
    | (go_at_call 10; refine (RW.out _).mono ?_; rintro e u3 ⟨rfl, hn⟩; have h3 := h2.next hn; clear hn h2 c0 c1 c2 c3 c4; have c0 := h3.c0; have c1 := h3.c1; have c2 := h3.c2; have d0 := h3.d0; have d1 := h3.d1; have d2 := h3.d2; have BL := Lib.hid h3.bl; have LE := Lib.hid h3.le; clear h3)
    | (go_at_call 24; refine (PL.out _).mono ?_; rintro e u3 ⟨rfl, hn⟩; have h3 := h2.next hn; clear hn h2 c0 c1 c2 c3 c4; have d0 := h3.d0; have d1 := h3.d1; have d2 := h3.d2; have BL := Lib.hid h3.bl; have LE := Lib.hid h3.le; clear h3)
    | (go_at_call 23; refine (AW.out _ (HG.out.next BL.out)).mono ?_; rintro e u4 ⟨rfl, h4⟩))
  go_ret
  exact ⟨rfl, BL.out.trans (h4.mono LE.out)⟩
set_option maxRecDepth 100000 in
set_option maxHeartbeats 4000000 in
theorem no_first2 (w : World) (hG : GL w) (s t f l p k o i : Int) (ok : okC s t f l p) (hat : atL s t f k o i = -1) (q0 : 1 ≤ k) (q1 : k ≤ 3) (q2 : 0 < o) :
    Calls Tryd.prog 6 #[cfgV s t f l p, placeV k o i] w fun e w' => e = .returned (.bool true) ∧ Below w.heap.size w w' := by
  have B2 := below2 w (.cells #[.int .i64 s, .int .i64 t, .int .i64 f, .int .i64 l, .int .i64 p] 23) (.cells #[.int .i64 k, .int .i64 o, .int .i64 i] 40)
  have k0 : K8 w.heap.size w w.heap.size s t f l p (w.heap.size + 1) k o i ((w.alloc (.cells #[.int .i64 s, .int .i64 t, .int .i64 f, .int .i64 l, .int .i64 p] 23)).alloc (.cells #[.int .i64 k, .int .i64 o, .int .i64 i] 40)) := ⟨⟨by simp, by simp, by simp, by simp, by simp, B2, by simp; omega⟩, by simp, by simp, by simp⟩
  have HK := Lib.hid k0
  have HG := Lib.hid hG
  have AW := Lib.hid awake8_any
  have hG2 := hG.next B2
  have N := Lib.hid (new_yes s t f l p _ hG2 ok)
  have T := Lib.hid (fun W => atBd hat W l p (.inl ok))
  have RW := Lib.hid (rwrong_yes s t f l p ok)
  obtain ⟨⟨a1, a2⟩, ⟨a3, a4⟩, ⟨a5, a6⟩, a7, a8⟩ := ok
  clear hat hG hG2 B2 k0 a7 a8
  go_enter Tryd.func6, Tryd.ntmps6
  go_wp2_with (first
    | (go_at_call 17; refine N.out.mono ?_; rintro e u1 ⟨rfl, hn⟩; have h1 := HK.out.next hn; clear hn; have d0 := h1.d0; have d1 := h1.d1; have d2 := h1.d2; have z1 : w.heap.size + 1 < u1.heap.size := World.block_lt_of_cell? u1 _ d0; have z0 : w.heap.size < u1.heap.size := by omega)
    | (go_at_call 22; refine (T.out _).mono ?_; rintro e u2 ⟨rfl, hn⟩; have h2 := (h1.next (below1 _ _)).next hn; clear hn h1 d0 d1 d2 z0 z1; have c0 := h2.c0; have c1 := h2.c1; have c2 := h2.c2; have c3 := h2.c3; have c4 := h2.c4)
    | (go_at_call 10; refine (RW.out _).mono ?_; rintro e u3 ⟨rfl, hn⟩; have h3 := h2.next hn; clear hn h2 c0 c1 c2 c3 c4; have c0 := h3.c0; have c1 := h3.c1; have c2 := h3.c2; have d0 := h3.d0; have d1 := h3.d1; have d2 := h3.d2; have BL := Lib.hid h3.bl; have LE := Lib.hid h3.le; clear h3)
    | (go_at_call 24; refine (PL.out _).mono ?_; rintro e u3 ⟨rfl, hn⟩; have h3 := h2.next hn; clear hn h2 c0 c1 c2 c3 c4; have d0 := h3.d0; have d1 := h3.d1; have d2 := h3.d2; have BL := Lib.hid h3.bl; have LE := Lib.hid h3.le; clear h3)
    | (go_at_call 23; refine (AW.out _ (HG.out.next BL.out)).mono ?_; rintro e u4 ⟨rfl, h4⟩))
  go_ret
  exact ⟨rfl, BL.out.trans (h4.mono LE.out)⟩
set_option maxRecDepth 100000 in
set_option maxHeartbeats 4000000 in
theorem no_first3 (w : World) (hG : GL w) (s t f l p k o i : Int) (ok : okC s t f l p) (hat : atL s t f k o i = -1) (q0 : 1 ≤ k) (q1 : k ≤ 3) (q2 : o = 0) (q3 : i < 0) :
    Calls Tryd.prog 6 #[cfgV s t f l p, placeV k o i] w fun e w' => e = .returned (.bool true) ∧ Below w.heap.size w w' := by
  have B2 := below2 w (.cells #[.int .i64 s, .int .i64 t, .int .i64 f, .int .i64 l, .int .i64 p] 23) (.cells #[.int .i64 k, .int .i64 o, .int .i64 i] 40)
  have k0 : K8 w.heap.size w w.heap.size s t f l p (w.heap.size + 1) k o i ((w.alloc (.cells #[.int .i64 s, .int .i64 t, .int .i64 f, .int .i64 l, .int .i64 p] 23)).alloc (.cells #[.int .i64 k, .int .i64 o, .int .i64 i] 40)) := ⟨⟨by simp, by simp, by simp, by simp, by simp, B2, by simp; omega⟩, by simp, by simp, by simp⟩
  have HK := Lib.hid k0
  have HG := Lib.hid hG
  have AW := Lib.hid awake8_any
  have hG2 := hG.next B2
  have N := Lib.hid (new_yes s t f l p _ hG2 ok)
  have T := Lib.hid (fun W => atBd hat W l p (.inl ok))
  have RW := Lib.hid (rwrong_yes s t f l p ok)
  obtain ⟨⟨a1, a2⟩, ⟨a3, a4⟩, ⟨a5, a6⟩, a7, a8⟩ := ok
  clear hat hG hG2 B2 k0 a7 a8
  subst q2
  go_enter Tryd.func6, Tryd.ntmps6
  go_wp2_with (first
    | (go_at_call 17; refine N.out.mono ?_; rintro e u1 ⟨rfl, hn⟩; have h1 := HK.out.next hn; clear hn; have d0 := h1.d0; have d1 := h1.d1; have d2 := h1.d2; have z1 : w.heap.size + 1 < u1.heap.size := World.block_lt_of_cell? u1 _ d0; have z0 : w.heap.size < u1.heap.size := by omega)
    | (go_at_call 22; refine (T.out _).mono ?_; rintro e u2 ⟨rfl, hn⟩; have h2 := (h1.next (below1 _ _)).next hn; clear hn h1 d0 d1 d2 z0 z1; have c0 := h2.c0; have c1 := h2.c1; have c2 := h2.c2; have c3 := h2.c3; have c4 := h2.c4)
    | (go_at_call 10; refine (RW.out _).mono ?_; rintro e u3 ⟨rfl, hn⟩; have h3 := h2.next hn; clear hn h2 c0 c1 c2 c3 c4; have c0 := h3.c0; have c1 := h3.c1; have c2 := h3.c2; have d0 := h3.d0; have d1 := h3.d1; have d2 := h3.d2; have BL := Lib.hid h3.bl; have LE := Lib.hid h3.le; clear h3)
    | (go_at_call 24; refine (PL.out _).mono ?_; rintro e u3 ⟨rfl, hn⟩; have h3 := h2.next hn; clear hn h2 c0 c1 c2 c3 c4; have d0 := h3.d0; have d1 := h3.d1; have d2 := h3.d2; have BL := Lib.hid h3.bl; have LE := Lib.hid h3.le; clear h3)
    | (go_at_call 23; refine (AW.out _ (HG.out.next BL.out)).mono ?_; rintro e u4 ⟨rfl, h4⟩))
  go_ret
  exact ⟨rfl, BL.out.trans (h4.mono LE.out)⟩
set_option maxRecDepth 100000 in
set_option maxHeartbeats 4000000 in
theorem no_first4 (w : World) (hG : GL w) (s t f l p k o i : Int) (ok : okC s t f l p) (hat : atL s t f k o i = -1) (q0 : 1 ≤ k) (q1 : k ≤ 3) (q2 : o = 0) (q3 : 0 < i) :
    Calls Tryd.prog 6 #[cfgV s t f l p, placeV k o i] w fun e w' => e = .returned (.bool true) ∧ Below w.heap.size w w' := by
  have B2 := below2 w (.cells #[.int .i64 s, .int .i64 t, .int .i64 f, .int .i64 l, .int .i64 p] 23) (.cells #[.int .i64 k, .int .i64 o, .int .i64 i] 40)
  have k0 : K8 w.heap.size w w.heap.size s t f l p (w.heap.size + 1) k o i ((w.alloc (.cells #[.int .i64 s, .int .i64 t, .int .i64 f, .int .i64 l, .int .i64 p] 23)).alloc (.cells #[.int .i64 k, .int .i64 o, .int .i64 i] 40)) := ⟨⟨by simp, by simp, by simp, by simp, by simp, B2, by simp; omega⟩, by simp, by simp, by simp⟩
  have HK := Lib.hid k0
  have HG := Lib.hid hG
  have AW := Lib.hid awake8_any
  have hG2 := hG.next B2
  have N := Lib.hid (new_yes s t f l p _ hG2 ok)
  have T := Lib.hid (fun W => atBd hat W l p (.inl ok))
  have RW := Lib.hid (rwrong_yes s t f l p ok)
  obtain ⟨⟨a1, a2⟩, ⟨a3, a4⟩, ⟨a5, a6⟩, a7, a8⟩ := ok
  clear hat hG hG2 B2 k0 a7 a8
  subst q2
  go_enter Tryd.func6, Tryd.ntmps6
  go_wp2_with (first
    | (go_at_call 17; refine N.out.mono ?_; rintro e u1 ⟨rfl, hn⟩; have h1 := HK.out.next hn; clear hn; have d0 := h1.d0; have d1 := h1.d1; have d2 := h1.d2; have z1 : w.heap.size + 1 < u1.heap.size := World.block_lt_of_cell? u1 _ d0; have z0 : w.heap.size < u1.heap.size := by omega)
    | (go_at_call 22; refine (T.out _).mono ?_; rintro e u2 ⟨rfl, hn⟩; have h2 := (h1.next (below1 _ _)).next hn; clear hn h1 d0 d1 d2 z0 z1; have c0 := h2.c0; have c1 := h2.c1; have c2 := h2.c2; have c3 := h2.c3; have c4 := h2.c4)
    | (go_at_call 10; refine (RW.out _).mono ?_; rintro e u3 ⟨rfl, hn⟩; have h3 := h2.next hn; clear hn h2 c0 c1 c2 c3 c4; have c0 := h3.c0; have c1 := h3.c1; have c2 := h3.c2; have d0 := h3.d0; have d1 := h3.d1; have d2 := h3.d2; have BL := Lib.hid h3.bl; have LE := Lib.hid h3.le; clear h3)
    | (go_at_call 24; refine (PL.out _).mono ?_; rintro e u3 ⟨rfl, hn⟩; have h3 := h2.next hn; clear hn h2 c0 c1 c2 c3 c4; have d0 := h3.d0; have d1 := h3.d1; have d2 := h3.d2; have BL := Lib.hid h3.bl; have LE := Lib.hid h3.le; clear h3)
    | (go_at_call 23; refine (AW.out _ (HG.out.next BL.out)).mono ?_; rintro e u4 ⟨rfl, h4⟩))
  go_ret
  exact ⟨rfl, BL.out.trans (h4.mono LE.out)⟩
set_option maxRecDepth 100000 in
set_option maxHeartbeats 4000000 in
theorem no_ann1 (w : World) (hG : GL w) (s t f l p k o i : Int) (ok : okC s t f l p) (hat : atL s t f k o i = -1) (q0 : k = 4) (q1 : o < 0) :
    Calls Tryd.prog 6 #[cfgV s t f l p, placeV k o i] w fun e w' => e = .returned (.bool true) ∧ Below w.heap.size w w' := by
  have B2 := below2 w (.cells #[.int .i64 s, .int .i64 t, .int .i64 f, .int .i64 l, .int .i64 p] 23) (.cells #[.int .i64 k, .int .i64 o, .int .i64 i] 40)
  have k0 : K8 w.heap.size w w.heap.size s t f l p (w.heap.size + 1) k o i ((w.alloc (.cells #[.int .i64 s, .int .i64 t, .int .i64 f, .int .i64 l, .int .i64 p] 23)).alloc (.cells #[.int .i64 k, .int .i64 o, .int .i64 i] 40)) := ⟨⟨by simp, by simp, by simp, by simp, by simp, B2, by simp; omega⟩, by simp, by simp, by simp⟩
  have HK := Lib.hid k0
  have HG := Lib.hid hG
  have AW := Lib.hid awake8_any
  have hG2 := hG.next B2
  have N := Lib.hid (new_yes s t f l p _ hG2 ok)
  have T := Lib.hid (fun W => atBd hat W l p (.inl ok))
  have RW := Lib.hid (rwrong_yes s t f l p ok)
  obtain ⟨⟨a1, a2⟩, ⟨a3, a4⟩, ⟨a5, a6⟩, a7, a8⟩ := ok
  clear hat hG hG2 B2 k0 a7 a8
  subst q0
  go_enter Tryd.func6, Tryd.ntmps6
  go_wp2_with (first
    | (go_at_call 17; refine N.out.mono ?_; rintro e u1 ⟨rfl, hn⟩; have h1 := HK.out.next hn; clear hn; have d0 := h1.d0; have d1 := h1.d1; have d2 := h1.d2; have z1 : w.heap.size + 1 < u1.heap.size := World.block_lt_of_cell? u1 _ d0; have z0 : w.heap.size < u1.heap.size := by omega)
    | (go_at_call 22; refine (T.out _).mono ?_; rintro e u2 ⟨rfl, hn⟩; have h2 := (h1.next (below1 _ _)).next hn; clear hn h1 d0 d1 d2 z0 z1; have c0 := h2.c0; have c1 := h2.c1; have c2 := h2.c2; have c3 := h2.c3; have c4 := h2.c4)
    | (go_at_call 10; refine (RW.out _).mono ?_; rintro e u3 ⟨rfl, hn⟩; have h3 := h2.next hn; clear hn h2 c0 c1 c2 c3 c4; have c0 := h3.c0; have c1 := h3.c1; have c2 := h3.c2; have d0 := h3.d0; have d1 := h3.d1; have d2 := h3.d2; have BL := Lib.hid h3.bl; have LE := Lib.hid h3.le; clear h3)
    | (go_at_call 24; refine (PL.out _).mono ?_; rintro e u3 ⟨rfl, hn⟩; have h3 := h2.next hn; clear hn h2 c0 c1 c2 c3 c4; have d0 := h3.d0; have d1 := h3.d1; have d2 := h3.d2; have BL := Lib.hid h3.bl; have LE := Lib.hid h3.le; clear h3)
    | (go_at_call 23; refine (AW.out _ (HG.out.next BL.out)).mono ?_; rintro e u4 ⟨rfl, h4⟩))
  go_ret
  exact ⟨rfl, BL.out.trans (h4.mono LE.out)⟩
set_option maxRecDepth 100000 in
set_option maxHeartbeats 4000000 in
theorem no_ann2 (w : World) (hG : GL w) (s t f l p k o i : Int) (ok : okC s t f l p) (hat : atL s t f k o i = -1) (q0 : k = 4) (q1 : 0 ≤ o) (q2 : t ≤ o) :
    Calls Tryd.prog 6 #[cfgV s t f l p, placeV k o i] w fun e w' => e = .returned (.bool true) ∧ Below w.heap.size w w' := by
  have B2 := below2 w (.cells #[.int .i64 s, .int .i64 t, .int .i64 f, .int .i64 l, .int .i64 p] 23) (.cells #[.int .i64 k, .int .i64 o, .int .i64 i] 40)
  have k0 : K8 w.heap.size w w.heap.size s t f l p (w.heap.size + 1) k o i ((w.alloc (.cells #[.int .i64 s, .int .i64 t, .int .i64 f, .int .i64 l, .int .i64 p] 23)).alloc (.cells #[.int .i64 k, .int .i64 o, .int .i64 i] 40)) := ⟨⟨by simp, by simp, by simp, by simp, by simp, B2, by simp; omega⟩, by simp, by simp, by simp⟩
  have HK := Lib.hid k0
  have HG := Lib.hid hG
  have AW := Lib.hid awake8_any
  have hG2 := hG.next B2
  have N := Lib.hid (new_yes s t f l p _ hG2 ok)
  have T := Lib.hid (fun W => atBd hat W l p (.inl ok))
  have RW := Lib.hid (rwrong_yes s t f l p ok)
  obtain ⟨⟨a1, a2⟩, ⟨a3, a4⟩, ⟨a5, a6⟩, a7, a8⟩ := ok
  clear hat hG hG2 B2 k0 a7 a8
  subst q0
  go_enter Tryd.func6, Tryd.ntmps6
  go_wp2_with (first
    | (go_at_call 17; refine N.out.mono ?_; rintro e u1 ⟨rfl, hn⟩; have h1 := HK.out.next hn; clear hn; have d0 := h1.d0; have d1 := h1.d1; have d2 := h1.d2; have z1 : w.heap.size + 1 < u1.heap.size := World.block_lt_of_cell? u1 _ d0; have z0 : w.heap.size < u1.heap.size := by omega)
    | (go_at_call 22; refine (T.out _).mono ?_; rintro e u2 ⟨rfl, hn⟩; have h2 := (h1.next (below1 _ _)).next hn; clear hn h1 d0 d1 d2 z0 z1; have c0 := h2.c0; have c1 := h2.c1; have c2 := h2.c2; have c3 := h2.c3; have c4 := h2.c4)
    | (go_at_call 10; refine (RW.out _).mono ?_; rintro e u3 ⟨rfl, hn⟩; have h3 := h2.next hn; clear hn h2 c0 c1 c2 c3 c4; have c0 := h3.c0; have c1 := h3.c1; have c2 := h3.c2; have d0 := h3.d0; have d1 := h3.d1; have d2 := h3.d2; have BL := Lib.hid h3.bl; have LE := Lib.hid h3.le; clear h3)
    | (go_at_call 24; refine (PL.out _).mono ?_; rintro e u3 ⟨rfl, hn⟩; have h3 := h2.next hn; clear hn h2 c0 c1 c2 c3 c4; have d0 := h3.d0; have d1 := h3.d1; have d2 := h3.d2; have BL := Lib.hid h3.bl; have LE := Lib.hid h3.le; clear h3)
    | (go_at_call 23; refine (AW.out _ (HG.out.next BL.out)).mono ?_; rintro e u4 ⟨rfl, h4⟩))
  go_ret
  exact ⟨rfl, BL.out.trans (h4.mono LE.out)⟩
set_option maxRecDepth 100000 in
set_option maxHeartbeats 4000000 in
theorem no_ann3 (w : World) (hG : GL w) (s t f l p k o i : Int) (ok : okC s t f l p) (hat : atL s t f k o i = -1) (q0 : k = 4) (q1 : 0 ≤ o) (q2 : o < t) (q3 : i < 0) :
    Calls Tryd.prog 6 #[cfgV s t f l p, placeV k o i] w fun e w' => e = .returned (.bool true) ∧ Below w.heap.size w w' := by
  have B2 := below2 w (.cells #[.int .i64 s, .int .i64 t, .int .i64 f, .int .i64 l, .int .i64 p] 23) (.cells #[.int .i64 k, .int .i64 o, .int .i64 i] 40)
  have k0 : K8 w.heap.size w w.heap.size s t f l p (w.heap.size + 1) k o i ((w.alloc (.cells #[.int .i64 s, .int .i64 t, .int .i64 f, .int .i64 l, .int .i64 p] 23)).alloc (.cells #[.int .i64 k, .int .i64 o, .int .i64 i] 40)) := ⟨⟨by simp, by simp, by simp, by simp, by simp, B2, by simp; omega⟩, by simp, by simp, by simp⟩
  have HK := Lib.hid k0
  have HG := Lib.hid hG
  have AW := Lib.hid awake8_any
  have hG2 := hG.next B2
  have N := Lib.hid (new_yes s t f l p _ hG2 ok)
  have T := Lib.hid (fun W => atBd hat W l p (.inl ok))
  have RW := Lib.hid (rwrong_yes s t f l p ok)
  obtain ⟨⟨a1, a2⟩, ⟨a3, a4⟩, ⟨a5, a6⟩, a7, a8⟩ := ok
  clear hat hG hG2 B2 k0 a7 a8
  subst q0
  go_enter Tryd.func6, Tryd.ntmps6
  go_wp2_with (first
    | (go_at_call 17; refine N.out.mono ?_; rintro e u1 ⟨rfl, hn⟩; have h1 := HK.out.next hn; clear hn; have d0 := h1.d0; have d1 := h1.d1; have d2 := h1.d2; have z1 : w.heap.size + 1 < u1.heap.size := World.block_lt_of_cell? u1 _ d0; have z0 : w.heap.size < u1.heap.size := by omega)
    | (go_at_call 22; refine (T.out _).mono ?_; rintro e u2 ⟨rfl, hn⟩; have h2 := (h1.next (below1 _ _)).next hn; clear hn h1 d0 d1 d2 z0 z1; have c0 := h2.c0; have c1 := h2.c1; have c2 := h2.c2; have c3 := h2.c3; have c4 := h2.c4)
    | (go_at_call 10; refine (RW.out _).mono ?_; rintro e u3 ⟨rfl, hn⟩; have h3 := h2.next hn; clear hn h2 c0 c1 c2 c3 c4; have c0 := h3.c0; have c1 := h3.c1; have c2 := h3.c2; have d0 := h3.d0; have d1 := h3.d1; have d2 := h3.d2; have BL := Lib.hid h3.bl; have LE := Lib.hid h3.le; clear h3)
    | (go_at_call 24; refine (PL.out _).mono ?_; rintro e u3 ⟨rfl, hn⟩; have h3 := h2.next hn; clear hn h2 c0 c1 c2 c3 c4; have d0 := h3.d0; have d1 := h3.d1; have d2 := h3.d2; have BL := Lib.hid h3.bl; have LE := Lib.hid h3.le; clear h3)
    | (go_at_call 23; refine (AW.out _ (HG.out.next BL.out)).mono ?_; rintro e u4 ⟨rfl, h4⟩))
  go_ret
  exact ⟨rfl, BL.out.trans (h4.mono LE.out)⟩
set_option maxRecDepth 100000 in
set_option maxHeartbeats 4000000 in
theorem no_ann4 (w : World) (hG : GL w) (s t f l p k o i : Int) (ok : okC s t f l p) (hat : atL s t f k o i = -1) (q0 : k = 4) (q1 : 0 ≤ o) (q2 : o < t) (q3 : 0 < i) :
    Calls Tryd.prog 6 #[cfgV s t f l p, placeV k o i] w fun e w' => e = .returned (.bool true) ∧ Below w.heap.size w w' := by
  have B2 := below2 w (.cells #[.int .i64 s, .int .i64 t, .int .i64 f, .int .i64 l, .int .i64 p] 23) (.cells #[.int .i64 k, .int .i64 o, .int .i64 i] 40)
  have k0 : K8 w.heap.size w w.heap.size s t f l p (w.heap.size + 1) k o i ((w.alloc (.cells #[.int .i64 s, .int .i64 t, .int .i64 f, .int .i64 l, .int .i64 p] 23)).alloc (.cells #[.int .i64 k, .int .i64 o, .int .i64 i] 40)) := ⟨⟨by simp, by simp, by simp, by simp, by simp, B2, by simp; omega⟩, by simp, by simp, by simp⟩
  have HK := Lib.hid k0
  have HG := Lib.hid hG
  have AW := Lib.hid awake8_any
  have hG2 := hG.next B2
  have N := Lib.hid (new_yes s t f l p _ hG2 ok)
  have T := Lib.hid (fun W => atBd hat W l p (.inl ok))
  have RW := Lib.hid (rwrong_yes s t f l p ok)
  obtain ⟨⟨a1, a2⟩, ⟨a3, a4⟩, ⟨a5, a6⟩, a7, a8⟩ := ok
  clear hat hG hG2 B2 k0 a7 a8
  subst q0
  go_enter Tryd.func6, Tryd.ntmps6
  go_wp2_with (first
    | (go_at_call 17; refine N.out.mono ?_; rintro e u1 ⟨rfl, hn⟩; have h1 := HK.out.next hn; clear hn; have d0 := h1.d0; have d1 := h1.d1; have d2 := h1.d2; have z1 : w.heap.size + 1 < u1.heap.size := World.block_lt_of_cell? u1 _ d0; have z0 : w.heap.size < u1.heap.size := by omega)
    | (go_at_call 22; refine (T.out _).mono ?_; rintro e u2 ⟨rfl, hn⟩; have h2 := (h1.next (below1 _ _)).next hn; clear hn h1 d0 d1 d2 z0 z1; have c0 := h2.c0; have c1 := h2.c1; have c2 := h2.c2; have c3 := h2.c3; have c4 := h2.c4)
    | (go_at_call 10; refine (RW.out _).mono ?_; rintro e u3 ⟨rfl, hn⟩; have h3 := h2.next hn; clear hn h2 c0 c1 c2 c3 c4; have c0 := h3.c0; have c1 := h3.c1; have c2 := h3.c2; have d0 := h3.d0; have d1 := h3.d1; have d2 := h3.d2; have BL := Lib.hid h3.bl; have LE := Lib.hid h3.le; clear h3)
    | (go_at_call 24; refine (PL.out _).mono ?_; rintro e u3 ⟨rfl, hn⟩; have h3 := h2.next hn; clear hn h2 c0 c1 c2 c3 c4; have d0 := h3.d0; have d1 := h3.d1; have d2 := h3.d2; have BL := Lib.hid h3.bl; have LE := Lib.hid h3.le; clear h3)
    | (go_at_call 23; refine (AW.out _ (HG.out.next BL.out)).mono ?_; rintro e u4 ⟨rfl, h4⟩))
  go_ret
  exact ⟨rfl, BL.out.trans (h4.mono LE.out)⟩
set_option maxRecDepth 100000 in
set_option maxHeartbeats 4000000 in
theorem no_haz1 (w : World) (hG : GL w) (s t f l p k o i : Int) (ok : okC s t f l p) (hat : atL s t f k o i = -1) (q0 : k = 5) (q1 : o < 0) :
    Calls Tryd.prog 6 #[cfgV s t f l p, placeV k o i] w fun e w' => e = .returned (.bool true) ∧ Below w.heap.size w w' := by
  have B2 := below2 w (.cells #[.int .i64 s, .int .i64 t, .int .i64 f, .int .i64 l, .int .i64 p] 23) (.cells #[.int .i64 k, .int .i64 o, .int .i64 i] 40)
  have k0 : K8 w.heap.size w w.heap.size s t f l p (w.heap.size + 1) k o i ((w.alloc (.cells #[.int .i64 s, .int .i64 t, .int .i64 f, .int .i64 l, .int .i64 p] 23)).alloc (.cells #[.int .i64 k, .int .i64 o, .int .i64 i] 40)) := ⟨⟨by simp, by simp, by simp, by simp, by simp, B2, by simp; omega⟩, by simp, by simp, by simp⟩
  have HK := Lib.hid k0
  have HG := Lib.hid hG
  have AW := Lib.hid awake8_any
  have hG2 := hG.next B2
  have N := Lib.hid (new_yes s t f l p _ hG2 ok)
  have T := Lib.hid (fun W => atBd hat W l p (.inl ok))
  have RW := Lib.hid (rwrong_yes s t f l p ok)
  obtain ⟨⟨a1, a2⟩, ⟨a3, a4⟩, ⟨a5, a6⟩, a7, a8⟩ := ok
  clear hat hG hG2 B2 k0 a7 a8
  subst q0
  go_enter Tryd.func6, Tryd.ntmps6
  go_wp2_with (first
    | (go_at_call 17; refine N.out.mono ?_; rintro e u1 ⟨rfl, hn⟩; have h1 := HK.out.next hn; clear hn; have d0 := h1.d0; have d1 := h1.d1; have d2 := h1.d2; have z1 : w.heap.size + 1 < u1.heap.size := World.block_lt_of_cell? u1 _ d0; have z0 : w.heap.size < u1.heap.size := by omega)
    | (go_at_call 22; refine (T.out _).mono ?_; rintro e u2 ⟨rfl, hn⟩; have h2 := (h1.next (below1 _ _)).next hn; clear hn h1 d0 d1 d2 z0 z1; have c0 := h2.c0; have c1 := h2.c1; have c2 := h2.c2; have c3 := h2.c3; have c4 := h2.c4)
    | (go_at_call 10; refine (RW.out _).mono ?_; rintro e u3 ⟨rfl, hn⟩; have h3 := h2.next hn; clear hn h2 c0 c1 c2 c3 c4; have c0 := h3.c0; have c1 := h3.c1; have c2 := h3.c2; have d0 := h3.d0; have d1 := h3.d1; have d2 := h3.d2; have BL := Lib.hid h3.bl; have LE := Lib.hid h3.le; clear h3)
    | (go_at_call 24; refine (PL.out _).mono ?_; rintro e u3 ⟨rfl, hn⟩; have h3 := h2.next hn; clear hn h2 c0 c1 c2 c3 c4; have d0 := h3.d0; have d1 := h3.d1; have d2 := h3.d2; have BL := Lib.hid h3.bl; have LE := Lib.hid h3.le; clear h3)
    | (go_at_call 23; refine (AW.out _ (HG.out.next BL.out)).mono ?_; rintro e u4 ⟨rfl, h4⟩))
  go_ret
  exact ⟨rfl, BL.out.trans (h4.mono LE.out)⟩
set_option maxRecDepth 100000 in
set_option maxHeartbeats 4000000 in
theorem no_haz2 (w : World) (hG : GL w) (s t f l p k o i : Int) (ok : okC s t f l p) (hat : atL s t f k o i = -1) (q0 : k = 5) (q1 : 0 ≤ o) (q2 : t ≤ o) :
    Calls Tryd.prog 6 #[cfgV s t f l p, placeV k o i] w fun e w' => e = .returned (.bool true) ∧ Below w.heap.size w w' := by
  have B2 := below2 w (.cells #[.int .i64 s, .int .i64 t, .int .i64 f, .int .i64 l, .int .i64 p] 23) (.cells #[.int .i64 k, .int .i64 o, .int .i64 i] 40)
  have k0 : K8 w.heap.size w w.heap.size s t f l p (w.heap.size + 1) k o i ((w.alloc (.cells #[.int .i64 s, .int .i64 t, .int .i64 f, .int .i64 l, .int .i64 p] 23)).alloc (.cells #[.int .i64 k, .int .i64 o, .int .i64 i] 40)) := ⟨⟨by simp, by simp, by simp, by simp, by simp, B2, by simp; omega⟩, by simp, by simp, by simp⟩
  have HK := Lib.hid k0
  have HG := Lib.hid hG
  have AW := Lib.hid awake8_any
  have hG2 := hG.next B2
  have N := Lib.hid (new_yes s t f l p _ hG2 ok)
  have T := Lib.hid (fun W => atBd hat W l p (.inl ok))
  have RW := Lib.hid (rwrong_yes s t f l p ok)
  obtain ⟨⟨a1, a2⟩, ⟨a3, a4⟩, ⟨a5, a6⟩, a7, a8⟩ := ok
  clear hat hG hG2 B2 k0 a7 a8
  subst q0
  go_enter Tryd.func6, Tryd.ntmps6
  go_wp2_with (first
    | (go_at_call 17; refine N.out.mono ?_; rintro e u1 ⟨rfl, hn⟩; have h1 := HK.out.next hn; clear hn; have d0 := h1.d0; have d1 := h1.d1; have d2 := h1.d2; have z1 : w.heap.size + 1 < u1.heap.size := World.block_lt_of_cell? u1 _ d0; have z0 : w.heap.size < u1.heap.size := by omega)
    | (go_at_call 22; refine (T.out _).mono ?_; rintro e u2 ⟨rfl, hn⟩; have h2 := (h1.next (below1 _ _)).next hn; clear hn h1 d0 d1 d2 z0 z1; have c0 := h2.c0; have c1 := h2.c1; have c2 := h2.c2; have c3 := h2.c3; have c4 := h2.c4)
    | (go_at_call 10; refine (RW.out _).mono ?_; rintro e u3 ⟨rfl, hn⟩; have h3 := h2.next hn; clear hn h2 c0 c1 c2 c3 c4; have c0 := h3.c0; have c1 := h3.c1; have c2 := h3.c2; have d0 := h3.d0; have d1 := h3.d1; have d2 := h3.d2; have BL := Lib.hid h3.bl; have LE := Lib.hid h3.le; clear h3)
    | (go_at_call 24; refine (PL.out _).mono ?_; rintro e u3 ⟨rfl, hn⟩; have h3 := h2.next hn; clear hn h2 c0 c1 c2 c3 c4; have d0 := h3.d0; have d1 := h3.d1; have d2 := h3.d2; have BL := Lib.hid h3.bl; have LE := Lib.hid h3.le; clear h3)
    | (go_at_call 23; refine (AW.out _ (HG.out.next BL.out)).mono ?_; rintro e u4 ⟨rfl, h4⟩))
  go_ret
  exact ⟨rfl, BL.out.trans (h4.mono LE.out)⟩
set_option maxRecDepth 100000 in
set_option maxHeartbeats 4000000 in
theorem no_haz3 (w : World) (hG : GL w) (s t f l p k o i : Int) (ok : okC s t f l p) (hat : atL s t f k o i = -1) (q0 : k = 5) (q1 : 0 ≤ o) (q2 : o < t) (q3 : i < 0) :
    Calls Tryd.prog 6 #[cfgV s t f l p, placeV k o i] w fun e w' => e = .returned (.bool true) ∧ Below w.heap.size w w' := by
  have B2 := below2 w (.cells #[.int .i64 s, .int .i64 t, .int .i64 f, .int .i64 l, .int .i64 p] 23) (.cells #[.int .i64 k, .int .i64 o, .int .i64 i] 40)
  have k0 : K8 w.heap.size w w.heap.size s t f l p (w.heap.size + 1) k o i ((w.alloc (.cells #[.int .i64 s, .int .i64 t, .int .i64 f, .int .i64 l, .int .i64 p] 23)).alloc (.cells #[.int .i64 k, .int .i64 o, .int .i64 i] 40)) := ⟨⟨by simp, by simp, by simp, by simp, by simp, B2, by simp; omega⟩, by simp, by simp, by simp⟩
  have HK := Lib.hid k0
  have HG := Lib.hid hG
  have AW := Lib.hid awake8_any
  have hG2 := hG.next B2
  have N := Lib.hid (new_yes s t f l p _ hG2 ok)
  have T := Lib.hid (fun W => atBd hat W l p (.inl ok))
  have RW := Lib.hid (rwrong_yes s t f l p ok)
  obtain ⟨⟨a1, a2⟩, ⟨a3, a4⟩, ⟨a5, a6⟩, a7, a8⟩ := ok
  clear hat hG hG2 B2 k0 a7 a8
  subst q0
  go_enter Tryd.func6, Tryd.ntmps6
  go_wp2_with (first
    | (go_at_call 17; refine N.out.mono ?_; rintro e u1 ⟨rfl, hn⟩; have h1 := HK.out.next hn; clear hn; have d0 := h1.d0; have d1 := h1.d1; have d2 := h1.d2; have z1 : w.heap.size + 1 < u1.heap.size := World.block_lt_of_cell? u1 _ d0; have z0 : w.heap.size < u1.heap.size := by omega)
    | (go_at_call 22; refine (T.out _).mono ?_; rintro e u2 ⟨rfl, hn⟩; have h2 := (h1.next (below1 _ _)).next hn; clear hn h1 d0 d1 d2 z0 z1; have c0 := h2.c0; have c1 := h2.c1; have c2 := h2.c2; have c3 := h2.c3; have c4 := h2.c4)
    | (go_at_call 10; refine (RW.out _).mono ?_; rintro e u3 ⟨rfl, hn⟩; have h3 := h2.next hn; clear hn h2 c0 c1 c2 c3 c4; have c0 := h3.c0; have c1 := h3.c1; have c2 := h3.c2; have d0 := h3.d0; have d1 := h3.d1; have d2 := h3.d2; have BL := Lib.hid h3.bl; have LE := Lib.hid h3.le; clear h3)
    | (go_at_call 24; refine (PL.out _).mono ?_; rintro e u3 ⟨rfl, hn⟩; have h3 := h2.next hn; clear hn h2 c0 c1 c2 c3 c4; have d0 := h3.d0; have d1 := h3.d1; have d2 := h3.d2; have BL := Lib.hid h3.bl; have LE := Lib.hid h3.le; clear h3)
    | (go_at_call 23; refine (AW.out _ (HG.out.next BL.out)).mono ?_; rintro e u4 ⟨rfl, h4⟩))
  go_ret
  exact ⟨rfl, BL.out.trans (h4.mono LE.out)⟩
set_option maxRecDepth 100000 in
set_option maxHeartbeats 4000000 in
theorem no_haz4 (w : World) (hG : GL w) (s t f l p k o i : Int) (ok : okC s t f l p) (hat : atL s t f k o i = -1) (q0 : k = 5) (q1 : 0 ≤ o) (q2 : o < t) (q3 : 0 ≤ i) (q4 : 1 < i) :
    Calls Tryd.prog 6 #[cfgV s t f l p, placeV k o i] w fun e w' => e = .returned (.bool true) ∧ Below w.heap.size w w' := by
  have B2 := below2 w (.cells #[.int .i64 s, .int .i64 t, .int .i64 f, .int .i64 l, .int .i64 p] 23) (.cells #[.int .i64 k, .int .i64 o, .int .i64 i] 40)
  have k0 : K8 w.heap.size w w.heap.size s t f l p (w.heap.size + 1) k o i ((w.alloc (.cells #[.int .i64 s, .int .i64 t, .int .i64 f, .int .i64 l, .int .i64 p] 23)).alloc (.cells #[.int .i64 k, .int .i64 o, .int .i64 i] 40)) := ⟨⟨by simp, by simp, by simp, by simp, by simp, B2, by simp; omega⟩, by simp, by simp, by simp⟩
  have HK := Lib.hid k0
  have HG := Lib.hid hG
  have AW := Lib.hid awake8_any
  have hG2 := hG.next B2
  have N := Lib.hid (new_yes s t f l p _ hG2 ok)
  have T := Lib.hid (fun W => atBd hat W l p (.inl ok))
  have RW := Lib.hid (rwrong_yes s t f l p ok)
  obtain ⟨⟨a1, a2⟩, ⟨a3, a4⟩, ⟨a5, a6⟩, a7, a8⟩ := ok
  clear hat hG hG2 B2 k0 a7 a8
  subst q0
  go_enter Tryd.func6, Tryd.ntmps6
  go_wp2_with (first
    | (go_at_call 17; refine N.out.mono ?_; rintro e u1 ⟨rfl, hn⟩; have h1 := HK.out.next hn; clear hn; have d0 := h1.d0; have d1 := h1.d1; have d2 := h1.d2; have z1 : w.heap.size + 1 < u1.heap.size := World.block_lt_of_cell? u1 _ d0; have z0 : w.heap.size < u1.heap.size := by omega)
    | (go_at_call 22; refine (T.out _).mono ?_; rintro e u2 ⟨rfl, hn⟩; have h2 := (h1.next (below1 _ _)).next hn; clear hn h1 d0 d1 d2 z0 z1; have c0 := h2.c0; have c1 := h2.c1; have c2 := h2.c2; have c3 := h2.c3; have c4 := h2.c4)
    | (go_at_call 10; refine (RW.out _).mono ?_; rintro e u3 ⟨rfl, hn⟩; have h3 := h2.next hn; clear hn h2 c0 c1 c2 c3 c4; have c0 := h3.c0; have c1 := h3.c1; have c2 := h3.c2; have d0 := h3.d0; have d1 := h3.d1; have d2 := h3.d2; have BL := Lib.hid h3.bl; have LE := Lib.hid h3.le; clear h3)
    | (go_at_call 24; refine (PL.out _).mono ?_; rintro e u3 ⟨rfl, hn⟩; have h3 := h2.next hn; clear hn h2 c0 c1 c2 c3 c4; have d0 := h3.d0; have d1 := h3.d1; have d2 := h3.d2; have BL := Lib.hid h3.bl; have LE := Lib.hid h3.le; clear h3)
    | (go_at_call 23; refine (AW.out _ (HG.out.next BL.out)).mono ?_; rintro e u4 ⟨rfl, h4⟩))
  go_ret
  exact ⟨rfl, BL.out.trans (h4.mono LE.out)⟩
set_option maxRecDepth 100000 in
set_option maxHeartbeats 4000000 in
theorem no_slot1 (w : World) (hG : GL w) (s t f l p k o i : Int) (ok : okC s t f l p) (hat : atL s t f k o i = -1) (q0 : 6 ≤ k) (q1 : k ≤ 8) (q2 : o < 0) :
    Calls Tryd.prog 6 #[cfgV s t f l p, placeV k o i] w fun e w' => e = .returned (.bool true) ∧ Below w.heap.size w w' := by
  have B2 := below2 w (.cells #[.int .i64 s, .int .i64 t, .int .i64 f, .int .i64 l, .int .i64 p] 23) (.cells #[.int .i64 k, .int .i64 o, .int .i64 i] 40)
  have k0 : K8 w.heap.size w w.heap.size s t f l p (w.heap.size + 1) k o i ((w.alloc (.cells #[.int .i64 s, .int .i64 t, .int .i64 f, .int .i64 l, .int .i64 p] 23)).alloc (.cells #[.int .i64 k, .int .i64 o, .int .i64 i] 40)) := ⟨⟨by simp, by simp, by simp, by simp, by simp, B2, by simp; omega⟩, by simp, by simp, by simp⟩
  have HK := Lib.hid k0
  have HG := Lib.hid hG
  have AW := Lib.hid awake8_any
  have hG2 := hG.next B2
  have N := Lib.hid (new_yes s t f l p _ hG2 ok)
  have T := Lib.hid (fun W => atBd hat W l p (.inl ok))
  have RW := Lib.hid (rwrong_yes s t f l p ok)
  obtain ⟨⟨a1, a2⟩, ⟨a3, a4⟩, ⟨a5, a6⟩, a7, a8⟩ := ok
  clear hat hG hG2 B2 k0 a7 a8
  go_enter Tryd.func6, Tryd.ntmps6
  go_wp2_with (first
    | (go_at_call 17; refine N.out.mono ?_; rintro e u1 ⟨rfl, hn⟩; have h1 := HK.out.next hn; clear hn; have d0 := h1.d0; have d1 := h1.d1; have d2 := h1.d2; have z1 : w.heap.size + 1 < u1.heap.size := World.block_lt_of_cell? u1 _ d0; have z0 : w.heap.size < u1.heap.size := by omega)
    | (go_at_call 22; refine (T.out _).mono ?_; rintro e u2 ⟨rfl, hn⟩; have h2 := (h1.next (below1 _ _)).next hn; clear hn h1 d0 d1 d2 z0 z1; have c0 := h2.c0; have c1 := h2.c1; have c2 := h2.c2; have c3 := h2.c3; have c4 := h2.c4)
    | (go_at_call 10; refine (RW.out _).mono ?_; rintro e u3 ⟨rfl, hn⟩; have h3 := h2.next hn; clear hn h2 c0 c1 c2 c3 c4; have c0 := h3.c0; have c1 := h3.c1; have c2 := h3.c2; have d0 := h3.d0; have d1 := h3.d1; have d2 := h3.d2; have BL := Lib.hid h3.bl; have LE := Lib.hid h3.le; clear h3)
    | (go_at_call 24; refine (PL.out _).mono ?_; rintro e u3 ⟨rfl, hn⟩; have h3 := h2.next hn; clear hn h2 c0 c1 c2 c3 c4; have d0 := h3.d0; have d1 := h3.d1; have d2 := h3.d2; have BL := Lib.hid h3.bl; have LE := Lib.hid h3.le; clear h3)
    | (go_at_call 23; refine (AW.out _ (HG.out.next BL.out)).mono ?_; rintro e u4 ⟨rfl, h4⟩))
  go_ret
  exact ⟨rfl, BL.out.trans (h4.mono LE.out)⟩
set_option maxRecDepth 100000 in
set_option maxHeartbeats 4000000 in
theorem no_slot2 (w : World) (hG : GL w) (s t f l p k o i : Int) (ok : okC s t f l p) (hat : atL s t f k o i = -1) (q0 : 6 ≤ k) (q1 : k ≤ 8) (q2 : 0 ≤ o) (q3 : s < o) :
    Calls Tryd.prog 6 #[cfgV s t f l p, placeV k o i] w fun e w' => e = .returned (.bool true) ∧ Below w.heap.size w w' := by
  have B2 := below2 w (.cells #[.int .i64 s, .int .i64 t, .int .i64 f, .int .i64 l, .int .i64 p] 23) (.cells #[.int .i64 k, .int .i64 o, .int .i64 i] 40)
  have k0 : K8 w.heap.size w w.heap.size s t f l p (w.heap.size + 1) k o i ((w.alloc (.cells #[.int .i64 s, .int .i64 t, .int .i64 f, .int .i64 l, .int .i64 p] 23)).alloc (.cells #[.int .i64 k, .int .i64 o, .int .i64 i] 40)) := ⟨⟨by simp, by simp, by simp, by simp, by simp, B2, by simp; omega⟩, by simp, by simp, by simp⟩
  have HK := Lib.hid k0
  have HG := Lib.hid hG
  have AW := Lib.hid awake8_any
  have hG2 := hG.next B2
  have N := Lib.hid (new_yes s t f l p _ hG2 ok)
  have T := Lib.hid (fun W => atBd hat W l p (.inl ok))
  have RW := Lib.hid (rwrong_yes s t f l p ok)
  obtain ⟨⟨a1, a2⟩, ⟨a3, a4⟩, ⟨a5, a6⟩, a7, a8⟩ := ok
  clear hat hG hG2 B2 k0 a7 a8
  go_enter Tryd.func6, Tryd.ntmps6
  go_wp2_with (first
    | (go_at_call 17; refine N.out.mono ?_; rintro e u1 ⟨rfl, hn⟩; have h1 := HK.out.next hn; clear hn; have d0 := h1.d0; have d1 := h1.d1; have d2 := h1.d2; have z1 : w.heap.size + 1 < u1.heap.size := World.block_lt_of_cell? u1 _ d0; have z0 : w.heap.size < u1.heap.size := by omega)
    | (go_at_call 22; refine (T.out _).mono ?_; rintro e u2 ⟨rfl, hn⟩; have h2 := (h1.next (below1 _ _)).next hn; clear hn h1 d0 d1 d2 z0 z1; have c0 := h2.c0; have c1 := h2.c1; have c2 := h2.c2; have c3 := h2.c3; have c4 := h2.c4)
    | (go_at_call 10; refine (RW.out _).mono ?_; rintro e u3 ⟨rfl, hn⟩; have h3 := h2.next hn; clear hn h2 c0 c1 c2 c3 c4; have c0 := h3.c0; have c1 := h3.c1; have c2 := h3.c2; have d0 := h3.d0; have d1 := h3.d1; have d2 := h3.d2; have BL := Lib.hid h3.bl; have LE := Lib.hid h3.le; clear h3)
    | (go_at_call 24; refine (PL.out _).mono ?_; rintro e u3 ⟨rfl, hn⟩; have h3 := h2.next hn; clear hn h2 c0 c1 c2 c3 c4; have d0 := h3.d0; have d1 := h3.d1; have d2 := h3.d2; have BL := Lib.hid h3.bl; have LE := Lib.hid h3.le; clear h3)
    | (go_at_call 23; refine (AW.out _ (HG.out.next BL.out)).mono ?_; rintro e u4 ⟨rfl, h4⟩))
  go_ret
  exact ⟨rfl, BL.out.trans (h4.mono LE.out)⟩
set_option maxRecDepth 100000 in
set_option maxHeartbeats 4000000 in
theorem no_slot3 (w : World) (hG : GL w) (s t f l p k o i : Int) (ok : okC s t f l p) (hat : atL s t f k o i = -1) (q0 : 6 ≤ k) (q1 : k ≤ 8) (q2 : 0 ≤ o) (q3 : o ≤ s) (q4 : i < 0) :
    Calls Tryd.prog 6 #[cfgV s t f l p, placeV k o i] w fun e w' => e = .returned (.bool true) ∧ Below w.heap.size w w' := by
  have B2 := below2 w (.cells #[.int .i64 s, .int .i64 t, .int .i64 f, .int .i64 l, .int .i64 p] 23) (.cells #[.int .i64 k, .int .i64 o, .int .i64 i] 40)
  have k0 : K8 w.heap.size w w.heap.size s t f l p (w.heap.size + 1) k o i ((w.alloc (.cells #[.int .i64 s, .int .i64 t, .int .i64 f, .int .i64 l, .int .i64 p] 23)).alloc (.cells #[.int .i64 k, .int .i64 o, .int .i64 i] 40)) := ⟨⟨by simp, by simp, by simp, by simp, by simp, B2, by simp; omega⟩, by simp, by simp, by simp⟩
  have HK := Lib.hid k0
  have HG := Lib.hid hG
  have AW := Lib.hid awake8_any
  have hG2 := hG.next B2
  have N := Lib.hid (new_yes s t f l p _ hG2 ok)
  have T := Lib.hid (fun W => atBd hat W l p (.inl ok))
  have RW := Lib.hid (rwrong_yes s t f l p ok)
  obtain ⟨⟨a1, a2⟩, ⟨a3, a4⟩, ⟨a5, a6⟩, a7, a8⟩ := ok
  clear hat hG hG2 B2 k0 a7 a8
  go_enter Tryd.func6, Tryd.ntmps6
  go_wp2_with (first
    | (go_at_call 17; refine N.out.mono ?_; rintro e u1 ⟨rfl, hn⟩; have h1 := HK.out.next hn; clear hn; have d0 := h1.d0; have d1 := h1.d1; have d2 := h1.d2; have z1 : w.heap.size + 1 < u1.heap.size := World.block_lt_of_cell? u1 _ d0; have z0 : w.heap.size < u1.heap.size := by omega)
    | (go_at_call 22; refine (T.out _).mono ?_; rintro e u2 ⟨rfl, hn⟩; have h2 := (h1.next (below1 _ _)).next hn; clear hn h1 d0 d1 d2 z0 z1; have c0 := h2.c0; have c1 := h2.c1; have c2 := h2.c2; have c3 := h2.c3; have c4 := h2.c4)
    | (go_at_call 10; refine (RW.out _).mono ?_; rintro e u3 ⟨rfl, hn⟩; have h3 := h2.next hn; clear hn h2 c0 c1 c2 c3 c4; have c0 := h3.c0; have c1 := h3.c1; have c2 := h3.c2; have d0 := h3.d0; have d1 := h3.d1; have d2 := h3.d2; have BL := Lib.hid h3.bl; have LE := Lib.hid h3.le; clear h3)
    | (go_at_call 24; refine (PL.out _).mono ?_; rintro e u3 ⟨rfl, hn⟩; have h3 := h2.next hn; clear hn h2 c0 c1 c2 c3 c4; have d0 := h3.d0; have d1 := h3.d1; have d2 := h3.d2; have BL := Lib.hid h3.bl; have LE := Lib.hid h3.le; clear h3)
    | (go_at_call 23; refine (AW.out _ (HG.out.next BL.out)).mono ?_; rintro e u4 ⟨rfl, h4⟩))
  go_ret
  exact ⟨rfl, BL.out.trans (h4.mono LE.out)⟩
set_option maxRecDepth 100000 in
set_option maxHeartbeats 4000000 in
theorem no_slot4 (w : World) (hG : GL w) (s t f l p k o i : Int) (ok : okC s t f l p) (hat : atL s t f k o i = -1) (q0 : 6 ≤ k) (q1 : k ≤ 8) (q2 : 0 ≤ o) (q3 : o ≤ s) (q4 : 0 < i) :
    Calls Tryd.prog 6 #[cfgV s t f l p, placeV k o i] w fun e w' => e = .returned (.bool true) ∧ Below w.heap.size w w' := by
  have B2 := below2 w (.cells #[.int .i64 s, .int .i64 t, .int .i64 f, .int .i64 l, .int .i64 p] 23) (.cells #[.int .i64 k, .int .i64 o, .int .i64 i] 40)
  have k0 : K8 w.heap.size w w.heap.size s t f l p (w.heap.size + 1) k o i ((w.alloc (.cells #[.int .i64 s, .int .i64 t, .int .i64 f, .int .i64 l, .int .i64 p] 23)).alloc (.cells #[.int .i64 k, .int .i64 o, .int .i64 i] 40)) := ⟨⟨by simp, by simp, by simp, by simp, by simp, B2, by simp; omega⟩, by simp, by simp, by simp⟩
  have HK := Lib.hid k0
  have HG := Lib.hid hG
  have AW := Lib.hid awake8_any
  have hG2 := hG.next B2
  have N := Lib.hid (new_yes s t f l p _ hG2 ok)
  have T := Lib.hid (fun W => atBd hat W l p (.inl ok))
  have RW := Lib.hid (rwrong_yes s t f l p ok)
  obtain ⟨⟨a1, a2⟩, ⟨a3, a4⟩, ⟨a5, a6⟩, a7, a8⟩ := ok
  clear hat hG hG2 B2 k0 a7 a8
  go_enter Tryd.func6, Tryd.ntmps6
  go_wp2_with (first
    | (go_at_call 17; refine N.out.mono ?_; rintro e u1 ⟨rfl, hn⟩; have h1 := HK.out.next hn; clear hn; have d0 := h1.d0; have d1 := h1.d1; have d2 := h1.d2; have z1 : w.heap.size + 1 < u1.heap.size := World.block_lt_of_cell? u1 _ d0; have z0 : w.heap.size < u1.heap.size := by omega)
    | (go_at_call 22; refine (T.out _).mono ?_; rintro e u2 ⟨rfl, hn⟩; have h2 := (h1.next (below1 _ _)).next hn; clear hn h1 d0 d1 d2 z0 z1; have c0 := h2.c0; have c1 := h2.c1; have c2 := h2.c2; have c3 := h2.c3; have c4 := h2.c4)
    | (go_at_call 10; refine (RW.out _).mono ?_; rintro e u3 ⟨rfl, hn⟩; have h3 := h2.next hn; clear hn h2 c0 c1 c2 c3 c4; have c0 := h3.c0; have c1 := h3.c1; have c2 := h3.c2; have d0 := h3.d0; have d1 := h3.d1; have d2 := h3.d2; have BL := Lib.hid h3.bl; have LE := Lib.hid h3.le; clear h3)
    | (go_at_call 24; refine (PL.out _).mono ?_; rintro e u3 ⟨rfl, hn⟩; have h3 := h2.next hn; clear hn h2 c0 c1 c2 c3 c4; have d0 := h3.d0; have d1 := h3.d1; have d2 := h3.d2; have BL := Lib.hid h3.bl; have LE := Lib.hid h3.le; clear h3)
    | (go_at_call 23; refine (AW.out _ (HG.out.next BL.out)).mono ?_; rintro e u4 ⟨rfl, h4⟩))
  go_ret
  exact ⟨rfl, BL.out.trans (h4.mono LE.out)⟩
set_option maxRecDepth 100000 in
set_option maxHeartbeats 4000000 in
theorem no_key1 (w : World) (hG : GL w) (s t f l p k o i : Int) (ok : okC s t f l p) (hat : atL s t f k o i = -1) (q0 : 9 ≤ k) (q1 : k ≤ 10) (q2 : o < 0) :
    Calls Tryd.prog 6 #[cfgV s t f l p, placeV k o i] w fun e w' => e = .returned (.bool true) ∧ Below w.heap.size w w' := by
  have B2 := below2 w (.cells #[.int .i64 s, .int .i64 t, .int .i64 f, .int .i64 l, .int .i64 p] 23) (.cells #[.int .i64 k, .int .i64 o, .int .i64 i] 40)
  have k0 : K8 w.heap.size w w.heap.size s t f l p (w.heap.size + 1) k o i ((w.alloc (.cells #[.int .i64 s, .int .i64 t, .int .i64 f, .int .i64 l, .int .i64 p] 23)).alloc (.cells #[.int .i64 k, .int .i64 o, .int .i64 i] 40)) := ⟨⟨by simp, by simp, by simp, by simp, by simp, B2, by simp; omega⟩, by simp, by simp, by simp⟩
  have HK := Lib.hid k0
  have HG := Lib.hid hG
  have AW := Lib.hid awake8_any
  have hG2 := hG.next B2
  have N := Lib.hid (new_yes s t f l p _ hG2 ok)
  have T := Lib.hid (fun W => atBd hat W l p (.inl ok))
  have RW := Lib.hid (rwrong_yes s t f l p ok)
  obtain ⟨⟨a1, a2⟩, ⟨a3, a4⟩, ⟨a5, a6⟩, a7, a8⟩ := ok
  clear hat hG hG2 B2 k0 a7 a8
  go_enter Tryd.func6, Tryd.ntmps6
  go_wp2_with (first
    | (go_at_call 17; refine N.out.mono ?_; rintro e u1 ⟨rfl, hn⟩; have h1 := HK.out.next hn; clear hn; have d0 := h1.d0; have d1 := h1.d1; have d2 := h1.d2; have z1 : w.heap.size + 1 < u1.heap.size := World.block_lt_of_cell? u1 _ d0; have z0 : w.heap.size < u1.heap.size := by omega)
    | (go_at_call 22; refine (T.out _).mono ?_; rintro e u2 ⟨rfl, hn⟩; have h2 := (h1.next (below1 _ _)).next hn; clear hn h1 d0 d1 d2 z0 z1; have c0 := h2.c0; have c1 := h2.c1; have c2 := h2.c2; have c3 := h2.c3; have c4 := h2.c4)
    | (go_at_call 10; refine (RW.out _).mono ?_; rintro e u3 ⟨rfl, hn⟩; have h3 := h2.next hn; clear hn h2 c0 c1 c2 c3 c4; have c0 := h3.c0; have c1 := h3.c1; have c2 := h3.c2; have d0 := h3.d0; have d1 := h3.d1; have d2 := h3.d2; have BL := Lib.hid h3.bl; have LE := Lib.hid h3.le; clear h3)
    | (go_at_call 24; refine (PL.out _).mono ?_; rintro e u3 ⟨rfl, hn⟩; have h3 := h2.next hn; clear hn h2 c0 c1 c2 c3 c4; have d0 := h3.d0; have d1 := h3.d1; have d2 := h3.d2; have BL := Lib.hid h3.bl; have LE := Lib.hid h3.le; clear h3)
    | (go_at_call 23; refine (AW.out _ (HG.out.next BL.out)).mono ?_; rintro e u4 ⟨rfl, h4⟩))
  go_ret
  exact ⟨rfl, BL.out.trans (h4.mono LE.out)⟩
set_option maxRecDepth 100000 in
set_option maxHeartbeats 4000000 in
theorem no_key2 (w : World) (hG : GL w) (s t f l p k o i : Int) (ok : okC s t f l p) (hat : atL s t f k o i = -1) (q0 : 9 ≤ k) (q1 : k ≤ 10) (q2 : 0 ≤ o) (q3 : s < o) :
    Calls Tryd.prog 6 #[cfgV s t f l p, placeV k o i] w fun e w' => e = .returned (.bool true) ∧ Below w.heap.size w w' := by
  have B2 := below2 w (.cells #[.int .i64 s, .int .i64 t, .int .i64 f, .int .i64 l, .int .i64 p] 23) (.cells #[.int .i64 k, .int .i64 o, .int .i64 i] 40)
  have k0 : K8 w.heap.size w w.heap.size s t f l p (w.heap.size + 1) k o i ((w.alloc (.cells #[.int .i64 s, .int .i64 t, .int .i64 f, .int .i64 l, .int .i64 p] 23)).alloc (.cells #[.int .i64 k, .int .i64 o, .int .i64 i] 40)) := ⟨⟨by simp, by simp, by simp, by simp, by simp, B2, by simp; omega⟩, by simp, by simp, by simp⟩
  have HK := Lib.hid k0
  have HG := Lib.hid hG
  have AW := Lib.hid awake8_any
  have hG2 := hG.next B2
  have N := Lib.hid (new_yes s t f l p _ hG2 ok)
  have T := Lib.hid (fun W => atBd hat W l p (.inl ok))
  have RW := Lib.hid (rwrong_yes s t f l p ok)
  obtain ⟨⟨a1, a2⟩, ⟨a3, a4⟩, ⟨a5, a6⟩, a7, a8⟩ := ok
  clear hat hG hG2 B2 k0 a7 a8
  go_enter Tryd.func6, Tryd.ntmps6
  go_wp2_with (first
    | (go_at_call 17; refine N.out.mono ?_; rintro e u1 ⟨rfl, hn⟩; have h1 := HK.out.next hn; clear hn; have d0 := h1.d0; have d1 := h1.d1; have d2 := h1.d2; have z1 : w.heap.size + 1 < u1.heap.size := World.block_lt_of_cell? u1 _ d0; have z0 : w.heap.size < u1.heap.size := by omega)
    | (go_at_call 22; refine (T.out _).mono ?_; rintro e u2 ⟨rfl, hn⟩; have h2 := (h1.next (below1 _ _)).next hn; clear hn h1 d0 d1 d2 z0 z1; have c0 := h2.c0; have c1 := h2.c1; have c2 := h2.c2; have c3 := h2.c3; have c4 := h2.c4)
    | (go_at_call 10; refine (RW.out _).mono ?_; rintro e u3 ⟨rfl, hn⟩; have h3 := h2.next hn; clear hn h2 c0 c1 c2 c3 c4; have c0 := h3.c0; have c1 := h3.c1; have c2 := h3.c2; have d0 := h3.d0; have d1 := h3.d1; have d2 := h3.d2; have BL := Lib.hid h3.bl; have LE := Lib.hid h3.le; clear h3)
    | (go_at_call 24; refine (PL.out _).mono ?_; rintro e u3 ⟨rfl, hn⟩; have h3 := h2.next hn; clear hn h2 c0 c1 c2 c3 c4; have d0 := h3.d0; have d1 := h3.d1; have d2 := h3.d2; have BL := Lib.hid h3.bl; have LE := Lib.hid h3.le; clear h3)
    | (go_at_call 23; refine (AW.out _ (HG.out.next BL.out)).mono ?_; rintro e u4 ⟨rfl, h4⟩))
  go_ret
  exact ⟨rfl, BL.out.trans (h4.mono LE.out)⟩
set_option maxRecDepth 100000 in
set_option maxHeartbeats 4000000 in
theorem no_key3 (w : World) (hG : GL w) (s t f l p k o i : Int) (ok : okC s t f l p) (hat : atL s t f k o i = -1) (q0 : 9 ≤ k) (q1 : k ≤ 10) (q2 : 0 ≤ o) (q3 : o ≤ s) (q4 : i < 0) :
    Calls Tryd.prog 6 #[cfgV s t f l p, placeV k o i] w fun e w' => e = .returned (.bool true) ∧ Below w.heap.size w w' := by
  have B2 := below2 w (.cells #[.int .i64 s, .int .i64 t, .int .i64 f, .int .i64 l, .int .i64 p] 23) (.cells #[.int .i64 k, .int .i64 o, .int .i64 i] 40)
  have k0 : K8 w.heap.size w w.heap.size s t f l p (w.heap.size + 1) k o i ((w.alloc (.cells #[.int .i64 s, .int .i64 t, .int .i64 f, .int .i64 l, .int .i64 p] 23)).alloc (.cells #[.int .i64 k, .int .i64 o, .int .i64 i] 40)) := ⟨⟨by simp, by simp, by simp, by simp, by simp, B2, by simp; omega⟩, by simp, by simp, by simp⟩
  have HK := Lib.hid k0
  have HG := Lib.hid hG
  have AW := Lib.hid awake8_any
  have hG2 := hG.next B2
  have N := Lib.hid (new_yes s t f l p _ hG2 ok)
  have T := Lib.hid (fun W => atBd hat W l p (.inl ok))
  have RW := Lib.hid (rwrong_yes s t f l p ok)
  obtain ⟨⟨a1, a2⟩, ⟨a3, a4⟩, ⟨a5, a6⟩, a7, a8⟩ := ok
  clear hat hG hG2 B2 k0 a7 a8
  go_enter Tryd.func6, Tryd.ntmps6
  go_wp2_with (first
    | (go_at_call 17; refine N.out.mono ?_; rintro e u1 ⟨rfl, hn⟩; have h1 := HK.out.next hn; clear hn; have d0 := h1.d0; have d1 := h1.d1; have d2 := h1.d2; have z1 : w.heap.size + 1 < u1.heap.size := World.block_lt_of_cell? u1 _ d0; have z0 : w.heap.size < u1.heap.size := by omega)
    | (go_at_call 22; refine (T.out _).mono ?_; rintro e u2 ⟨rfl, hn⟩; have h2 := (h1.next (below1 _ _)).next hn; clear hn h1 d0 d1 d2 z0 z1; have c0 := h2.c0; have c1 := h2.c1; have c2 := h2.c2; have c3 := h2.c3; have c4 := h2.c4)
    | (go_at_call 10; refine (RW.out _).mono ?_; rintro e u3 ⟨rfl, hn⟩; have h3 := h2.next hn; clear hn h2 c0 c1 c2 c3 c4; have c0 := h3.c0; have c1 := h3.c1; have c2 := h3.c2; have d0 := h3.d0; have d1 := h3.d1; have d2 := h3.d2; have BL := Lib.hid h3.bl; have LE := Lib.hid h3.le; clear h3)
    | (go_at_call 24; refine (PL.out _).mono ?_; rintro e u3 ⟨rfl, hn⟩; have h3 := h2.next hn; clear hn h2 c0 c1 c2 c3 c4; have d0 := h3.d0; have d1 := h3.d1; have d2 := h3.d2; have BL := Lib.hid h3.bl; have LE := Lib.hid h3.le; clear h3)
    | (go_at_call 23; refine (AW.out _ (HG.out.next BL.out)).mono ?_; rintro e u4 ⟨rfl, h4⟩))
  go_ret
  exact ⟨rfl, BL.out.trans (h4.mono LE.out)⟩
set_option maxRecDepth 100000 in
set_option maxHeartbeats 4000000 in
theorem no_key4 (w : World) (hG : GL w) (s t f l p k o i : Int) (ok : okC s t f l p) (hat : atL s t f k o i = -1) (q0 : 9 ≤ k) (q1 : k ≤ 10) (q2 : 0 ≤ o) (q3 : o ≤ s) (q4 : 0 ≤ i) (q5 : f ≤ i) :
    Calls Tryd.prog 6 #[cfgV s t f l p, placeV k o i] w fun e w' => e = .returned (.bool true) ∧ Below w.heap.size w w' := by
  have B2 := below2 w (.cells #[.int .i64 s, .int .i64 t, .int .i64 f, .int .i64 l, .int .i64 p] 23) (.cells #[.int .i64 k, .int .i64 o, .int .i64 i] 40)
  have k0 : K8 w.heap.size w w.heap.size s t f l p (w.heap.size + 1) k o i ((w.alloc (.cells #[.int .i64 s, .int .i64 t, .int .i64 f, .int .i64 l, .int .i64 p] 23)).alloc (.cells #[.int .i64 k, .int .i64 o, .int .i64 i] 40)) := ⟨⟨by simp, by simp, by simp, by simp, by simp, B2, by simp; omega⟩, by simp, by simp, by simp⟩
  have HK := Lib.hid k0
  have HG := Lib.hid hG
  have AW := Lib.hid awake8_any
  have hG2 := hG.next B2
  have N := Lib.hid (new_yes s t f l p _ hG2 ok)
  have T := Lib.hid (fun W => atBd hat W l p (.inl ok))
  have RW := Lib.hid (rwrong_yes s t f l p ok)
  obtain ⟨⟨a1, a2⟩, ⟨a3, a4⟩, ⟨a5, a6⟩, a7, a8⟩ := ok
  clear hat hG hG2 B2 k0 a7 a8
  go_enter Tryd.func6, Tryd.ntmps6
  go_wp2_with (first
    | (go_at_call 17; refine N.out.mono ?_; rintro e u1 ⟨rfl, hn⟩; have h1 := HK.out.next hn; clear hn; have d0 := h1.d0; have d1 := h1.d1; have d2 := h1.d2; have z1 : w.heap.size + 1 < u1.heap.size := World.block_lt_of_cell? u1 _ d0; have z0 : w.heap.size < u1.heap.size := by omega)
    | (go_at_call 22; refine (T.out _).mono ?_; rintro e u2 ⟨rfl, hn⟩; have h2 := (h1.next (below1 _ _)).next hn; clear hn h1 d0 d1 d2 z0 z1; have c0 := h2.c0; have c1 := h2.c1; have c2 := h2.c2; have c3 := h2.c3; have c4 := h2.c4)
    | (go_at_call 10; refine (RW.out _).mono ?_; rintro e u3 ⟨rfl, hn⟩; have h3 := h2.next hn; clear hn h2 c0 c1 c2 c3 c4; have c0 := h3.c0; have c1 := h3.c1; have c2 := h3.c2; have d0 := h3.d0; have d1 := h3.d1; have d2 := h3.d2; have BL := Lib.hid h3.bl; have LE := Lib.hid h3.le; clear h3)
    | (go_at_call 24; refine (PL.out _).mono ?_; rintro e u3 ⟨rfl, hn⟩; have h3 := h2.next hn; clear hn h2 c0 c1 c2 c3 c4; have d0 := h3.d0; have d1 := h3.d1; have d2 := h3.d2; have BL := Lib.hid h3.bl; have LE := Lib.hid h3.le; clear h3)
    | (go_at_call 23; refine (AW.out _ (HG.out.next BL.out)).mono ?_; rintro e u4 ⟨rfl, h4⟩))
  go_ret
  exact ⟨rfl, BL.out.trans (h4.mono LE.out)⟩
set_option maxRecDepth 100000 in
set_option maxHeartbeats 4000000 in
theorem yes_place (w : World) (hG : GL w) (s t f l p k o i : Int) (ok : okC s t f l p) (hat : 0 ≤ atL s t f k o i) :
    Calls Tryd.prog 6 #[cfgV s t f l p, placeV k o i] w fun e w' => e = .returned (.bool true) ∧ Below w.heap.size w w' := by
  have B2 := below2 w (.cells #[.int .i64 s, .int .i64 t, .int .i64 f, .int .i64 l, .int .i64 p] 23) (.cells #[.int .i64 k, .int .i64 o, .int .i64 i] 40)
  have k0 : K8 w.heap.size w w.heap.size s t f l p (w.heap.size + 1) k o i ((w.alloc (.cells #[.int .i64 s, .int .i64 t, .int .i64 f, .int .i64 l, .int .i64 p] 23)).alloc (.cells #[.int .i64 k, .int .i64 o, .int .i64 i] 40)) := ⟨⟨by simp, by simp, by simp, by simp, by simp, B2, by simp; omega⟩, by simp, by simp, by simp⟩
  have HK := Lib.hid k0
  have HG := Lib.hid hG
  have AW := Lib.hid awake8_any
  have hG2 := hG.next B2
  have N := Lib.hid (new_yes s t f l p _ hG2 ok)
  have T := at_any s t f l p k o i (.inl ok)
  obtain ⟨q1, q2⟩ := at_what ok.1.1 ok.2.1.1 ok.2.2.1.1 hat
  have PL := place_in s t f l p _ ok hat q1
  rw [q2] at PL
  have PL := Lib.hid (show ∀ W, Calls Tryd.prog 24 #[cfgV s t f l p, .int .i64 (atL s t f k o i)] W fun e w' => e = .returned (.tuple #[.int .i64 k, .int .i64 o, .int .i64 i]) ∧ Below W.heap.size W w' from PL)
  clear q1 q2 ok hG hG2 B2 k0
  generalize atL s t f k o i = x at T PL hat
  have T := Lib.hid T
  go_enter Tryd.func6, Tryd.ntmps6
  go_wp2_with (first
    | (go_at_call 17; refine N.out.mono ?_; rintro e u1 ⟨rfl, hn⟩; have h1 := HK.out.next hn; clear hn; have d0 := h1.d0; have d1 := h1.d1; have d2 := h1.d2; have z1 : w.heap.size + 1 < u1.heap.size := World.block_lt_of_cell? u1 _ d0; have z0 : w.heap.size < u1.heap.size := by omega)
    | (go_at_call 22; refine (T.out _).mono ?_; rintro e u2 ⟨rfl, hn⟩; have h2 := (h1.next (below1 _ _)).next hn; clear hn h1 d0 d1 d2 z0 z1; have c0 := h2.c0; have c1 := h2.c1; have c2 := h2.c2; have c3 := h2.c3; have c4 := h2.c4)
    | (go_at_call 10; refine (RW.out _).mono ?_; rintro e u3 ⟨rfl, hn⟩; have h3 := h2.next hn; clear hn h2 c0 c1 c2 c3 c4; have c0 := h3.c0; have c1 := h3.c1; have c2 := h3.c2; have d0 := h3.d0; have d1 := h3.d1; have d2 := h3.d2; have BL := Lib.hid h3.bl; have LE := Lib.hid h3.le; clear h3)
    | (go_at_call 24; refine (PL.out _).mono ?_; rintro e u3 ⟨rfl, hn⟩; have h3 := h2.next hn; clear hn h2 c0 c1 c2 c3 c4; have d0 := h3.d0; have d1 := h3.d1; have d2 := h3.d2; have BL := Lib.hid h3.bl; have LE := Lib.hid h3.le; clear h3)
    | (go_at_call 23; refine (AW.out _ (HG.out.next BL.out)).mono ?_; rintro e u4 ⟨rfl, h4⟩))
  go_ret
  exact ⟨rfl, BL.out.trans (h4.mono LE.out)⟩
set_option maxRecDepth 100000 in
set_option maxHeartbeats 4000000 in
theorem no_conf (w : World) (hG : GL w) (s t f l p k o i : Int) (ok : ¬ okC s t f l p) :
    Calls Tryd.prog 6 #[cfgV s t f l p, placeV k o i] w fun e w' => e = .returned (.bool true) ∧ Below w.heap.size w w' := by
  have B2 := below2 w (.cells #[.int .i64 s, .int .i64 t, .int .i64 f, .int .i64 l, .int .i64 p] 23) (.cells #[.int .i64 k, .int .i64 o, .int .i64 i] 40)
  have k0 : K8 w.heap.size w w.heap.size s t f l p (w.heap.size + 1) k o i ((w.alloc (.cells #[.int .i64 s, .int .i64 t, .int .i64 f, .int .i64 l, .int .i64 p] 23)).alloc (.cells #[.int .i64 k, .int .i64 o, .int .i64 i] 40)) := ⟨⟨by simp, by simp, by simp, by simp, by simp, B2, by simp; omega⟩, by simp, by simp, by simp⟩
  have HK := Lib.hid k0
  have HG := Lib.hid hG
  have AW := Lib.hid awake8_any
  have hG2 := hG.next B2
  have N := Lib.hid (new_no s t f l p _ hG2 ok)
  obtain ⟨r, _, hr, RW⟩ := rwrong_no s t f l p ok
  have RW := Lib.hid RW
  have z : atL 0 0 0 k o i = -1 := by
    unfold atL
    (repeat' split) <;> omega
  have T := Lib.hid (fun W => atBd z W 0 0 (.inr ⟨rfl, rfl, rfl, rfl, rfl⟩))
  clear z ok hG hG2 B2 k0
  go_enter Tryd.func6, Tryd.ntmps6
  go_wp2_with (first
    | (go_at_call 17; refine N.out.mono ?_; rintro e u1 ⟨rfl, hn⟩; have h1 := HK.out.next hn; clear hn; have d0 := h1.d0; have d1 := h1.d1; have d2 := h1.d2; have z1 : w.heap.size + 1 < u1.heap.size := World.block_lt_of_cell? u1 _ d0; have z0 : w.heap.size < u1.heap.size := by omega)
    | (go_at_call 22; refine (T.out _).mono ?_; rintro e u2 ⟨rfl, hn⟩; have h2 := (h1.next (below1 _ _)).next hn; clear hn h1 d0 d1 d2 z0 z1; have c0 := h2.c0; have c1 := h2.c1; have c2 := h2.c2; have c3 := h2.c3; have c4 := h2.c4)
    | (go_at_call 10; refine (RW.out _).mono ?_; rintro e u3 ⟨rfl, hn⟩; have h3 := h2.next hn; clear hn h2 c0 c1 c2 c3 c4; have c0 := h3.c0; have c1 := h3.c1; have c2 := h3.c2; have d0 := h3.d0; have d1 := h3.d1; have d2 := h3.d2; have BL := Lib.hid h3.bl; have LE := Lib.hid h3.le; clear h3)
    | (go_at_call 24; refine (PL.out _).mono ?_; rintro e u3 ⟨rfl, hn⟩; have h3 := h2.next hn; clear hn h2 c0 c1 c2 c3 c4; have d0 := h3.d0; have d1 := h3.d1; have d2 := h3.d2; have BL := Lib.hid h3.bl; have LE := Lib.hid h3.le; clear h3)
    | (go_at_call 23; refine (AW.out _ (HG.out.next BL.out)).mono ?_; rintro e u4 ⟨rfl, h4⟩))
  go_ret
  exact ⟨rfl, BL.out.trans (h4.mono LE.out)⟩

set_option maxHeartbeats 4000000 in
theorem walk (w : World) (hG : GL w) (a0_0 : Int) (w0_0 : (Lit.int .i64 a0_0).wf = true) (a0_1 : Int) (w0_1 : (Lit.int .i64 a0_1).wf = true) (a0_2 : Int) (w0_2 : (Lit.int .i64 a0_2).wf = true) (a0_3 : Int) (w0_3 : (Lit.int .i64 a0_3).wf = true) (a0_4 : Int) (w0_4 : (Lit.int .i64 a0_4).wf = true) (a1_0 : Int) (w1_0 : (Lit.int .i64 a1_0).wf = true) (a1_1 : Int) (w1_1 : (Lit.int .i64 a1_1).wf = true) (a1_2 : Int) (w1_2 : (Lit.int .i64 a1_2).wf = true) :
    Calls Tryd.prog 6 #[.agg #[.int .i64 a0_0, .int .i64 a0_1, .int .i64 a0_2, .int .i64 a0_3, .int .i64 a0_4], .agg #[.int .i64 a1_0, .int .i64 a1_1, .int .i64 a1_2]] w fun e w' => e = .returned (.bool true) ∧ Below w.heap.size w w' := by
  by_cases ok : okC a0_0 a0_1 a0_2 a0_3 a0_4
  · rcases at_neg a0_0 a0_1 a0_2 a1_0 a1_1 a1_2 (by have := ok.1.1; omega) (by have := ok.2.1.1; omega) (by have := ok.2.2.1.1; omega) with hat | hat
    · have hb := noPlace ok.1.1 ok.2.1.1 ok.2.2.1.1 hat
      cases hb with
      | klo q0 => exact no_klo w hG _ _ _ _ _ _ _ _ ok hat q0
      | khi q0 => exact no_khi w hG _ _ _ _ _ _ _ _ ok hat q0
      | first1 q0 q1 q2 => exact no_first1 w hG _ _ _ _ _ _ _ _ ok hat q0 q1 q2
      | first2 q0 q1 q2 => exact no_first2 w hG _ _ _ _ _ _ _ _ ok hat q0 q1 q2
      | first3 q0 q1 q2 q3 => exact no_first3 w hG _ _ _ _ _ _ _ _ ok hat q0 q1 q2 q3
      | first4 q0 q1 q2 q3 => exact no_first4 w hG _ _ _ _ _ _ _ _ ok hat q0 q1 q2 q3
      | ann1 q0 q1 => exact no_ann1 w hG _ _ _ _ _ _ _ _ ok hat q0 q1
      | ann2 q0 q1 q2 => exact no_ann2 w hG _ _ _ _ _ _ _ _ ok hat q0 q1 q2
      | ann3 q0 q1 q2 q3 => exact no_ann3 w hG _ _ _ _ _ _ _ _ ok hat q0 q1 q2 q3
      | ann4 q0 q1 q2 q3 => exact no_ann4 w hG _ _ _ _ _ _ _ _ ok hat q0 q1 q2 q3
      | haz1 q0 q1 => exact no_haz1 w hG _ _ _ _ _ _ _ _ ok hat q0 q1
      | haz2 q0 q1 q2 => exact no_haz2 w hG _ _ _ _ _ _ _ _ ok hat q0 q1 q2
      | haz3 q0 q1 q2 q3 => exact no_haz3 w hG _ _ _ _ _ _ _ _ ok hat q0 q1 q2 q3
      | haz4 q0 q1 q2 q3 q4 => exact no_haz4 w hG _ _ _ _ _ _ _ _ ok hat q0 q1 q2 q3 q4
      | slot1 q0 q1 q2 => exact no_slot1 w hG _ _ _ _ _ _ _ _ ok hat q0 q1 q2
      | slot2 q0 q1 q2 q3 => exact no_slot2 w hG _ _ _ _ _ _ _ _ ok hat q0 q1 q2 q3
      | slot3 q0 q1 q2 q3 q4 => exact no_slot3 w hG _ _ _ _ _ _ _ _ ok hat q0 q1 q2 q3 q4
      | slot4 q0 q1 q2 q3 q4 => exact no_slot4 w hG _ _ _ _ _ _ _ _ ok hat q0 q1 q2 q3 q4
      | key1 q0 q1 q2 => exact no_key1 w hG _ _ _ _ _ _ _ _ ok hat q0 q1 q2
      | key2 q0 q1 q2 q3 => exact no_key2 w hG _ _ _ _ _ _ _ _ ok hat q0 q1 q2 q3
      | key3 q0 q1 q2 q3 q4 => exact no_key3 w hG _ _ _ _ _ _ _ _ ok hat q0 q1 q2 q3 q4
      | key4 q0 q1 q2 q3 q4 q5 => exact no_key4 w hG _ _ _ _ _ _ _ _ ok hat q0 q1 q2 q3 q4 q5
    · exact yes_place w hG _ _ _ _ _ _ _ _ ok hat
  · exact no_conf w hG _ _ _ _ _ _ _ _ ok

set_option maxRecDepth 100000 in
theorem lifted (os : Os) (started : os.Started) (H : Type) (enc : TypeId × Value → H) :
    ReturnsInHanded {} Tryd.checked os 6 .any (fun w args => (Rows.layoutAsksSpec.pre enc Tryd.prog Tryd.f6 [] false w args ∧ laidMetH Tryd.prog laidVars w) ∧ sizedMet enc Tryd.prog Tryd.f6 (OpenSpec.ofChange Rows.layoutAsksSpec) false w args)
      (Rows.layoutAsksSpec.post enc Tryd.prog Tryd.f6 false true false false) := by
  refine returnsInHanded_of_change_and (C := Tryd.checked) (X := fun w _ => laidMetH Tryd.prog laidVars w) (fun _ _ _ hh h => h.of_heap hh) own started (by kernel_rfl) Tryd.func6
    (ChangeSpec.witness_shaped (enc := enc) (C := Tryd.checked) (os := os) (X := fun w _ => laidMetH Tryd.prog laidVars w) false (World.doorLaid Tryd.prog 400 os) #[.agg #[.int .i64 0, .int .i64 0, .int .i64 0, .int .i64 0, .int .i64 0], .agg #[.int .i64 0, .int .i64 0, .int .i64 0]] 8 rfl (World.shaped_of_RefB (by kernel_rfl) (by kernel_rfl)) (by kernel_rfl) (by kernel_rfl) (by kernel_rfl) (door_met os _)) ?_
  intro W base args ds gs before hval0 hW _ _ hL _
  have hval : ∀ (j : Nat) t v, Tryd.f6.params[j]? = some t → args[j]? = some v → Value.okWide Tryd.prog W .any base t v := hval0
  have hW' := hW
  obtain ⟨p, q, hA0, hV, rfl, hfz, hnd⟩ := hW
  have hA : DataW.TrodAll enc Tryd.prog W 0 (fun _ => true) true Tryd.f6.params.toList args.toList ds p := hA0
  rw [Tryd.params6] at hA hval
  obtain ⟨v0, vs0, d0, ds0, p0, q0, hargs, rfl, rfl, h0, r0⟩ := trodAll_cons hA
  obtain ⟨v1, vs1, d1, ds1, p1, q1, rfl, rfl, rfl, h1, r1⟩ := trodAll_cons r0
  obtain ⟨rfl, rfl, rfl⟩ := trodAll_nil r1
  obtain rfl : args = #[v0, v1] := by cases args; simp_all
  obtain ⟨rfl, rfl⟩ := trodVars_none hV
  have k0 := h0
  obtain ⟨ns0, h0l, h0v, h0w⟩ := open_intStruct [.i64, .i64, .i64, .i64, .i64] Tryd.underlying23 (by kernel_rfl) (by kernel_rfl) rfl (hval 0 23 v0 rfl rfl) h0
  obtain ⟨a0_0, a0_1, a0_2, a0_3, a0_4, rfl⟩ := list5 h0l
  obtain rfl : v0 = .agg #[.int .i64 a0_0, .int .i64 a0_1, .int .i64 a0_2, .int .i64 a0_3, .int .i64 a0_4] := h0v
  have k1 := h1
  obtain ⟨ns1, h1l, h1v, h1w⟩ := open_intStruct [.i64, .i64, .i64] Tryd.underlying40 (by kernel_rfl) (by kernel_rfl) rfl (hval 1 40 v1 rfl rfl) h1
  obtain ⟨a1_0, a1_1, a1_2, rfl⟩ := list3 h1l
  obtain rfl : v1 = .agg #[.int .i64 a1_0, .int .i64 a1_1, .int .i64 a1_2] := h1v
  clear hA0 hval0
  simp only [List.append_nil] at hW'
  have hlt0 : ∀ x ∈ p0, x.block < W.heap.size := fun x hx => by simpa using hW'.lt x (by simp [hx])
  have hlt1 : ∀ x ∈ p1, x.block < W.heap.size := fun x hx => by simpa using hW'.lt x (by simp [hx])
  refine (walk W (of_laid hL) a0_0 (h0w 0 .i64 _ rfl rfl) a0_1 (h0w 1 .i64 _ rfl rfl) a0_2 (h0w 2 .i64 _ rfl rfl) a0_3 (h0w 3 .i64 _ rfl rfl) a0_4 (h0w 4 .i64 _ rfl rfl) a1_0 (h1w 0 .i64 _ rfl rfl) a1_1 (h1w 1 .i64 _ rfl rfl) a1_2 (h1w 2 .i64 _ rfl rfl)).mono fun e W' ⟨he, hg⟩ => ?_
  subst he
  exact ⟨_, rfl, post_of_below2 (pv := []) hW' (fun _ _ _ => (trodAll_cons_mk (shut_bool Tryd.underlying4 _) trodAll_mk0)) (trodAll_cons_mk (Below.trod laidOut (by kernel_rfl) (of_decide_eq_true (by kernel_rfl)) k0 hg hlt0) (trodAll_cons_mk (Below.trod laidOut (by kernel_rfl) (of_decide_eq_true (by kernel_rfl)) k1 hg hlt1) trodAll_mk0)) rfl (by simp) (hg.frame _)⟩

theorem over : Rows.layoutAsksRow.holds Tryd.pinned (OpenSpec.ofChange Rows.layoutAsksSpec) :=
  OpenClaim.holds_of_wide 6 Tryd.f6 rfl rfl rfl rfl rfl rfl rfl ⟨rfl, rfl, rfl, rfl, rfl⟩ rfl rfl rfl rfl rfl (by kernel_rfl) Tryd.func6 (by kernel_rfl)
    (of_decide_eq_true (by kernel_rfl)) (by unfold Func.isWrapper; first | (rw [if_pos (by decide +kernel)]; kernel_rfl) | (rw [if_neg (by decide +kernel)]; exact ⟨rfl, rfl⟩))
    (fun os started H enc _ => lifted os started H enc)

theorem row : Rows.LayoutAsksSaid := over

theorem proved : Rows.LayoutAsksCardSaid :=
  Claim7.holds_tied_plain_at .later [] [.handle, .data] true (true, "04d71bb65f25117ba4a24a6d38c834f93d71cbffd0e20c92228e3fe5676ac4f0") true
    row (fun _ h => by cases h) (by kernel_rfl) (fun _ h => by cases h) layoutAsks_row_tie rfl ⟨rfl, rfl⟩ (by kernel_rfl) rfl
    (fun f fn hf hfn => by
      obtain rfl : f = 6 := Option.some.inj ((show Tryd.prog.funcNamed "gleaning/gleaninglaw08.LayoutAsks" = some 6 by kernel_rfl).symm.trans hf) |>.symm
      obtain rfl : fn = Tryd.f6 := (Option.some.inj (Tryd.func6.symm.trans hfn)).symm
      exact ⟨by kernel_rfl, fun j t ht => by
        rw [Tryd.params6] at ht
        have hm : t ∈ [23, 40] := by simpa using Array.mem_of_getElem? ht
        have hall : ([23, 40].all fun u => !Tryd.prog.wantsStandIn u) = true := by kernel_rfl
        exact (show Tryd.prog.wantsStandIn t = false by simpa using List.all_eq_true.1 hall t hm)⟩)
    (by kernel_rfl)

#print axioms proved
end Go.Proofs.YtcdmcnncigfclaaDoor.layoutAsks
