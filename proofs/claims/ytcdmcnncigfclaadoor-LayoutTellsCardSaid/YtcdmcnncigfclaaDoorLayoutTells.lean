/- gleaninglaw08.LayoutTells: for every input the law returns true, and leaves its arguments as they were. The package-level variables that it reads hold what the program's text lays in them (a tied card); no other condition. -/
import Derived.Test.YtcdmcnncigfclaaDoorRows
import Derived.WalkKit
import Derived.Test.YtcdmcnncigfclaaDoorCards
import Derived.Test.YtcdmcnncigfclaaDoorTie
import Derived.Test.YtcdmcnncigfclaaDoorLaid
import Derived.SevenTiedAt
import Derived.Test.YtcdmcnncigfclaaDoorOpen
import Derived.Deep.QuietTactic
import Derived.BigQuiet
import Derived.Test.YtcdmcnncigfclaaDoorTells
import Derived.Test.YtcdmcnncigfclaaDoorTail
import Derived.Test.YtcdmcnncigfclaaDoorLaid
import Derived.Test.YtcdmcnncigfclaaDoorOpen
import Derived.Test.YtcdmcnncigfclaaDoorFrame
import Derived.ProofKit
import Derived.OpenShut
namespace Go.Proofs.YtcdmcnncigfclaaDoor.layoutTells
open Go.ChangeShapes Go.WideShapes Go.ChangeAt Go.RowKit
set_option linter.unusedVariables false

theorem own : ownKnob Tryd.prog.godebug = none := by kernel_rfl
theorem laidOut : laidOutB Tryd.prog = true := by kernel_rfl
set_option maxRecDepth 100000 in
set_option maxHeartbeats 4000000 in
theorem tells_no (w : World) (hG : GL w) (s t f l p at' : Int) (ok : ¬ okC s t f l p) :
    Calls Tryd.prog 5 #[cfgV s t f l p, .int .i64 at'] w fun e w' => e = .returned (.bool true) ∧ Below w.heap.size w w' := by
  have B1 := below1 w (.cells #[.int .i64 s, .int .i64 t, .int .i64 f, .int .i64 l, .int .i64 p] 23)
  have k0 : K5 w.heap.size w w.heap.size s t f l p (w.alloc (.cells #[.int .i64 s, .int .i64 t, .int .i64 f, .int .i64 l, .int .i64 p] 23)) := ⟨by simp, by simp, by simp, by simp, by simp, B1, by simp⟩
  have HK := Lib.hid k0
  have HG := Lib.hid hG
  have AW := Lib.hid awake8_any
  have hG2 := hG.next B1
  have hz : okL 0 0 0 0 0 := .inr ⟨rfl, rfl, rfl, rfl, rfl⟩
  have N := Lib.hid (new_no s t f l p _ hG2 ok)
  have S := Lib.hid (show ∀ W, Calls Tryd.prog 18 #[layV 0 0 0 0 0] W fun e w' => e = .returned (.int .i64 0) ∧ Below W.heap.size W w' from fun W => by have := size_any 0 0 0 0 0 hz W; rw [show sizeL 0 0 0 = 0 from rfl] at this; exact this)
  have RS := Lib.hid (rsize_no s t f l p ok)
  have C := Lib.hid (config_any 0 0 0 0 0)
  have X := Lib.hid (whatZ_any at')
  have T := Lib.hid (show ∀ W, Calls Tryd.prog 22 #[layV 0 0 0 0 0, placeV 1 0 0] W fun e w' => e = .returned (.int .i64 (-1)) ∧ Below W.heap.size W w' from fun W => by have := at_any 0 0 0 0 0 1 0 0 hz W; rw [show atL 0 0 0 1 0 0 = -1 from rfl] at this; exact this)
  obtain ⟨wk, _, hwk, hRW⟩ := rwrong_no s t f l p ok
  have RW := Lib.hid hRW
  clear hz hRW ok hG hG2 B1 k0
  go_enter Tryd.func5, Tryd.ntmps5
  go_wp2_with (go_at_call 17; refine N.out.mono ?_; rintro e u1 ⟨rfl, hn⟩; have hk1 := HK.out.next hn; clear hn HK)
  have HD := Lib.hid (KD.start hk1 0 0 0 0 0 35).drew
  clear hk1
  refine wp_region_class (C := KD w.heap.size w w.heap.size s t f l p u1.heap.size 0 0 0 0 0) (by kernel_rfl) (by kernel_rfl) (HD.out) ?_
  repeat (first
    | go_big_quiet_skip
    | (go_big_quiet_want; go_big_quiet_op; go_big_quiet_on)
    | (go_big_quiet_want; go_big_quiet_op; refine ⟨_, fun _ _ => rfl, ?_⟩; go_big_quiet_on)
    | (go_big_quiet_want
       apply quiet_mk
       · intro u hu
         have c0 := hu.c0; have c1 := hu.c1; have c2 := hu.c2; have c3 := hu.c3; have c4 := hu.c4; have e0 := hu.e0; have e1 := hu.e1; have e2 := hu.e2; have e3 := hu.e3; have e4 := hu.e4
         have HU := Lib.hid hu
         clear hu
         go_simp
         first
           | with_reducible rfl
           | (go_at_call 18; refine (S.out _).mono ?_; rintro e w' ⟨rfl, hn⟩; exact ⟨rfl, HU.out.next hn⟩) | (go_at_call 19; refine (RS.out _).mono ?_; rintro e w' ⟨rfl, hn⟩; exact ⟨rfl, HU.out.next hn⟩)
       simp only [Act.put, List.setIfInBounds_toArray, List.set_cons_zero, List.set_cons_succ]
       go_big_quiet_on))
  refine wpQuiet_nil ?_
  intro u hu
  clear HD
  have c0 := hu.c0; have c1 := hu.c1; have c2 := hu.c2; have c3 := hu.c3; have c4 := hu.c4; have e0 := hu.e0; have e1 := hu.e1; have e2 := hu.e2; have e3 := hu.e3; have e4 := hu.e4
  have H0 := Lib.hid hu
  clear hu
  have k1 : True := trivial
  have k2 : True := trivial
  have k3 : True := trivial
  have k4 : True := trivial
  go_wp2_with (first
    | (go_at_call 10; have _k := k1; refine (RW.out _).mono ?_; rintro e v1 ⟨rfl, hn⟩; have g1 := H0.out.next hn; clear hn k1 c0 c1 c2 c3 c4 e0 e1 e2 e3 e4; have c0 := g1.c0; have c1 := g1.c1; have c2 := g1.c2; have c3 := g1.c3; have c4 := g1.c4; have e0 := g1.e0; have e1 := g1.e1; have e2 := g1.e2; have e3 := g1.e3; have e4 := g1.e4)
    | (go_at_call 20; have _k := k2; refine (C.out _).mono ?_; rintro e v2 ⟨rfl, hn⟩; have g2 := g1.next hn; clear hn k2 c0 c1 c2 c3 c4 e0 e1 e2 e3 e4; have c0 := g2.c0; have c1 := g2.c1; have c2 := g2.c2; have c3 := g2.c3; have c4 := g2.c4; have e0 := g2.e0; have e1 := g2.e1; have e2 := g2.e2; have e3 := g2.e3; have e4 := g2.e4)
    | (go_at_call 21; have _k := k3; refine (X.out _).mono ?_; rintro e v3 ⟨rfl, hn⟩; have g3 := g2.next hn; clear hn k3 c0 c1 c2 c3 c4 e0 e1 e2 e3 e4; have c0 := g3.c0; have c1 := g3.c1; have c2 := g3.c2; have c3 := g3.c3; have c4 := g3.c4; have e0 := g3.e0; have e1 := g3.e1; have e2 := g3.e2; have e3 := g3.e3; have e4 := g3.e4)
    | (go_at_call 22; have _k := k4; refine (T.out _).mono ?_; rintro e v4 ⟨rfl, hn⟩; have g4 := g3.next hn; clear hn k4 c0 c1 c2 c3 c4 e0 e1 e2 e3 e4; have c0 := g4.c0; have c1 := g4.c1; have c2 := g4.c2; have c3 := g4.c3; have c4 := g4.c4; have e0 := g4.e0; have e1 := g4.e1; have e2 := g4.e2; have e3 := g4.e3; have e4 := g4.e4; have BL := Lib.hid g4.bl; have LE := Lib.hid g4.le)
    | (go_at_call 23; refine (AW.out _ (HG.out.next BL.out)).mono ?_; rintro e u4 ⟨rfl, h4⟩))
  go_ret
  exact ⟨rfl, BL.out.trans (h4.mono LE.out)⟩
set_option maxRecDepth 100000 in
set_option maxHeartbeats 4000000 in
theorem tells_out (w : World) (hG : GL w) (s t f l p at' : Int) (ok : okC s t f l p) (h0 : at' < 0 ∨ sizeL s t f ≤ at') :
    Calls Tryd.prog 5 #[cfgV s t f l p, .int .i64 at'] w fun e w' => e = .returned (.bool true) ∧ Below w.heap.size w w' := by
  have B1 := below1 w (.cells #[.int .i64 s, .int .i64 t, .int .i64 f, .int .i64 l, .int .i64 p] 23)
  have k0 : K5 w.heap.size w w.heap.size s t f l p (w.alloc (.cells #[.int .i64 s, .int .i64 t, .int .i64 f, .int .i64 l, .int .i64 p] 23)) := ⟨by simp, by simp, by simp, by simp, by simp, B1, by simp⟩
  have HK := Lib.hid k0
  have HG := Lib.hid hG
  have AW := Lib.hid awake8_any
  have hG2 := hG.next B1
  have N := Lib.hid (new_yes s t f l p _ hG2 ok)
  have S := Lib.hid (size_any s t f l p (.inl ok))
  have RS := Lib.hid (rsize_yes s t f l p ok)
  have C := Lib.hid (config_any s t f l p)
  have RW := Lib.hid (rwrong_yes s t f l p ok)
  have hPL := fun W => place_out s t f l p at' ok h0 W
  have hX := fun W => what_any s t f l p at' ok W
  have hT := fun W => at_any s t f l p 0 0 0 (.inl ok) W
  rw [what_out h0] at hPL hX
  rw [show atL s t f 0 0 0 = -1 from rfl] at hT
  have T := Lib.hid hT
  clear hT h0
  have PL : RowKit.Hid (∀ W, Calls Tryd.prog 24 #[cfgV s t f l p, .int .i64 at'] W fun e w' => e = .returned (.tuple #[.int .i64 0, .int .i64 0, .int .i64 0]) ∧ Below W.heap.size W w') := Lib.hid hPL
  have X : RowKit.Hid (∀ W, Calls Tryd.prog 21 #[layV s t f l p, .int .i64 at'] W fun e w' => e = .returned (placeV 0 0 0) ∧ Below W.heap.size W w') := Lib.hid hX
  clear hPL hX ok hG hG2 B1 k0
  generalize sizeL s t f = n at S RS
  go_enter Tryd.func5, Tryd.ntmps5
  go_wp2_with (go_at_call 17; refine N.out.mono ?_; rintro e u1 ⟨rfl, hn⟩; have hk1 := HK.out.next hn; clear hn HK)
  have HD := Lib.hid (KD.start hk1 s t f l p 35).drew
  clear hk1
  refine wp_region_class (C := KD w.heap.size w w.heap.size s t f l p u1.heap.size s t f l p) (by kernel_rfl) (by kernel_rfl) (HD.out) ?_
  repeat (first
    | go_big_quiet_skip
    | (go_big_quiet_want; go_big_quiet_op; go_big_quiet_on)
    | (go_big_quiet_want; go_big_quiet_op; refine ⟨_, fun _ _ => rfl, ?_⟩; go_big_quiet_on)
    | (go_big_quiet_want
       apply quiet_mk
       · intro u hu
         have c0 := hu.c0; have c1 := hu.c1; have c2 := hu.c2; have c3 := hu.c3; have c4 := hu.c4; have e0 := hu.e0; have e1 := hu.e1; have e2 := hu.e2; have e3 := hu.e3; have e4 := hu.e4
         have HU := Lib.hid hu
         clear hu
         go_simp
         first
           | with_reducible rfl
           | (go_at_call 18; refine (S.out _).mono ?_; rintro e w' ⟨rfl, hn⟩; exact ⟨rfl, HU.out.next hn⟩) | (go_at_call 19; refine (RS.out _).mono ?_; rintro e w' ⟨rfl, hn⟩; exact ⟨rfl, HU.out.next hn⟩)
       simp only [Act.put, List.setIfInBounds_toArray, List.set_cons_zero, List.set_cons_succ]
       go_big_quiet_on))
  refine wpQuiet_nil ?_
  intro u hu
  clear HD
  have c0 := hu.c0; have c1 := hu.c1; have c2 := hu.c2; have c3 := hu.c3; have c4 := hu.c4; have e0 := hu.e0; have e1 := hu.e1; have e2 := hu.e2; have e3 := hu.e3; have e4 := hu.e4
  have H0 := Lib.hid hu
  clear hu
  have k1 : True := trivial
  have k2 : True := trivial
  have k3 : True := trivial
  go_wp2_with (first
    | (go_at_call 10; have _k := k1; refine (RW.out _).mono ?_; rintro e v1 ⟨rfl, hn⟩; have g1 := H0.out.next hn; clear hn k1 c0 c1 c2 c3 c4 e0 e1 e2 e3 e4; have c0 := g1.c0; have c1 := g1.c1; have c2 := g1.c2; have c3 := g1.c3; have c4 := g1.c4; have e0 := g1.e0; have e1 := g1.e1; have e2 := g1.e2; have e3 := g1.e3; have e4 := g1.e4)
    | (go_at_call 24; have _k := k2; refine (PL.out _).mono ?_; rintro e v2 ⟨rfl, hn⟩; have g2 := g1.next hn; clear hn k2 c0 c1 c2 c3 c4 e0 e1 e2 e3 e4; have c0 := g2.c0; have c1 := g2.c1; have c2 := g2.c2; have c3 := g2.c3; have c4 := g2.c4; have e0 := g2.e0; have e1 := g2.e1; have e2 := g2.e2; have e3 := g2.e3; have e4 := g2.e4)
    | (go_at_call 21; have _k := k3; refine (X.out _).mono ?_; rintro e v3 ⟨rfl, hn⟩; have g3 := g2.next hn; clear hn k3 c0 c1 c2 c3 c4 e0 e1 e2 e3 e4; have c0 := g3.c0; have c1 := g3.c1; have c2 := g3.c2; have c3 := g3.c3; have c4 := g3.c4; have e0 := g3.e0; have e1 := g3.e1; have e2 := g3.e2; have e3 := g3.e3; have e4 := g3.e4))
  have HP := Lib.hid (KP.start g3 0 0 0 40).drew
  clear g1 g2 g3 c0 c1 c2 c3 c4 e0 e1 e2 e3 e4
  refine wp_region_class (C := KP w.heap.size w w.heap.size s t f l p u1.heap.size s t f l p v3.heap.size 0 0 0) (by kernel_rfl) (by kernel_rfl) (HP.out) ?_
  repeat (first
    | go_big_quiet_skip
    | (go_big_quiet_want; go_big_quiet_op; go_big_quiet_on)
    | (go_big_quiet_want; go_big_quiet_op; refine ⟨_, fun _ _ => rfl, ?_⟩; go_big_quiet_on)
    | (go_big_quiet_want
       apply quiet_mk
       · intro u hu
         have c0 := hu.c0; have c1 := hu.c1; have c2 := hu.c2; have c3 := hu.c3; have c4 := hu.c4; have e0 := hu.e0; have e1 := hu.e1; have e2 := hu.e2; have e3 := hu.e3; have e4 := hu.e4; have d0 := hu.d0; have d1 := hu.d1; have d2 := hu.d2
         have HU := Lib.hid hu
         clear hu
         go_simp
         first
           | with_reducible rfl
           | (go_at_call 20; refine (C.out _).mono ?_; rintro e w' ⟨rfl, hn⟩; exact ⟨rfl, HU.out.next hn⟩)
       simp only [Act.put, List.setIfInBounds_toArray, List.set_cons_zero, List.set_cons_succ]
       go_big_quiet_on))
  refine wpQuiet_nil ?_
  intro u hu
  clear HP
  have c0 := hu.c0; have c1 := hu.c1; have c2 := hu.c2; have c3 := hu.c3; have c4 := hu.c4; have e0 := hu.e0; have e1 := hu.e1; have e2 := hu.e2; have e3 := hu.e3; have e4 := hu.e4; have d0 := hu.d0; have d1 := hu.d1; have d2 := hu.d2
  have H1 := Lib.hid hu
  clear hu
  go_wp2_with (first
    | (go_at_call 22; refine (T.out _).mono ?_; rintro e v4 ⟨rfl, hn⟩; have BL := Lib.hid (H1.out.next hn).bl; have LE := Lib.hid (H1.out.next hn).le; clear hn)
    | (go_at_call 23; refine (AW.out _ (HG.out.next BL.out)).mono ?_; rintro e u4 ⟨rfl, h4⟩))
  go_ret
  exact ⟨rfl, BL.out.trans (h4.mono LE.out)⟩
set_option maxRecDepth 100000 in
set_option maxHeartbeats 4000000 in
theorem tells_in (w : World) (hG : GL w) (s t f l p at' : Int) (ok : okC s t f l p) (h0 : 0 ≤ at') (h1 : at' < sizeL s t f) :
    Calls Tryd.prog 5 #[cfgV s t f l p, .int .i64 at'] w fun e w' => e = .returned (.bool true) ∧ Below w.heap.size w w' := by
  have B1 := below1 w (.cells #[.int .i64 s, .int .i64 t, .int .i64 f, .int .i64 l, .int .i64 p] 23)
  have k0 : K5 w.heap.size w w.heap.size s t f l p (w.alloc (.cells #[.int .i64 s, .int .i64 t, .int .i64 f, .int .i64 l, .int .i64 p] 23)) := ⟨by simp, by simp, by simp, by simp, by simp, B1, by simp⟩
  have HK := Lib.hid k0
  have HG := Lib.hid hG
  have AW := Lib.hid awake8_any
  have hG2 := hG.next B1
  have N := Lib.hid (new_yes s t f l p _ hG2 ok)
  have S := Lib.hid (size_any s t f l p (.inl ok))
  have RS := Lib.hid (rsize_yes s t f l p ok)
  have C := Lib.hid (config_any s t f l p)
  have RW := Lib.hid (rwrong_yes s t f l p ok)
  obtain ⟨hk0, hat⟩ := what_at ok.1.1 ok.2.1.1 ok.2.2.1.1 h0 h1
  have hPL := fun W => place_in s t f l p at' ok h0 h1 W
  have hX := fun W => what_any s t f l p at' ok W
  rcases hw : whatL s t f at' with ⟨k, o, i⟩
  rw [hw] at hk0 hat hPL hX
  have hk : k ≠ 0 := hk0
  have hT := fun W => at_any s t f l p k o i (.inl ok) W
  rw [show atL s t f k o i = at' from hat] at hT
  have T := Lib.hid hT
  clear hk0 hat hT hw h0 h1
  have PL : RowKit.Hid (∀ W, Calls Tryd.prog 24 #[cfgV s t f l p, .int .i64 at'] W fun e w' => e = .returned (.tuple #[.int .i64 k, .int .i64 o, .int .i64 i]) ∧ Below W.heap.size W w') := Lib.hid hPL
  have X : RowKit.Hid (∀ W, Calls Tryd.prog 21 #[layV s t f l p, .int .i64 at'] W fun e w' => e = .returned (placeV k o i) ∧ Below W.heap.size W w') := Lib.hid hX
  clear hPL hX ok hG hG2 B1 k0
  generalize sizeL s t f = n at S RS
  go_enter Tryd.func5, Tryd.ntmps5
  go_wp2_with (go_at_call 17; refine N.out.mono ?_; rintro e u1 ⟨rfl, hn⟩; have hk1 := HK.out.next hn; clear hn HK)
  have HD := Lib.hid (KD.start hk1 s t f l p 35).drew
  clear hk1
  refine wp_region_class (C := KD w.heap.size w w.heap.size s t f l p u1.heap.size s t f l p) (by kernel_rfl) (by kernel_rfl) (HD.out) ?_
  repeat (first
    | go_big_quiet_skip
    | (go_big_quiet_want; go_big_quiet_op; go_big_quiet_on)
    | (go_big_quiet_want; go_big_quiet_op; refine ⟨_, fun _ _ => rfl, ?_⟩; go_big_quiet_on)
    | (go_big_quiet_want
       apply quiet_mk
       · intro u hu
         have c0 := hu.c0; have c1 := hu.c1; have c2 := hu.c2; have c3 := hu.c3; have c4 := hu.c4; have e0 := hu.e0; have e1 := hu.e1; have e2 := hu.e2; have e3 := hu.e3; have e4 := hu.e4
         have HU := Lib.hid hu
         clear hu
         go_simp
         first
           | with_reducible rfl
           | (go_at_call 18; refine (S.out _).mono ?_; rintro e w' ⟨rfl, hn⟩; exact ⟨rfl, HU.out.next hn⟩) | (go_at_call 19; refine (RS.out _).mono ?_; rintro e w' ⟨rfl, hn⟩; exact ⟨rfl, HU.out.next hn⟩)
       simp only [Act.put, List.setIfInBounds_toArray, List.set_cons_zero, List.set_cons_succ]
       go_big_quiet_on))
  refine wpQuiet_nil ?_
  intro u hu
  clear HD
  have c0 := hu.c0; have c1 := hu.c1; have c2 := hu.c2; have c3 := hu.c3; have c4 := hu.c4; have e0 := hu.e0; have e1 := hu.e1; have e2 := hu.e2; have e3 := hu.e3; have e4 := hu.e4
  have H0 := Lib.hid hu
  clear hu
  have k1 : True := trivial
  have k2 : True := trivial
  have k3 : True := trivial
  go_wp2_with (first
    | (go_at_call 10; have _k := k1; refine (RW.out _).mono ?_; rintro e v1 ⟨rfl, hn⟩; have g1 := H0.out.next hn; clear hn k1 c0 c1 c2 c3 c4 e0 e1 e2 e3 e4; have c0 := g1.c0; have c1 := g1.c1; have c2 := g1.c2; have c3 := g1.c3; have c4 := g1.c4; have e0 := g1.e0; have e1 := g1.e1; have e2 := g1.e2; have e3 := g1.e3; have e4 := g1.e4)
    | (go_at_call 24; have _k := k2; refine (PL.out _).mono ?_; rintro e v2 ⟨rfl, hn⟩; have g2 := g1.next hn; clear hn k2 c0 c1 c2 c3 c4 e0 e1 e2 e3 e4; have c0 := g2.c0; have c1 := g2.c1; have c2 := g2.c2; have c3 := g2.c3; have c4 := g2.c4; have e0 := g2.e0; have e1 := g2.e1; have e2 := g2.e2; have e3 := g2.e3; have e4 := g2.e4)
    | (go_at_call 21; have _k := k3; refine (X.out _).mono ?_; rintro e v3 ⟨rfl, hn⟩; have g3 := g2.next hn; clear hn k3 c0 c1 c2 c3 c4 e0 e1 e2 e3 e4; have c0 := g3.c0; have c1 := g3.c1; have c2 := g3.c2; have c3 := g3.c3; have c4 := g3.c4; have e0 := g3.e0; have e1 := g3.e1; have e2 := g3.e2; have e3 := g3.e3; have e4 := g3.e4))
  have HP := Lib.hid (KP.start g3 k o i 40).drew
  clear g1 g2 g3 c0 c1 c2 c3 c4 e0 e1 e2 e3 e4
  refine wp_region_class (C := KP w.heap.size w w.heap.size s t f l p u1.heap.size s t f l p v3.heap.size k o i) (by kernel_rfl) (by kernel_rfl) (HP.out) ?_
  repeat (first
    | go_big_quiet_skip
    | (go_big_quiet_want; go_big_quiet_op; go_big_quiet_on)
    | (go_big_quiet_want; go_big_quiet_op; refine ⟨_, fun _ _ => rfl, ?_⟩; go_big_quiet_on)
    | (go_big_quiet_want
       apply quiet_mk
       · intro u hu
         have c0 := hu.c0; have c1 := hu.c1; have c2 := hu.c2; have c3 := hu.c3; have c4 := hu.c4; have e0 := hu.e0; have e1 := hu.e1; have e2 := hu.e2; have e3 := hu.e3; have e4 := hu.e4; have d0 := hu.d0; have d1 := hu.d1; have d2 := hu.d2
         have HU := Lib.hid hu
         clear hu
         go_simp
         first
           | with_reducible rfl
           | (go_at_call 20; refine (C.out _).mono ?_; rintro e w' ⟨rfl, hn⟩; exact ⟨rfl, HU.out.next hn⟩)
       simp only [Act.put, List.setIfInBounds_toArray, List.set_cons_zero, List.set_cons_succ]
       go_big_quiet_on))
  refine wpQuiet_nil ?_
  intro u hu
  clear HP
  have c0 := hu.c0; have c1 := hu.c1; have c2 := hu.c2; have c3 := hu.c3; have c4 := hu.c4; have e0 := hu.e0; have e1 := hu.e1; have e2 := hu.e2; have e3 := hu.e3; have e4 := hu.e4; have d0 := hu.d0; have d1 := hu.d1; have d2 := hu.d2
  have H1 := Lib.hid hu
  clear hu
  go_wp2_with (first
    | (go_at_call 22; refine (T.out _).mono ?_; rintro e v4 ⟨rfl, hn⟩; have BL := Lib.hid (H1.out.next hn).bl; have LE := Lib.hid (H1.out.next hn).le; clear hn)
    | (go_at_call 23; refine (AW.out _ (HG.out.next BL.out)).mono ?_; rintro e u4 ⟨rfl, h4⟩))
  go_ret
  exact ⟨rfl, BL.out.trans (h4.mono LE.out)⟩

set_option maxHeartbeats 4000000 in
theorem walk (w : World) (hG : GL w) (a0_0 : Int) (w0_0 : (Lit.int .i64 a0_0).wf = true) (a0_1 : Int) (w0_1 : (Lit.int .i64 a0_1).wf = true) (a0_2 : Int) (w0_2 : (Lit.int .i64 a0_2).wf = true) (a0_3 : Int) (w0_3 : (Lit.int .i64 a0_3).wf = true) (a0_4 : Int) (w0_4 : (Lit.int .i64 a0_4).wf = true) (a1 : Int) (w1 : (Lit.int .i64 a1).wf = true) :
    Calls Tryd.prog 5 #[.agg #[.int .i64 a0_0, .int .i64 a0_1, .int .i64 a0_2, .int .i64 a0_3, .int .i64 a0_4], .int .i64 a1] w fun e w' => e = .returned (.bool true) ∧ Below w.heap.size w w' := by
  by_cases ok : okC a0_0 a0_1 a0_2 a0_3 a0_4
  · by_cases h0 : a1 < 0 ∨ sizeL a0_0 a0_1 a0_2 ≤ a1
    · exact tells_out w hG _ _ _ _ _ _ ok h0
    · exact tells_in w hG _ _ _ _ _ _ ok (by omega) (by omega)
  · exact tells_no w hG _ _ _ _ _ _ ok

set_option maxRecDepth 100000 in
theorem lifted (os : Os) (started : os.Started) (H : Type) (enc : TypeId × Value → H) :
    ReturnsInHanded {} Tryd.checked os 5 .any (fun w args => (Rows.layoutTellsSpec.pre enc Tryd.prog Tryd.f5 [] false w args ∧ laidMetH Tryd.prog laidVars w) ∧ sizedMet enc Tryd.prog Tryd.f5 (OpenSpec.ofChange Rows.layoutTellsSpec) false w args)
      (Rows.layoutTellsSpec.post enc Tryd.prog Tryd.f5 false true false false) := by
  refine returnsInHanded_of_change_and (C := Tryd.checked) (X := fun w _ => laidMetH Tryd.prog laidVars w) (fun _ _ _ hh h => h.of_heap hh) own started (by kernel_rfl) Tryd.func5
    (ChangeSpec.witness_shaped (enc := enc) (C := Tryd.checked) (os := os) (X := fun w _ => laidMetH Tryd.prog laidVars w) false (World.doorLaid Tryd.prog 400 os) #[.agg #[.int .i64 0, .int .i64 0, .int .i64 0, .int .i64 0, .int .i64 0], .int .i64 0] 8 rfl (World.shaped_of_RefB (by kernel_rfl) (by kernel_rfl)) (by kernel_rfl) (by kernel_rfl) (by kernel_rfl) (door_met os _)) ?_
  intro W base args ds gs before hval0 hW _ _ hL _
  have hval : ∀ (j : Nat) t v, Tryd.f5.params[j]? = some t → args[j]? = some v → Value.okWide Tryd.prog W .any base t v := hval0
  have hW' := hW
  obtain ⟨p, q, hA0, hV, rfl, hfz, hnd⟩ := hW
  have hA : DataW.TrodAll enc Tryd.prog W 0 (fun _ => true) true Tryd.f5.params.toList args.toList ds p := hA0
  rw [Tryd.params5] at hA hval
  obtain ⟨v0, vs0, d0, ds0, p0, q0, hargs, rfl, rfl, h0, r0⟩ := trodAll_cons hA
  obtain ⟨v1, vs1, d1, ds1, p1, q1, rfl, rfl, rfl, h1, r1⟩ := trodAll_cons r0
  obtain ⟨rfl, rfl, rfl⟩ := trodAll_nil r1
  obtain rfl : args = #[v0, v1] := by cases args; simp_all
  obtain ⟨rfl, rfl⟩ := trodVars_none hV
  have k0 := h0
  obtain ⟨ns0, h0l, h0v, h0w⟩ := open_intStruct [.i64, .i64, .i64, .i64, .i64] Tryd.underlying23 (by kernel_rfl) (by kernel_rfl) rfl (hval 0 23 v0 rfl rfl) h0
  obtain ⟨a0_0, a0_1, a0_2, a0_3, a0_4, rfl⟩ := list5 h0l
  obtain rfl : v0 = .agg #[.int .i64 a0_0, .int .i64 a0_1, .int .i64 a0_2, .int .i64 a0_3, .int .i64 a0_4] := h0v
  obtain ⟨a1, rfl, rfl, rfl, w1⟩ := open_int Tryd.underlying3 (hval 1 3 v1 rfl rfl) h1
  clear hA0 hval0
  simp only [List.append_nil] at hW'
  have hlt0 : ∀ x ∈ p0, x.block < W.heap.size := fun x hx => by simpa using hW'.lt x (by simp [hx])
  refine (walk W (of_laid hL) a0_0 (h0w 0 .i64 _ rfl rfl) a0_1 (h0w 1 .i64 _ rfl rfl) a0_2 (h0w 2 .i64 _ rfl rfl) a0_3 (h0w 3 .i64 _ rfl rfl) a0_4 (h0w 4 .i64 _ rfl rfl) a1 w1).mono fun e W' ⟨he, hg⟩ => ?_
  subst he
  exact ⟨_, rfl, post_of_below2 (pv := []) hW' (fun _ _ _ => (trodAll_cons_mk (shut_bool Tryd.underlying4 _) trodAll_mk0)) (trodAll_cons_mk (Below.trod laidOut (by kernel_rfl) (of_decide_eq_true (by kernel_rfl)) k0 hg hlt0) (trodAll_cons_mk (shut_int Tryd.underlying3 w1) trodAll_mk0)) rfl (by simp) (hg.frame _)⟩

theorem over : Rows.layoutTellsRow.holds Tryd.pinned (OpenSpec.ofChange Rows.layoutTellsSpec) :=
  OpenClaim.holds_of_wide 5 Tryd.f5 rfl rfl rfl rfl rfl rfl rfl ⟨rfl, rfl, rfl, rfl, rfl⟩ rfl rfl rfl rfl rfl (by kernel_rfl) Tryd.func5 (by kernel_rfl)
    (of_decide_eq_true (by kernel_rfl)) (by unfold Func.isWrapper; first | (rw [if_pos (by decide +kernel)]; kernel_rfl) | (rw [if_neg (by decide +kernel)]; exact ⟨rfl, rfl⟩))
    (fun os started H enc _ => lifted os started H enc)

theorem row : Rows.LayoutTellsSaid := over

theorem proved : Rows.LayoutTellsCardSaid :=
  Claim7.holds_tied_plain_at .later [] [.handle, .data] true (true, "04d71bb65f25117ba4a24a6d38c834f93d71cbffd0e20c92228e3fe5676ac4f0") true
    row (fun _ h => by cases h) (by kernel_rfl) (fun _ h => by cases h) layoutTells_row_tie rfl ⟨rfl, rfl⟩ (by kernel_rfl) rfl
    (fun f fn hf hfn => by
      obtain rfl : f = 5 := Option.some.inj ((show Tryd.prog.funcNamed "gleaning/gleaninglaw08.LayoutTells" = some 5 by kernel_rfl).symm.trans hf) |>.symm
      obtain rfl : fn = Tryd.f5 := (Option.some.inj (Tryd.func5.symm.trans hfn)).symm
      exact ⟨by kernel_rfl, fun j t ht => by
        rw [Tryd.params5] at ht
        have hm : t ∈ [23, 3] := by simpa using Array.mem_of_getElem? ht
        have hall : ([23, 3].all fun u => !Tryd.prog.wantsStandIn u) = true := by kernel_rfl
        exact (show Tryd.prog.wantsStandIn t = false by simpa using List.all_eq_true.1 hall t hm)⟩)
    (by kernel_rfl)

#print axioms proved
end Go.Proofs.YtcdmcnncigfclaaDoor.layoutTells
