/- gleaninglaw11.SeekPlays: for every input the law returns true, and leaves its arguments as they were. No condition. -/
import Derived.Test.YtbajodaohgacmaaRows
import Derived.WalkKit
import Derived.Deep.QuietTactic
import Derived.BigQuiet
import Derived.Deep.LoopGhost
import Derived.Test.YtbajodaohgacmaaSeekPlay
import Derived.Test.YtbajodaohgacmaaTail
import Derived.Test.YtbajodaohgacmaaFrame
import Derived.ProofKit
import Derived.OpenShut
namespace Go.Proofs.Ytbajodaohgacmaa.seekPlays
open Go.ChangeShapes Go.WideShapes Go.ChangeAt Go.RowKit
set_option linter.unusedVariables false

theorem own : ownKnob Try.prog.godebug = none := by kernel_rfl
theorem laidOut : laidOutB Try.prog = true := by kernel_rfl
theorem cells22 : Try.prog.cellsOf 22 = 1 := by kernel_rfl
/-- What both searches begin with. -/
theorem play_new (a0 a1 a2 : Int) (hn : a1 ≤ 1152921504606846976) : ∃ k q h : Int, Sk.new a0 a1 a2 = ⟨k, q, 0, h⟩ ∧ Sk.rnew a0 a1 a2 = ⟨a0, a2, 0, h⟩ ∧ PI a1.toNat (M.width a1.toNat) k q a0 a2 0 0 h := by
  unfold Sk.new Sk.rnew
  by_cases hk : a0 = 1 ∨ a0 = 2
  · refine ⟨a0, a2, max a1 0, by rw [if_pos hk], ?_, ⟨by omega, by omega, by omega, by omega, ?_, .inl ⟨rfl, rfl, hk⟩⟩⟩
    · by_cases h0 : a1 < 0
      · rw [if_pos (.inl h0)]; have : max a1 0 = 0 := by omega
        rw [this]
      · rw [if_neg (by omega)]; have : max a1 0 = a1 := by omega
        rw [this]
    · have : (max a1 0 - 0).toNat = a1.toNat := by omega
      rw [this]; omega
  · refine ⟨0, 0, 0, by rw [if_neg hk], by rw [if_pos (by omega)], ⟨by omega, by omega, by omega, by omega, ?_, .inr ⟨rfl, rfl⟩⟩⟩
    show M.width 0 ≤ _
    rw [M.width_zero]; omega
theorem PL.f1 {w W : World} {g1 g2 : Nat} {k q l h : Int} {r : Sk} (p : PL w g1 g2 ⟨k, q, l, h⟩ r W) : (W.cell? ⟨g1, 0, none⟩ = some (.int .i64 k) ∧ W.cell? ⟨g1, 1, none⟩ = some (.int .u64 q) ∧ W.cell? ⟨g1, 2, none⟩ = some (.int .i64 l) ∧ W.cell? ⟨g1, 3, none⟩ = some (.int .i64 h)) ∧ (∀ i, W.frozen? ⟨g1, i, none⟩ = false) := p.facts1
theorem PL.f2 {w W : World} {g1 g2 : Nat} {k q l h : Int} {s : Sk} (p : PL w g1 g2 s ⟨k, q, l, h⟩ W) : (W.cell? ⟨g2, 0, none⟩ = some (.int .i64 k) ∧ W.cell? ⟨g2, 1, none⟩ = some (.int .i64 l) ∧ W.cell? ⟨g2, 2, none⟩ = some (.int .i64 h) ∧ W.cell? ⟨g2, 3, none⟩ = some (.int .u64 q)) ∧ (∀ i, W.frozen? ⟨g2, i, none⟩ = false) := p.facts2

set_option maxHeartbeats 4000000 in
theorem walk (w : World) (a0 : Int) (w0 : (Lit.int .i64 a0).wf = true) (a1 : Int) (w1 : (Lit.int .i64 a1).wf = true) (a2 : Int) (w2 : (Lit.int .u64 a2).wf = true) (A3 : Option Addr) (len3 cap3 b3 off3 : Nat) (zs3 : List Int) (hl3 : zs3.length = len3) (hm3 : len3 ≤ cap3 ∧ len3 ≤ maxLen) (hA3 : 0 < len3 → A3 = some ⟨b3, off3, none⟩ ∧ b3 < w.heap.size) (hc3 : ∀ i, i < len3 → w.cell? ⟨b3, off3 + i, none⟩ = some (.int .u64 (zs3.getD i 0))) (hw3 : ∀ n ∈ zs3, (Lit.int .u64 n).wf = true) :
    Calls Try.prog 5 #[.int .i64 a0, .int .i64 a1, .int .u64 a2, .slice A3 len3 cap3] w fun e w' => e = .returned (.bool true) ∧ Below w.heap.size w w' := by
  have A11 := Lib.hid (fun W => awake11_any W)
  by_cases hlen : (len3 : Int) ≤ 70
  · by_cases hn60 : a1 ≤ 1152921504606846976
    · have HC := Lib.hid hc3
      have hln : len3 ≤ 70 := by omega
      obtain ⟨k, q, h, hk1, hk2, hpi⟩ := play_new a0 a1 a2 hn60
      have N := Lib.hid (show ∀ W : World, Calls Try.prog 25 #[.int .i64 a0, .int .i64 a1, .int .u64 a2] W fun e w' => e = .returned (.agg #[.int .i64 k, .int .u64 q, .int .i64 0, .int .i64 h]) ∧ Below W.heap.size W w' from fun W => by have t := snew_any a0 a1 a2 W; rw [hk1] at t; exact t)
      have R := Lib.hid (show ∀ W : World, Calls Try.prog 26 #[.int .i64 a0, .int .i64 a1, .int .u64 a2] W fun e w' => e = .returned (.agg #[.int .i64 a0, .int .i64 0, .int .i64 h, .int .u64 a2]) ∧ Below W.heap.size W w' from fun W => by have t := rnew_any a0 a1 a2 W; rw [hk2] at t; exact t)
      have HP := Lib.hid hpi
      have ST := Lib.hid (fun W => ssteps_any a1 (by omega) W)
      clear hk1 hk2 hpi hc3
      have hb : Below w.heap.size w w := Below.refl _ _
      have HA := Lib.hid hA3
      clear hA3
      · have tok : True := trivial
        go_enter Try.func5, Try.ntmps5
        go_wp2_with (first | (go_at_call 25; refine (N.out _).mono ?_; rintro e wa ⟨rfl, hna⟩; have hba := Lib.hid (hb.trans (hna.mono hb.size)); clear hna) | (go_at_call 26; refine (R.out _).mono ?_; rintro e wn ⟨rfl, hnn⟩; have hzn := Lib.hid hnn; clear hnn))
        have hpl := Lib.hid (PL.mk' (s := ⟨k, q, 0, h⟩) (r := ⟨a0, a2, 0, h⟩) hba.out hzn.out)
        clear hba hzn hb
        obtain ⟨wl, hwl⟩ : ∃ wl : World, wl = wn.alloc (Obj.cells (Sk.mk a0 a2 0 h).rcells 41) := ⟨_, rfl⟩
        rw [← hwl] at hpl
        have hwl2 : wn.alloc (Obj.cells #[Value.int IntKind.i64 a0, Value.int IntKind.i64 0, Value.int IntKind.i64 h, Value.int IntKind.u64 a2] 41) = wl := hwl.symm
        rw [hwl2]
        clear hwl hwl2
        generalize wa.heap.size = g1 at hpl ⊢
        generalize wn.heap.size = g2 at hpl ⊢
        generalize M.width a1.toNat = d at HP ST
        go_loopg [11] len3 (fun g i wr => ∃ (j : Nat) (l h : Int), j ≤ len3 ∧ g = len3 - j ∧ i = .int .i64 j ∧ PI a1.toNat d k q a0 a2 j l h ∧ PL w g1 g2 ⟨k, q, l, h⟩ ⟨a0, a2, l, h⟩ wr)
        case atStart => exact ⟨0, 0, h, by omega, by omega, rfl, HP.out, hpl.out⟩
        case round =>
          clear HP hpl N R
          obtain ⟨j, l, h, hj, hg, rfl, hp, hr⟩ := hrel
          have CW := Lib.hid (show ∀ W : World, Calls Try.prog 27 #[.agg #[.int .i64 k, .int .u64 q, .int .i64 l, .int .i64 h]] W fun e w' => e = .returned (.int .i64 (wantOf l h)) ∧ Below W.heap.size W w' from fun W => swant_any k q l h hp.l0 hp.ok1.2 W)
          have CR := Lib.hid (show ∀ W : World, Calls Try.prog 28 #[.agg #[.int .i64 a0, .int .i64 l, .int .i64 h, .int .u64 a2]] W fun e w' => e = .returned (.int .i64 (wantOf l h)) ∧ Below W.heap.size W w' from fun W => rwant_any ⟨a0, a2, l, h⟩ hp.ok2 W)
          have CA := Lib.hid (show ∀ W : World, Calls Try.prog 29 #[.agg #[.int .i64 k, .int .u64 q, .int .i64 l, .int .i64 h]] W fun e w' => e = .returned (.int .i64 l) ∧ Below W.heap.size W w' from fun W => sat_any k q l h W)
          by_cases hlt : j < len3
          · obtain ⟨rfl, hbl⟩ := HA.out (by omega)
            have HX : Hid (w.cell? ⟨b3, off3 + j, none⟩ = some (.int .u64 (zs3.getD j 0))) := Lib.hid (HC.out j hlt)
            have hcm : Hid (d ≤ j → wantOf l h = -1) := hp.come
            obtain ⟨l2, h2, e1, e2, p2⟩ := hp.step (zs3.getD j 0)
            have T := Lib.hid (show ∀ W : World, Calls Try.prog 31 #[.agg #[.int .i64 k, .int .u64 q, .int .i64 l, .int .i64 h], .int .u64 (zs3.getD j 0)] W fun e w' => e = .returned (.agg #[.int .i64 k, .int .u64 q, .int .i64 l2, .int .i64 h2]) ∧ Below W.heap.size W w' from fun W => by have t := stook_any ⟨k, q, l, h⟩ (zs3.getD j 0) hp.ok1 W; rw [e1] at t; exact t)
            have RT := Lib.hid (show ∀ W : World, Calls Try.prog 32 #[.agg #[.int .i64 a0, .int .i64 l, .int .i64 h, .int .u64 a2], .int .u64 (zs3.getD j 0)] W fun e w' => e = .returned (.agg #[.int .i64 a0, .int .i64 l2, .int .i64 h2, .int .u64 a2]) ∧ Below W.heap.size W w' from fun W => by have t := rtook_any ⟨a0, a2, l, h⟩ (zs3.getD j 0) hp.ok2 hp.kind W; rw [e2] at t; exact t)
            have P2 := Lib.hid p2
            clear e1 e2 p2 hp
            generalize zs3.getD j 0 = x at HX T RT
            generalize wantOf l h = v at CW CR hcm
            have HS := Lib.hid hr.drew
            clear hr
            go_wp2
            refine wp_region_class (C := PL w g1 g2 ⟨k, q, l, h⟩ ⟨a0, a2, l, h⟩) (by kernel_rfl) (by kernel_rfl) (HS.out) ?_
            repeat (first
              | go_big_quiet_skip
              | (go_big_quiet_want; go_big_quiet_op; go_big_quiet_on)
              | (go_big_quiet_want; go_big_quiet_op; refine ⟨_, fun _ _ => rfl, ?_⟩; go_big_quiet_on)
              | (go_big_quiet_want
                 apply quiet_mk
                 · intro u hu
                   have c0 := hu.c0; have c1 := hu.c1; have c2 := hu.c2; have c3 := hu.c3; have d0 := hu.d0; have d1 := hu.d1; have d2 := hu.d2; have d3 := hu.d3
                   have HU := Lib.hid hu
                   clear hu
                   go_simp
                   first
                     | with_reducible rfl
                     | (go_at_call 27; refine (CW.out _).mono ?_; rintro e w' ⟨rfl, hn⟩; exact ⟨rfl, HU.out.next hn⟩) | (go_at_call 28; refine (CR.out _).mono ?_; rintro e w' ⟨rfl, hn⟩; exact ⟨rfl, HU.out.next hn⟩) | (go_at_call 29; refine (CA.out _).mono ?_; rintro e w' ⟨rfl, hn⟩; exact ⟨rfl, HU.out.next hn⟩)
                 simp only [Act.put, List.setIfInBounds_toArray, List.set_cons_zero, List.set_cons_succ]
                 go_big_quiet_on))
            refine wpQuiet_nil ?_
            intro u hu
            have HS2 := Lib.hid hu
            clear hu HS
            by_cases hd : d ≤ j
            · obtain rfl : v = -1 := hcm.out hd
              have hd2 : (d : Int) ≤ j := by omega
              have c0 := HS2.out.c0
              have c1 := HS2.out.c1
              have c2 := HS2.out.c2
              have c3 := HS2.out.c3
              have d0 := HS2.out.d0
              have d1 := HS2.out.d1
              have d2 := HS2.out.d2
              have d3 := HS2.out.d3
              go_wp2_with (first | (go_at_call 30; refine (ST.out _).mono ?_; rintro e wk2 ⟨rfl, rfl⟩) | (go_at_call 27; refine (CW.out _).mono ?_; rintro e wk2 ⟨rfl, hn⟩; have HS3 := Lib.hid (HS2.out.next hn); clear hn c0 c1 c2 c3 d0 d1 d2 d3))
              clear HS2
              have HX2 := Lib.hid (PX.mk' (a := ⟨b3, off3 + j, none⟩) HS3.out hbl HX.out)
              clear HS3
              refine wp_region_class_tail (C := PX w g1 g2 ⟨k, q, l, h⟩ ⟨a0, a2, l, h⟩ ⟨b3, off3 + j, none⟩ (.int .u64 x)) 6 (by kernel_rfl) (by kernel_rfl) (HX2.out) ?_
              simp only [List.take_succ_cons, List.take_zero, List.drop_succ_cons, List.drop_zero]
              repeat (first
                | go_big_quiet_skip
                | (go_big_quiet_want; go_big_quiet_op; go_big_quiet_on)
                | (go_big_quiet_want; go_big_quiet_op; refine ⟨_, fun _ _ => rfl, ?_⟩; go_big_quiet_on)
                | (go_big_quiet_want
                   apply quiet_mk
                   · intro u hu
                     have c0 := hu.c0; have c1 := hu.c1; have c2 := hu.c2; have c3 := hu.c3; have xc := hu.xc
                     have HU := Lib.hid hu
                     clear hu
                     go_simp
                     first
                       | with_reducible rfl
                       | (go_at_call 31; refine (T.out _).mono ?_; rintro e w' ⟨rfl, hn⟩; exact ⟨rfl, HU.out.next hn⟩)
                   simp only [Act.put, List.setIfInBounds_toArray, List.set_cons_zero, List.set_cons_succ]
                   go_big_quiet_on))
              refine wpQuiet_nil ?_
              intro u hu
              have hr2 := PL.store1 hu.toPL ⟨k, q, l2, h2⟩
              have fz := (PL.facts1 hu.toPL).2
              have c0 := hu.c0
              have c1 := hu.c1
              have c2 := hu.c2
              have c3 := hu.c3
              have HR2 := Lib.hid hr2
              clear hu HX2 hr2
              go_wp2
              have hr3 : PL w g1 g2 ⟨k, q, l2, h2⟩ ⟨a0, a2, l, h⟩ ((((u.setCell ⟨g1, 0, none⟩ (.int .i64 k)).setCell ⟨g1, 1, none⟩ (.int .u64 q)).setCell ⟨g1, 2, none⟩ (.int .i64 l2)).setCell ⟨g1, 3, none⟩ (.int .i64 h2)) := HR2.out
              clear HR2 fz c0 c1 c2 c3
              generalize ((((u.setCell ⟨g1, 0, none⟩ (.int .i64 k)).setCell ⟨g1, 1, none⟩ (.int .u64 q)).setCell ⟨g1, 2, none⟩ (.int .i64 l2)).setCell ⟨g1, 3, none⟩ (.int .i64 h2)) = wt at hr3 ⊢
              have HX3 := Lib.hid (PX.mk' (a := ⟨b3, off3 + j, none⟩) hr3 hbl HX.out)
              clear hr3 u
              refine wp_region_class_tail (C := PX w g1 g2 ⟨k, q, l2, h2⟩ ⟨a0, a2, l, h⟩ ⟨b3, off3 + j, none⟩ (.int .u64 x)) 6 (by kernel_rfl) (by kernel_rfl) (HX3.out) ?_
              simp only [List.take_succ_cons, List.take_zero, List.drop_succ_cons, List.drop_zero]
              repeat (first
                | go_big_quiet_skip
                | (go_big_quiet_want; go_big_quiet_op; go_big_quiet_on)
                | (go_big_quiet_want; go_big_quiet_op; refine ⟨_, fun _ _ => rfl, ?_⟩; go_big_quiet_on)
                | (go_big_quiet_want
                   apply quiet_mk
                   · intro u hu
                     have d0 := hu.d0; have d1 := hu.d1; have d2 := hu.d2; have d3 := hu.d3; have xc := hu.xc
                     have HU := Lib.hid hu
                     clear hu
                     go_simp
                     first
                       | with_reducible rfl
                       | (go_at_call 32; refine (RT.out _).mono ?_; rintro e w' ⟨rfl, hn⟩; exact ⟨rfl, HU.out.next hn⟩)
                   simp only [Act.put, List.setIfInBounds_toArray, List.set_cons_zero, List.set_cons_succ]
                   go_big_quiet_on))
              refine wpQuiet_nil ?_
              intro u hu
              have hr2 := PL.store2 hu.toPL ⟨a0, a2, l2, h2⟩
              have fz := (PL.facts2 hu.toPL).2
              have d0 := hu.d0
              have d1 := hu.d1
              have d2 := hu.d2
              have d3 := hu.d3
              have HR2 := Lib.hid hr2
              clear hu HX3 hr2
              go_wp2
              go_roundg (len3 - (j + 1))
              case rel => exact ⟨j + 1, l2, h2, by omega, rfl, by go_num, P2.out, HR2.out⟩
              case measure => omega
            · have hd2 : (j : Int) < d := by omega
              go_wp2_with (go_at_call 30; refine (ST.out _).mono ?_; rintro e wk2 ⟨rfl, rfl⟩)
              have HX2 := Lib.hid (PX.mk' (a := ⟨b3, off3 + j, none⟩) HS2.out hbl HX.out)
              clear HS2
              refine wp_region_class_tail (C := PX w g1 g2 ⟨k, q, l, h⟩ ⟨a0, a2, l, h⟩ ⟨b3, off3 + j, none⟩ (.int .u64 x)) 6 (by kernel_rfl) (by kernel_rfl) (HX2.out) ?_
              simp only [List.take_succ_cons, List.take_zero, List.drop_succ_cons, List.drop_zero]
              repeat (first
                | go_big_quiet_skip
                | (go_big_quiet_want; go_big_quiet_op; go_big_quiet_on)
                | (go_big_quiet_want; go_big_quiet_op; refine ⟨_, fun _ _ => rfl, ?_⟩; go_big_quiet_on)
                | (go_big_quiet_want
                   apply quiet_mk
                   · intro u hu
                     have c0 := hu.c0; have c1 := hu.c1; have c2 := hu.c2; have c3 := hu.c3; have xc := hu.xc
                     have HU := Lib.hid hu
                     clear hu
                     go_simp
                     first
                       | with_reducible rfl
                       | (go_at_call 31; refine (T.out _).mono ?_; rintro e w' ⟨rfl, hn⟩; exact ⟨rfl, HU.out.next hn⟩)
                   simp only [Act.put, List.setIfInBounds_toArray, List.set_cons_zero, List.set_cons_succ]
                   go_big_quiet_on))
              refine wpQuiet_nil ?_
              intro u hu
              have hr2 := PL.store1 hu.toPL ⟨k, q, l2, h2⟩
              have fz := (PL.facts1 hu.toPL).2
              have c0 := hu.c0
              have c1 := hu.c1
              have c2 := hu.c2
              have c3 := hu.c3
              have HR2 := Lib.hid hr2
              clear hu HX2 hr2
              go_wp2
              have hr3 : PL w g1 g2 ⟨k, q, l2, h2⟩ ⟨a0, a2, l, h⟩ ((((u.setCell ⟨g1, 0, none⟩ (.int .i64 k)).setCell ⟨g1, 1, none⟩ (.int .u64 q)).setCell ⟨g1, 2, none⟩ (.int .i64 l2)).setCell ⟨g1, 3, none⟩ (.int .i64 h2)) := HR2.out
              clear HR2 fz c0 c1 c2 c3
              generalize ((((u.setCell ⟨g1, 0, none⟩ (.int .i64 k)).setCell ⟨g1, 1, none⟩ (.int .u64 q)).setCell ⟨g1, 2, none⟩ (.int .i64 l2)).setCell ⟨g1, 3, none⟩ (.int .i64 h2)) = wt at hr3 ⊢
              have HX3 := Lib.hid (PX.mk' (a := ⟨b3, off3 + j, none⟩) hr3 hbl HX.out)
              clear hr3 u
              refine wp_region_class_tail (C := PX w g1 g2 ⟨k, q, l2, h2⟩ ⟨a0, a2, l, h⟩ ⟨b3, off3 + j, none⟩ (.int .u64 x)) 6 (by kernel_rfl) (by kernel_rfl) (HX3.out) ?_
              simp only [List.take_succ_cons, List.take_zero, List.drop_succ_cons, List.drop_zero]
              repeat (first
                | go_big_quiet_skip
                | (go_big_quiet_want; go_big_quiet_op; go_big_quiet_on)
                | (go_big_quiet_want; go_big_quiet_op; refine ⟨_, fun _ _ => rfl, ?_⟩; go_big_quiet_on)
                | (go_big_quiet_want
                   apply quiet_mk
                   · intro u hu
                     have d0 := hu.d0; have d1 := hu.d1; have d2 := hu.d2; have d3 := hu.d3; have xc := hu.xc
                     have HU := Lib.hid hu
                     clear hu
                     go_simp
                     first
                       | with_reducible rfl
                       | (go_at_call 32; refine (RT.out _).mono ?_; rintro e w' ⟨rfl, hn⟩; exact ⟨rfl, HU.out.next hn⟩)
                   simp only [Act.put, List.setIfInBounds_toArray, List.set_cons_zero, List.set_cons_succ]
                   go_big_quiet_on))
              refine wpQuiet_nil ?_
              intro u hu
              have hr2 := PL.store2 hu.toPL ⟨a0, a2, l2, h2⟩
              have fz := (PL.facts2 hu.toPL).2
              have d0 := hu.d0
              have d1 := hu.d1
              have d2 := hu.d2
              have d3 := hu.d3
              have HR2 := Lib.hid hr2
              clear hu HX3 hr2
              go_wp2
              go_roundg (len3 - (j + 1))
              case rel => exact ⟨j + 1, l2, h2, by omega, rfl, by go_num, P2.out, HR2.out⟩
              case measure => omega
          · obtain rfl : j = len3 := by omega
            have hl1 := hp.lB
            have hl2 := hp.l0
            have HS := Lib.hid hr.drew
            clear hr hp
            generalize wantOf l h = v at CW CR
            by_cases hl0 : l = 0
            · subst hl0
              go_wp2
              refine wp_region_class (C := PL w g1 g2 ⟨k, q, 0, h⟩ ⟨a0, a2, 0, h⟩) (by kernel_rfl) (by kernel_rfl) (HS.out) ?_
              repeat (first
                | go_big_quiet_skip
                | (go_big_quiet_want; go_big_quiet_op; go_big_quiet_on)
                | (go_big_quiet_want; go_big_quiet_op; refine ⟨_, fun _ _ => rfl, ?_⟩; go_big_quiet_on)
                | (go_big_quiet_want
                   apply quiet_mk
                   · intro u hu
                     have c0 := hu.c0; have c1 := hu.c1; have c2 := hu.c2; have c3 := hu.c3; have d0 := hu.d0; have d1 := hu.d1; have d2 := hu.d2; have d3 := hu.d3
                     have HU := Lib.hid hu
                     clear hu
                     go_simp
                     first
                       | with_reducible rfl
                       | (go_at_call 27; refine (CW.out _).mono ?_; rintro e w' ⟨rfl, hn⟩; exact ⟨rfl, HU.out.next hn⟩) | (go_at_call 28; refine (CR.out _).mono ?_; rintro e w' ⟨rfl, hn⟩; exact ⟨rfl, HU.out.next hn⟩) | (go_at_call 29; refine (CA.out _).mono ?_; rintro e w' ⟨rfl, hn⟩; exact ⟨rfl, HU.out.next hn⟩) | (go_at_call 24; refine (A11.out _).mono ?_; rintro e w' ⟨rfl, hn⟩; exact ⟨rfl, HU.out.next hn⟩)
                   simp only [Act.put, List.setIfInBounds_toArray, List.set_cons_zero, List.set_cons_succ]
                   go_big_quiet_on))
              refine wpQuiet_nil ?_
              intro u hu
              have BL := Lib.hid hu.below
              clear hu
              go_wp2
              go_ret
              exact ⟨rfl, BL.out⟩
            · have hl3 : l ≤ a1 := by omega
              have hl4 : (l == 0) = false := by simp; omega
              clear hl1
              go_wp2
              refine wp_region_class (C := PL w g1 g2 ⟨k, q, l, h⟩ ⟨a0, a2, l, h⟩) (by kernel_rfl) (by kernel_rfl) (HS.out) ?_
              repeat (first
                | go_big_quiet_skip
                | (go_big_quiet_want; go_big_quiet_op; go_big_quiet_on)
                | (go_big_quiet_want; go_big_quiet_op; refine ⟨_, fun _ _ => rfl, ?_⟩; go_big_quiet_on)
                | (go_big_quiet_want
                   apply quiet_mk
                   · intro u hu
                     have c0 := hu.c0; have c1 := hu.c1; have c2 := hu.c2; have c3 := hu.c3; have d0 := hu.d0; have d1 := hu.d1; have d2 := hu.d2; have d3 := hu.d3
                     have HU := Lib.hid hu
                     clear hu
                     go_simp
                     first
                       | with_reducible rfl
                       | (go_at_call 27; refine (CW.out _).mono ?_; rintro e w' ⟨rfl, hn⟩; exact ⟨rfl, HU.out.next hn⟩) | (go_at_call 28; refine (CR.out _).mono ?_; rintro e w' ⟨rfl, hn⟩; exact ⟨rfl, HU.out.next hn⟩) | (go_at_call 29; refine (CA.out _).mono ?_; rintro e w' ⟨rfl, hn⟩; exact ⟨rfl, HU.out.next hn⟩) | (go_at_call 24; refine (A11.out _).mono ?_; rintro e w' ⟨rfl, hn⟩; exact ⟨rfl, HU.out.next hn⟩)
                   simp only [Act.put, List.setIfInBounds_toArray, List.set_cons_zero, List.set_cons_succ]
                   go_big_quiet_on))
              refine wpQuiet_nil ?_
              intro u hu
              have BL := Lib.hid hu.below
              clear hu
              go_wp2
              go_ret
              exact ⟨rfl, BL.out⟩
    · have h60 : 1152921504606846976 < a1 := by omega
      have h70 : (len3 : Int) ≤ 70 := by omega
      clear hlen hc3 hA3 hn60
      go_enter Try.func5, Try.ntmps5
      go_wp2_with (go_at_call 24; refine (A11.out _).mono ?_; rintro e un ⟨rfl, hn⟩)
      go_ret
      exact ⟨rfl, hn⟩
  · have h70 : 70 < (len3 : Int) := by omega
    clear hlen hc3 hA3
    go_enter Try.func5, Try.ntmps5
    go_wp2_with (go_at_call 24; refine (A11.out _).mono ?_; rintro e un ⟨rfl, hn⟩)
    go_ret
    exact ⟨rfl, hn⟩

set_option maxRecDepth 100000 in
theorem lifted (os : Os) (started : os.Started) (H : Type) (enc : TypeId × Value → H) :
    ReturnsInHanded {} Try.checked os 5 .any (Rows.seekPlaysSpec.pre6 enc Try.prog Try.f5 Rows.seekPlaysRow.domain false) (Rows.seekPlaysSpec.post enc Try.prog Try.f5 false true false false) := by
  refine returnsInHanded_of_change (C := Try.checked) own started (by kernel_rfl) Try.func5
    (ChangeSpec.witness6 (enc := enc) (C := Try.checked) false ⟨#[], #[.int .i64 0, .int .i64 0, .int .u64 0, .slice none 0 0], []⟩ 8 (by kernel_rfl) (by kernel_rfl) (by kernel_rfl) (by kernel_rfl)) ?_
  intro W base args ds gs before hval0 hW hcnd _
  have hval : ∀ (j : Nat) t v, Try.f5.params[j]? = some t → args[j]? = some v → Value.okWide Try.prog W .any base t v := hval0
  have hW' := hW
  obtain ⟨p, q, hA0, hV, rfl, hfz, hnd⟩ := hW
  have hA : DataW.TrodAll enc Try.prog W 0 (fun _ => true) true Try.f5.params.toList args.toList ds p := hA0
  rw [Try.params5] at hA hval
  obtain ⟨v0, vs0, d0, ds0, p0, q0, hargs, rfl, rfl, h0, r0⟩ := trodAll_cons hA
  obtain ⟨v1, vs1, d1, ds1, p1, q1, rfl, rfl, rfl, h1, r1⟩ := trodAll_cons r0
  obtain ⟨v2, vs2, d2, ds2, p2, q2, rfl, rfl, rfl, h2, r2⟩ := trodAll_cons r1
  obtain ⟨v3, vs3, d3, ds3, p3, q3, rfl, rfl, rfl, h3, r3⟩ := trodAll_cons r2
  obtain ⟨rfl, rfl, rfl⟩ := trodAll_nil r3
  obtain rfl : args = #[v0, v1, v2, v3] := by cases args; simp_all
  obtain ⟨rfl, rfl⟩ := trodVars_none hV
  obtain ⟨a0, rfl, rfl, rfl, w0⟩ := open_int Try.underlying3 (hval 0 3 v0 rfl rfl) h0
  obtain ⟨a1, rfl, rfl, rfl, w1⟩ := open_int Try.underlying3 (hval 1 3 v1 rfl rfl) h1
  obtain ⟨a2, rfl, rfl, rfl, w2⟩ := open_int Try.underlying22 (hval 2 22 v2 rfl rfl) h2
  obtain ⟨A3, len3, cap3, rfl⟩ := okWide_slice Try.underlying32 (hval 3 32 v3 rfl rfl)
  have k3 := h3
  obtain ⟨b3, off3, zs3, hl3, hm3, hA3, hc3, hw3⟩ := open_slice Try.underlying32 Try.underlying22 cells22 h3
  clear hA0 hval0
  simp only [List.append_nil, List.nil_append] at hW'
  have hlt3 : ∀ x ∈ p3, x.block < W.heap.size := fun x hx => by simpa using hW'.lt x (by simp [hx])
  refine (walk W a0 w0 a1 w1 a2 w2 A3 len3 cap3 b3 off3 zs3 hl3 hm3 hA3 hc3 hw3).mono fun e W' ⟨he, hg⟩ => ?_
  subst he
  exact ⟨_, rfl, post_of_below2 (pv := []) hW' (fun _ _ _ => (trodAll_cons_mk (shut_bool Try.underlying4 _) trodAll_mk0)) (trodAll_cons_mk (shut_int Try.underlying3 w0) (trodAll_cons_mk (shut_int Try.underlying3 w1) (trodAll_cons_mk (shut_int Try.underlying22 w2) (trodAll_cons_mk (Below.trod laidOut (by kernel_rfl) (of_decide_eq_true (by kernel_rfl)) k3 hg hlt3) trodAll_mk0)))) rfl (by simp) (hg.frame _)⟩

theorem over : Rows.seekPlaysRow.holds Try.pinned (OpenSpec.ofChange Rows.seekPlaysSpec) :=
  OpenClaim.holds_of_wide 5 Try.f5 rfl rfl rfl rfl rfl rfl rfl ⟨rfl, rfl, rfl, rfl, rfl⟩ rfl rfl rfl rfl rfl (by kernel_rfl) Try.func5 (by kernel_rfl)
    (of_decide_eq_true (by kernel_rfl)) (by unfold Func.isWrapper; first | (rw [if_pos (by decide +kernel)]; kernel_rfl) | (rw [if_neg (by decide +kernel)]; exact ⟨rfl, rfl⟩))
    (fun os started H enc _ => lifted os started H enc)

theorem proved : Rows.SeekPlaysSaid :=
  over

#print axioms proved
end Go.Proofs.Ytbajodaohgacmaa.seekPlays
