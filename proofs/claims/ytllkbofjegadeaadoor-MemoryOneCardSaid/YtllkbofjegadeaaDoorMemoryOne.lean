/- gleaninglaw09.MemoryOne: for every input the law returns true, and leaves its arguments as they were. The package-level variables that it reads hold what the program's text lays in them (a tied card); no other condition. -/
import Derived.Test.YtllkbofjegadeaaDoorRows
import Derived.WalkKit
import Derived.Test.YtllkbofjegadeaaDoorCards
import Derived.Test.YtllkbofjegadeaaDoorTie
import Derived.Test.YtllkbofjegadeaaDoorLaid
import Derived.SevenTiedAt
import Derived.Test.YtllkbofjegadeaaDoorOpenR
import Derived.Test.YtllkbofjegadeaaDoorOpen
import Derived.Deep.QuietTactic
import Derived.BigQuiet
import Derived.Deep.LoopGhost
import Derived.Deep.RegionHeld3
import Derived.Test.YtllkbofjegadeaaDoorMem10
import Derived.Test.YtllkbofjegadeaaDoorTail
import Derived.Test.YtllkbofjegadeaaDoorLaid
import Derived.Test.YtllkbofjegadeaaDoorOpen
import Derived.Test.YtllkbofjegadeaaDoorFrame
import Derived.ProofKit
import Derived.OpenShut
namespace Go.Proofs.YtllkbofjegadeaaDoor.memoryOne
open Go.ChangeShapes Go.WideShapes Go.ChangeAt Go.RowKit
set_option linter.unusedVariables false

theorem own : ownKnob Tryd.prog.godebug = none := by kernel_rfl
theorem laidOut : laidOutB Tryd.prog = true := by kernel_rfl

set_option maxRecDepth 100000 in
set_option maxHeartbeats 2000000 in
theorem walk (w : World) (hG : GL w) (a0_0 : Int) (w0_0 : (Lit.int .i64 a0_0).wf = true) (a0_1 : Int) (w0_1 : (Lit.int .i64 a0_1).wf = true) (a0_2 : Int) (w0_2 : (Lit.int .i64 a0_2).wf = true) (a0_3 : Int) (w0_3 : (Lit.int .i64 a0_3).wf = true) (a0_4 : Int) (w0_4 : (Lit.int .i64 a0_4).wf = true) (A1 : Option Addr) (len1 cap1 b1 off1 : Nat) (rs1 : List (List Int)) (hl1 : rs1.length = len1) (hm1 : len1 ≤ cap1 ∧ len1 ≤ maxLen) (hR1 : RdS w [.i64, .u64] A1 b1 off1 rs1) (hb1 : ∀ r ∈ rs1, wfRow [.i64, .u64] r) (a2_0 : Int) (w2_0 : (Lit.int .i64 a2_0).wf = true) (a2_1 : Int) (w2_1 : (Lit.int .i64 a2_1).wf = true) (a2_2 : Int) (w2_2 : (Lit.int .u64 a2_2).wf = true) (a2_3 : Int) (w2_3 : (Lit.int .u64 a2_3).wf = true) :
    Calls Tryd.prog 5 #[.agg #[.int .i64 a0_0, .int .i64 a0_1, .int .i64 a0_2, .int .i64 a0_3, .int .i64 a0_4], .slice A1 len1 cap1, .agg #[.int .i64 a2_0, .int .i64 a2_1, .int .u64 a2_2, .int .u64 a2_3]] w fun e w' => e = .returned (.bool true) ∧ Below w.heap.size w w' := by
  have AW := Lib.hid (fun W' h => awake9_any W' h)
  have HG := Lib.hid hG
  obtain ⟨o, rfl⟩ : ∃ z : Nat, a2_2 = z := ⟨a2_2.toNat, by have := u64_lo w2_2; omega⟩
  obtain ⟨x, rfl⟩ : ∃ z : Nat, a2_3 = z := ⟨a2_3.toNat, by have := u64_lo w2_3; omega⟩
  clear hG w0_0 w0_1 w0_2 w0_3 w0_4 w2_0 w2_1 w2_2 w2_3
  have H1 := Lib.hid (RW2.of_rows hR1 hb1)
  obtain ⟨ws, hws⟩ : ∃ q, rs1.map wqOf = q := ⟨_, rfl⟩
  rw [hws] at H1
  have HW := Lib.hid (show ws.length = len1 by rw [← hws, List.length_map]; exact hl1)
  have HB1 := Lib.hid (show ∀ h1, w.heap.size < h1 → b1 ≠ h1 ∨ ws.length = 0 from fun h1 hh => by
    by_cases h0 : 0 < ws.length
    · exact .inl (Nat.ne_of_lt (Nat.lt_trans (H1.out.lt h0) hh))
    · exact .inr (by omega))
  clear hws hR1 hb1 hl1
  by_cases hlen : (len1 : Int) ≤ 100
  · have hln : len1 ≤ 100 := by omega
    by_cases hok : okC a0_0 a0_1 a0_2 a0_3 a0_4
    · obtain ⟨n, hn, h0, hbig⟩ := size_nat a0_0 a0_1 a0_2 a0_3 a0_4 hok
      by_cases h5 : n ≤ 5000
      · have SZ0 := fun W' => rsize_yes a0_0 a0_1 a0_2 a0_3 a0_4 hok W'
        rw [hn] at SZ0
        have RS := Lib.hid SZ0
        have MN := Lib.hid (fun W' h => mnew_yes a0_0 a0_1 a0_2 a0_3 a0_4 hok n hn h0 (by omega) W' h)
        have LS0 := fun W' => size_any a0_0 a0_1 a0_2 a0_3 a0_4 (.inl hok) W'
        rw [hn] at LS0
        have LS := Lib.hid LS0
        have WS := Lib.hid (fun g gw (us : List Nat) (hu : us.length = n) W' h => mwords_all g gw a0_0 a0_1 a0_2 a0_3 a0_4 us n hu h0 (by omega) W' (.inl hok) hn h)
        have hne : ((n : Int) == 0) = false := by simp; omega
        have hnn : ((n : Int) != (n : Int)) = false := by simp
        have hn5 : (n : Int) ≤ 5000 := by omega
        have hn0 : (0 : Int) < (n : Int) := by omega
        have hmn : n ≤ maxLen := by unfold maxLen; omega
        have K0 := Lib.hid (CB.next (CB.start w a0_0 a0_1 a0_2 a0_3 a0_4) (ml1 _ (askRow a2_0 a2_1 o x)))
        have AB0 := Lib.hid (AB.start w (.cells #[.int .i64 a0_0, .int .i64 a0_1, .int .i64 a0_2, .int .i64 a0_3, .int .i64 a0_4] 23) a2_0 a2_1 o x)
        have t1 : True := trivial
        have t2 : True := trivial
        have t3 : True := trivial
        have t4 : True := trivial
        have t5 : True := trivial
        have t6 : True := trivial
        have t7 : True := trivial
        have t8 : True := trivial
        have HL1 := Lib.hid hln
        clear hok hn SZ0 LS0
        go_enter Tryd.func5, Tryd.ntmps5
        go_wp2_with (first
          | (go_at_call 7; have _t := t1; refine (RS.out _).mono ?_; rintro e u1 ⟨rfl, hn⟩; clear t1; have K1 := Lib.hid (K0.out.next hn); have AB1 := Lib.hid (AB0.out.next hn); clear hn; have c0' := K1.out.c0; have c1' := K1.out.c1; have c2' := K1.out.c2; have c3' := K1.out.c3; have c4' := K1.out.c4)
          | (go_at_call 7; have _t := t2; refine (RS.out _).mono ?_; rintro e u2 ⟨rfl, hn⟩; clear t2; have K2 := Lib.hid (K1.out.next hn); have AB2 := Lib.hid (AB1.out.next hn); clear hn; clear c0' c1' c2' c3' c4'; have c0' := K2.out.c0; have c1' := K2.out.c1; have c2' := K2.out.c2; have c3' := K2.out.c3; have c4' := K2.out.c4)
          | (go_at_call 9; have _t := t3; refine (MN.out _ (HG.out.next K2.out.bl)).mono ?_; rintro e u3 ⟨g1, h1, rfl, hg1, hg2, hm, hb⟩; clear t3; have K3 := Lib.hid (K2.out.next hb); have AB3 := Lib.hid (AB2.out.next hb); have HM := Lib.hid hm; have HS1 := Lib.hid (Nat.lt_of_lt_of_le (World.block_lt_of_cell? _ _ AB2.out.a0) hg2); clear hg1 hg2 hm hb; clear c0' c1' c2' c3' c4'; have c0' := K3.out.c0; have c1' := K3.out.c1; have c2' := K3.out.c2; have c3' := K3.out.c3; have c4' := K3.out.c4)
          | (go_at_call 9; have _t := t4; refine (MN.out _ (HG.out.next K3.out.bl)).mono ?_; rintro e u4 ⟨g2, h2, rfl, hg1, hg2, hm, hb⟩; clear t4; have P4 := Lib.hid (show M2 w a2_0 a2_1 o x g1 h1 g2 h2 a0_0 a0_1 a0_2 a0_3 a0_4 (List.replicate n 0) (List.replicate n 0) u4 from ⟨AB3.out.next hb, HM.out.next hb, hm, (K3.out.next hb).bl, HS1.out, Nat.lt_of_lt_of_le (World.block_lt_of_cell? _ _ AB3.out.a0) hg2, Nat.ne_of_lt (Nat.lt_of_lt_of_le HM.out.r.lt hg2), Nat.ne_of_lt (Nat.lt_of_lt_of_le HM.out.b.lt hg2), Nat.ne_of_gt (Nat.lt_of_lt_of_le HM.out.b.lt hg1)⟩); clear hg1 hg2 hm hb; clear c0' c1' c2' c3' c4')
          | (go_at_call 15; have _t := t5; refine (mwrite_n g1 h1 a0_0 a0_1 a0_2 a0_3 a0_4 (List.replicate n 0) ws (by simp; omega) len1 HW.out (by omega) A1 b1 off1 cap1 _ P4.out.m (H1.out.next P4.out.bl) (HB1.out h1 (by have := P4.out.l1; omega))).mono ?_; rintro e u5 ⟨⟨v5, rfl⟩, hm, hb⟩; clear t5; have P5 := Lib.hid (M2.but1 P4.out hm hb); clear hm hb))
        clear K0 K1 K2 K3 AB0 AB1 AB2 AB3 HM RS MN P4
        have HU := Lib.hid (show (wrs (List.replicate n 0) ws).length = n by rw [wrs_len, List.length_replicate])
        generalize wrs (List.replicate n 0) ws = us at P5 HU
        have P6 := Lib.hid (P5.out.next (Below.refl _ _).drew)
        obtain ⟨v, hv⟩ : ∃ v, wordF us a2_1 = v := ⟨_, rfl⟩
        have HV := Lib.hid hv
        have WDm := Lib.hid (mword_any g1 h1 a0_0 a0_1 a0_2 a0_3 a0_4 us a2_1 (by rw [HU.out]; omega) _ P6.out.m)
        rw [hv] at WDm
        clear hv
        have hs : (fun w' => w'.cell? ⟨w.heap.size + 1, 1, none⟩ = some (.int .i64 a2_1) ∧ QA w a2_1 w') _ := ⟨P6.out.q.a1, ⟨P6.out.q.a1, P6.out.bl⟩⟩
        go_region_held3 (fun w' => w'.cell? ⟨w.heap.size + 1, 1, none⟩ = some (.int .i64 a2_1) ∧ QA w a2_1 w') (first | with_reducible exact hs | with_reducible exact QA.both (QA.next (QA.of (by assumption)) (ml1 _ _)))
          (first
          | (go_at_call 18; refine WDm.out.mono ?_; rintro e u6 ⟨rfl, rfl⟩)
          | (go_at_call 15; refine (mwrite_one2 g2 h2 a0_0 a0_1 a0_2 a0_3 a0_4 (List.replicate n 0) a2_1 v _ (by simp; omega) _ (by simp) P6.out.n).mono ?_; rintro e u7 ⟨⟨v7, rfl⟩, hm, hb⟩; have P7 := Lib.hid (M2.but2 P6.out hm hb); have hs : (fun w' => w'.cell? ⟨w.heap.size + 1, 1, none⟩ = some (.int .i64 a2_1) ∧ QA w a2_1 w') _ := ⟨P7.out.q.a1, ⟨P7.out.q.a1, P7.out.bl⟩⟩; clear hm hb))
        all_goals (
          clear hs
          have HU2 := Lib.hid (show (wr1 (List.replicate n 0) (a2_1, v)).length = n by rw [wr1_len, List.length_replicate])
          have HO := Lib.hid (one_same us (wr1 (List.replicate n 0) (a2_1, v)) a2_0 a2_1 o x (by rw [HU.out, HU2.out]) (by rw [word_wr1 (List.replicate n 0) a2_1 v us (by rw [HU.out, List.length_replicate]) HV.out.symm]))
          have HE := Lib.hid (fun j hj => one_else us a2_0 a2_1 o x j hj)
          generalize wr1 (List.replicate n 0) (a2_1, v) = vs at P7 HU2 HO
          have m0' := P7.out.m.r.c0; have m1' := P7.out.m.r.c1; have m2' := P7.out.m.r.c2; have m3' := P7.out.m.r.c3; have m4' := P7.out.m.r.c4
          go_wp2_with (first
            | (go_at_call 19; have _t := t6; refine (LS.out _).mono ?_; rintro e u8 ⟨rfl, hn⟩; clear t6; have P8 := Lib.hid (P7.out.next hn); clear hn; clear m0' m1' m2' m3' m4')
            | (go_at_call 14; have _t := t7; refine (WS.out g1 h1 us HU.out _ P8.out.m).mono ?_; rintro e u9 ⟨b9, c9, rfl, hsr, hbb, hn⟩; clear t7; have P9 := Lib.hid (P8.out.next hn); have R9 := Lib.hid hsr; have N9 := Lib.hid (Nat.ne_of_gt (Nat.lt_of_lt_of_le P8.out.m.b.lt hbb)); have N9' := Lib.hid (Nat.ne_of_gt (Nat.lt_of_lt_of_le P8.out.n.b.lt hbb)); clear hsr hbb hn; have q0' := P9.out.q.a0; have q1' := P9.out.q.a1; have q2' := P9.out.q.a2; have q3' := P9.out.q.a3)
            | (go_at_call 11; refine (mdo_any g1 h1 a0_0 a0_1 a0_2 a0_3 a0_4 us a2_0 a2_1 o x (by rw [HU.out]; omega) _ P9.out.m).mono ?_; rintro e ua ⟨rfl, hm, hb⟩; have PA := Lib.hid ((M2.but1 P9.out hm hb).next (Below.refl _ _).drew); have RA := Lib.hid ((R9.out.but hb N9.out).next (Below.refl _ _).drew); clear hm hb; clear q0' q1' q2' q3'))
          have HU3 := Lib.hid (show (doF us a2_0 a2_1 o x).2.length = n by rw [doF_len]; exact HU.out)
          have DN0 := mdo_any g2 h2 a0_0 a0_1 a0_2 a0_3 a0_4 vs a2_0 a2_1 o x (by rw [HU2.out]; omega) _ PA.out.n
          rw [HO.out.1] at DN0
          have DN := Lib.hid DN0
          have WN := Lib.hid (fun W' h => mword_any g2 h2 a0_0 a0_1 a0_2 a0_3 a0_4 (doF vs a2_0 a2_1 o x).2 a2_1 (by rw [doF_len, HU2.out]; omega) W' h)
          have WM := Lib.hid (fun W' h => mword_any g1 h1 a0_0 a0_1 a0_2 a0_3 a0_4 (doF us a2_0 a2_1 o x).2 a2_1 (by rw [doF_len, HU.out]; omega) W' h)
          rw [HO.out.2] at WN
          clear DN0 HO P7 P8 P9
          generalize doF us a2_0 a2_1 o x = du at PA DN WM WN HU3 HE
          obtain ⟨y, us2⟩ := du
          generalize doF vs a2_0 a2_1 o x = dv at DN WN
          obtain ⟨y2, vs2⟩ := dv
          simp only at PA DN WM WN HU3 HE
          generalize wordF us2 a2_1 = z at WM WN
          have hyy : ((y : Int) != (y : Int)) = false := by simp
          have hzz : ((z : Int) != (z : Int)) = false := by simp
          have hs : (fun w' => w'.cell? ⟨w.heap.size + 1, 0, none⟩ = some (.int .i64 a2_0) ∧ w'.cell? ⟨w.heap.size + 1, 1, none⟩ = some (.int .i64 a2_1) ∧ w'.cell? ⟨w.heap.size + 1, 2, none⟩ = some (.int .u64 (o : Nat)) ∧ w'.cell? ⟨w.heap.size + 1, 3, none⟩ = some (.int .u64 (x : Nat)) ∧ Below w.heap.size w w') _ := ⟨PA.out.q.a0, PA.out.q.a1, PA.out.q.a2, PA.out.q.a3, PA.out.bl⟩
          go_region_held3 (fun w' => w'.cell? ⟨w.heap.size + 1, 0, none⟩ = some (.int .i64 a2_0) ∧ w'.cell? ⟨w.heap.size + 1, 1, none⟩ = some (.int .i64 a2_1) ∧ w'.cell? ⟨w.heap.size + 1, 2, none⟩ = some (.int .u64 (o : Nat)) ∧ w'.cell? ⟨w.heap.size + 1, 3, none⟩ = some (.int .u64 (x : Nat)) ∧ Below w.heap.size w w') (first | with_reducible exact hs | exact hs)
            (first
            | (go_at_call 11; refine DN.out.mono ?_; rintro e ub ⟨rfl, hm, hb⟩; have PB := Lib.hid (M2.but2 PA.out hm hb); have RB := Lib.hid (RA.out.but hb N9'.out); have hs : (fun w' => w'.cell? ⟨w.heap.size + 1, 0, none⟩ = some (.int .i64 a2_0) ∧ w'.cell? ⟨w.heap.size + 1, 1, none⟩ = some (.int .i64 a2_1) ∧ w'.cell? ⟨w.heap.size + 1, 2, none⟩ = some (.int .u64 (o : Nat)) ∧ w'.cell? ⟨w.heap.size + 1, 3, none⟩ = some (.int .u64 (x : Nat)) ∧ Below w.heap.size w w') _ := ⟨PB.out.q.a0, PB.out.q.a1, PB.out.q.a2, PB.out.q.a3, PB.out.bl⟩; clear hm hb)
            | (go_at_call 18; have _t := t8; refine (WN.out _ PB.out.n).mono ?_; rintro e uc ⟨rfl, rfl⟩; clear t8)
            | (go_at_call 18; refine (WM.out _ PB.out.m).mono ?_; rintro e ud ⟨rfl, rfl⟩))
          all_goals (
            clear hs
            have m0' := PB.out.m.r.c0; have m1' := PB.out.m.r.c1; have m2' := PB.out.m.r.c2; have m3' := PB.out.m.r.c3; have m4' := PB.out.m.r.c4
            go_wp2_with (first
              | (go_at_call 19; refine (LS.out _).mono ?_; rintro e ue ⟨rfl, hn⟩; have PE := Lib.hid (PB.out.next hn); have RE := Lib.hid (RB.out.next hn); clear hn; clear m0' m1' m2' m3' m4')
              | (go_at_call 14; refine (WS.out g1 h1 us2 HU3.out _ PE.out.m).mono ?_; rintro e uf ⟨bf, cf, rfl, hsr, hbb, hn⟩; have QF := Lib.hid (show QA w a2_1 uf from ⟨(PE.out.next hn).q.a1, (PE.out.next hn).bl⟩); have R1 := Lib.hid (RE.out.next hn); have R2 := Lib.hid hsr; clear hsr hbb hn))
            clear PA PB PE RA RB RE R9 DN WN WM
            go_loopg [12] n (fun gk i wr => ∃ j : Nat, j ≤ n ∧ gk = n - j ∧ i = .int .i64 j ∧ QA w a2_1 wr ∧ SR wr (some ⟨b9, 0, none⟩) c9 b9 0 us ∧ SR wr (some ⟨bf, 0, none⟩) cf bf 0 us2)
            case atStart => exact ⟨0, by omega, by omega, rfl, QF.out, R1.out, R2.out⟩
            case round =>
              clear QF R1 R2
              obtain ⟨j, hj, hgk, rfl, hq, r1, r2⟩ := hrel
              by_cases hlt : j < n
              · have hji : (j : Int) < (n : Int) := by omega
                have hj0 : (0 : Int) ≤ (j : Int) := by omega
                have x1 := r1.c j (by rw [HU.out]; exact hlt)
                have x2 := r2.c j (by rw [HU3.out]; exact hlt)
                rw [Nat.zero_add] at x1 x2
                have R1 := Lib.hid r1
                have R2 := Lib.hid r2
                by_cases hja : (j : Int) = a2_1
                · have hjb : ((j : Int) != a2_1) = false := by simp [hja]
                  have HS := Lib.hid (show QB w a2_1 wr wr.drew from ⟨hq.a1, hq.bl.drew, (Below.refl _ _).drew⟩)
                  clear hq r1 r2 hja x1 x2
                  go_wp2
                  refine wp_region_class (C := QB w a2_1 wr) (by kernel_rfl) (by kernel_rfl) (HS.out) ?_
                  repeat (first
                    | go_big_quiet_skip
                    | (go_big_quiet_want; go_big_quiet_op; go_big_quiet_on)
                    | (go_big_quiet_want; go_big_quiet_op; refine ⟨_, fun _ _ => rfl, ?_⟩; go_big_quiet_on)
                    | (go_big_quiet_want
                       apply quiet_mk
                       · intro u hu
                         have a1 := hu.a1
                         have HU := Lib.hid hu
                         clear hu
                         go_simp
                         first
                           | with_reducible rfl
                           | (fail)
                       simp only [Act.put, List.setIfInBounds_toArray, List.set_cons_zero, List.set_cons_succ]
                       go_big_quiet_on))
                  refine wpQuiet_nil ?_
                  intro u hu
                  have HB := Lib.hid hu
                  clear hu HS
                  go_wp2
                  go_roundg (n - (j + 1))
                  case rel => exact ⟨j + 1, by omega, rfl, by go_num, ⟨HB.out.a1, HB.out.bl⟩, R1.out.next HB.out.br, R2.out.next HB.out.br⟩
                  case measure => omega
                · have hjb : ((j : Int) != a2_1) = true := by simp [hja]
                  rw [HE.out j hja] at x2
                  generalize us.getD j 0 = c at x1 x2
                  have hcc : ((c : Int) != (c : Int)) = false := by simp
                  have HS := Lib.hid (show QP w a2_1 wr b9 j bf j c wr.drew from ⟨hq.a1, hq.bl.drew, (Below.refl _ _).drew, x1, x2⟩)
                  clear hq r1 r2 hja x1 x2
                  go_wp2
                  refine wp_region_class (C := QP w a2_1 wr b9 j bf j c) (by kernel_rfl) (by kernel_rfl) (HS.out) ?_
                  repeat (first
                    | go_big_quiet_skip
                    | (go_big_quiet_want; go_big_quiet_op; go_big_quiet_on)
                    | (go_big_quiet_want; go_big_quiet_op; refine ⟨_, fun _ _ => rfl, ?_⟩; go_big_quiet_on)
                    | (go_big_quiet_want
                       apply quiet_mk
                       · intro u hu
                         have a1 := hu.a1; have p := hu.p; have q := hu.q
                         have HU := Lib.hid hu
                         clear hu
                         go_simp
                         first
                           | with_reducible rfl
                           | (fail)
                       simp only [Act.put, List.setIfInBounds_toArray, List.set_cons_zero, List.set_cons_succ]
                       go_big_quiet_on))
                  refine wpQuiet_nil ?_
                  intro u hu
                  have HB := Lib.hid hu
                  clear hu HS
                  go_wp2
                  go_roundg (n - (j + 1))
                  case rel => exact ⟨j + 1, by omega, rfl, by go_num, ⟨HB.out.a1, HB.out.bl⟩, R1.out.next HB.out.br, R2.out.next HB.out.br⟩
                  case measure => omega
              · obtain rfl : j = n := by omega
                have HQ := Lib.hid hq
                clear hq r1 r2
                go_wp2_with (go_at_call 8; refine (AW.out _ (HG.out.next HQ.out.bl)).mono ?_; rintro e v3 ⟨rfl, hn⟩; have HX := Lib.hid (HQ.out.bl.trans (hn.mono HQ.out.bl.size)); clear hn)
                go_ret
                exact ⟨rfl, HX.out⟩))
      · have SZ0 := fun W' => rsize_yes a0_0 a0_1 a0_2 a0_3 a0_4 hok W'
        rw [hn] at SZ0
        have RS := Lib.hid SZ0
        have hn5 : (5000 : Int) < (n : Int) := by omega
        have K0 := Lib.hid (CB.next (CB.start w a0_0 a0_1 a0_2 a0_3 a0_4) (ml1 _ (askRow a2_0 a2_1 o x)))
        clear hok hn SZ0
        go_enter Tryd.func5, Tryd.ntmps5
        go_wp2_with (first
          | (go_at_call 7; refine (RS.out _).mono ?_; rintro e u1 ⟨rfl, hn⟩; have K1 := Lib.hid (K0.out.next hn); clear hn)
          | (go_at_call 8; refine (AW.out _ (HG.out.next K1.out.bl)).mono ?_; rintro e v3 ⟨rfl, hn⟩; have K2 := Lib.hid (K1.out.next hn); clear hn))
        go_ret
        exact ⟨rfl, K2.out.bl⟩
    · have RS := Lib.hid (fun W' => rsize_no a0_0 a0_1 a0_2 a0_3 a0_4 hok W')
      have K0 := Lib.hid (CB.next (CB.start w a0_0 a0_1 a0_2 a0_3 a0_4) (ml1 _ (askRow a2_0 a2_1 o x)))
      have t1 : True := trivial
      have t2 : True := trivial
      clear hok
      go_enter Tryd.func5, Tryd.ntmps5
      go_wp2_with (first
        | (go_at_call 7; have _t := t1; refine (RS.out _).mono ?_; rintro e u1 ⟨rfl, hn⟩; clear t1; have K1 := Lib.hid (K0.out.next hn); clear hn; have c0' := K1.out.c0; have c1' := K1.out.c1; have c2' := K1.out.c2; have c3' := K1.out.c3; have c4' := K1.out.c4)
        | (go_at_call 7; have _t := t2; refine (RS.out _).mono ?_; rintro e u2 ⟨rfl, hn⟩; clear t2; have K2 := Lib.hid (K1.out.next hn); clear hn; clear c0' c1' c2' c3' c4')
        | (go_at_call 8; refine (AW.out _ (HG.out.next K2.out.bl)).mono ?_; rintro e v3 ⟨rfl, hn⟩; have K3 := Lib.hid (K2.out.next hn); clear hn))
      go_ret
      exact ⟨rfl, K3.out.bl⟩
  · have K0 := Lib.hid (CB.next (CB.start w a0_0 a0_1 a0_2 a0_3 a0_4) (ml1 _ (askRow a2_0 a2_1 o x)))
    go_enter Tryd.func5, Tryd.ntmps5
    go_wp2_with (first
      | (go_at_call 8; refine (AW.out _ (HG.out.next K0.out.bl)).mono ?_; rintro e v3 ⟨rfl, hn⟩; have K2 := Lib.hid (K0.out.next hn); clear hn))
    go_ret
    exact ⟨rfl, K2.out.bl⟩

set_option maxRecDepth 100000 in
theorem lifted (os : Os) (started : os.Started) (H : Type) (enc : TypeId × Value → H) :
    ReturnsInHanded {} Tryd.checked os 5 .any (fun w args => (Rows.memoryOneSpec.pre enc Tryd.prog Tryd.f5 [] false w args ∧ laidMetH Tryd.prog laidVars w) ∧ sizedMet enc Tryd.prog Tryd.f5 (OpenSpec.ofChange Rows.memoryOneSpec) false w args)
      (Rows.memoryOneSpec.post enc Tryd.prog Tryd.f5 false true false false) := by
  refine returnsInHanded_of_change_and (C := Tryd.checked) (X := fun w _ => laidMetH Tryd.prog laidVars w) (fun _ _ _ hh h => h.of_heap hh) own started (by kernel_rfl) Tryd.func5
    (ChangeSpec.witness_shaped (enc := enc) (C := Tryd.checked) (os := os) (X := fun w _ => laidMetH Tryd.prog laidVars w) false (World.doorLaid Tryd.prog 400 os) #[.agg #[.int .i64 0, .int .i64 0, .int .i64 0, .int .i64 0, .int .i64 0], .slice none 0 0, .agg #[.int .i64 0, .int .i64 0, .int .u64 0, .int .u64 0]] 8 rfl (World.shaped_of_RefB (by kernel_rfl) (by kernel_rfl)) (by kernel_rfl) (by kernel_rfl) (by kernel_rfl) (door_met os _)) ?_
  intro W base args ds gs before hval0 hW _ _ hL _
  have hval : ∀ (j : Nat) t v, Tryd.f5.params[j]? = some t → args[j]? = some v → Value.okWide Tryd.prog W .any base t v := hval0
  have hW' := hW
  obtain ⟨p, q, hA0, hV, rfl, hfz, hnd⟩ := hW
  have hA : DataW.TrodAll enc Tryd.prog W 0 (fun _ => true) true Tryd.f5.params.toList args.toList ds p := hA0
  rw [Tryd.params5] at hA hval
  obtain ⟨v0, vs0, d0, ds0, p0, q0, hargs, rfl, rfl, h0, r0⟩ := trodAll_cons hA
  obtain ⟨v1, vs1, d1, ds1, p1, q1, rfl, rfl, rfl, h1, r1⟩ := trodAll_cons r0
  obtain ⟨v2, vs2, d2, ds2, p2, q2, rfl, rfl, rfl, h2, r2⟩ := trodAll_cons r1
  obtain ⟨rfl, rfl, rfl⟩ := trodAll_nil r2
  obtain rfl : args = #[v0, v1, v2] := by cases args; simp_all
  obtain ⟨rfl, rfl⟩ := trodVars_none hV
  have k0 := h0
  obtain ⟨ns0, h0l, h0v, h0w⟩ := open_intStruct [.i64, .i64, .i64, .i64, .i64] Tryd.underlying23 (by kernel_rfl) (by kernel_rfl) rfl (hval 0 23 v0 rfl rfl) h0
  obtain ⟨a0_0, a0_1, a0_2, a0_3, a0_4, rfl⟩ := list5 h0l
  obtain rfl : v0 = .agg #[.int .i64 a0_0, .int .i64 a0_1, .int .i64 a0_2, .int .i64 a0_3, .int .i64 a0_4] := h0v
  obtain ⟨A1, len1, cap1, rfl⟩ := okWide_slice Tryd.underlying39 (hval 1 39 v1 rfl rfl)
  have k1 := h1
  obtain ⟨b1, off1, rs1, hl1, hm1, hR1, hb1⟩ := open_rows [.i64, .u64] Tryd.underlying39 Tryd.underlying42 (by kernel_rfl) (by kernel_rfl) (by kernel_rfl) (by decide) h1
  have k2 := h2
  obtain ⟨ns2, h2l, h2v, h2w⟩ := open_intStruct [.i64, .i64, .u64, .u64] Tryd.underlying34 (by kernel_rfl) (by kernel_rfl) rfl (hval 2 34 v2 rfl rfl) h2
  obtain ⟨a2_0, a2_1, a2_2, a2_3, rfl⟩ := list4 h2l
  obtain rfl : v2 = .agg #[.int .i64 a2_0, .int .i64 a2_1, .int .u64 a2_2, .int .u64 a2_3] := h2v
  clear hA0 hval0
  simp only [List.append_nil] at hW'
  have hlt0 : ∀ x ∈ p0, x.block < W.heap.size := fun x hx => by simpa using hW'.lt x (by simp [hx])
  have hlt1 : ∀ x ∈ p1, x.block < W.heap.size := fun x hx => by simpa using hW'.lt x (by simp [hx])
  have hlt2 : ∀ x ∈ p2, x.block < W.heap.size := fun x hx => by simpa using hW'.lt x (by simp [hx])
  refine (walk W (of_laid hL) a0_0 (h0w 0 .i64 _ rfl rfl) a0_1 (h0w 1 .i64 _ rfl rfl) a0_2 (h0w 2 .i64 _ rfl rfl) a0_3 (h0w 3 .i64 _ rfl rfl) a0_4 (h0w 4 .i64 _ rfl rfl) A1 len1 cap1 b1 off1 rs1 hl1 hm1 hR1 hb1 a2_0 (h2w 0 .i64 _ rfl rfl) a2_1 (h2w 1 .i64 _ rfl rfl) a2_2 (h2w 2 .u64 _ rfl rfl) a2_3 (h2w 3 .u64 _ rfl rfl)).mono fun e W' ⟨he, hg⟩ => ?_
  subst he
  exact ⟨_, rfl, post_of_below2 (pv := []) hW' (fun _ _ _ => (trodAll_cons_mk (shut_bool Tryd.underlying4 _) trodAll_mk0)) (trodAll_cons_mk (Below.trod laidOut (by kernel_rfl) (of_decide_eq_true (by kernel_rfl)) k0 hg hlt0) (trodAll_cons_mk (Below.trod laidOut (by kernel_rfl) (of_decide_eq_true (by kernel_rfl)) k1 hg hlt1) (trodAll_cons_mk (Below.trod laidOut (by kernel_rfl) (of_decide_eq_true (by kernel_rfl)) k2 hg hlt2) trodAll_mk0))) rfl (by simp) (hg.frame _)⟩

theorem over : Rows.memoryOneRow.holds Tryd.pinned (OpenSpec.ofChange Rows.memoryOneSpec) :=
  OpenClaim.holds_of_wide 5 Tryd.f5 rfl rfl rfl rfl rfl rfl rfl ⟨rfl, rfl, rfl, rfl, rfl⟩ rfl rfl rfl rfl rfl (by kernel_rfl) Tryd.func5 (by kernel_rfl)
    (of_decide_eq_true (by kernel_rfl)) (by unfold Func.isWrapper; first | (rw [if_pos (by decide +kernel)]; kernel_rfl) | (rw [if_neg (by decide +kernel)]; exact ⟨rfl, rfl⟩))
    (fun os started H enc _ => lifted os started H enc)

theorem row : Rows.MemoryOneSaid := over

theorem proved : Rows.MemoryOneCardSaid :=
  Claim7.holds_tied_plain_at .later [] [.handle, .data] true (true, "3995999843d9e93109bc0ec46c8edbeffe82842deb00a246e54f8453be661631") true
    row (fun _ h => by cases h) (by kernel_rfl) (fun _ h => by cases h) memoryOne_row_tie rfl ⟨rfl, rfl⟩ (by kernel_rfl) rfl
    (fun f fn hf hfn => by
      obtain rfl : f = 5 := Option.some.inj ((show Tryd.prog.funcNamed "gleaning/gleaninglaw09.MemoryOne" = some 5 by kernel_rfl).symm.trans hf) |>.symm
      obtain rfl : fn = Tryd.f5 := (Option.some.inj (Tryd.func5.symm.trans hfn)).symm
      exact ⟨by kernel_rfl, fun j t ht => by
        rw [Tryd.params5] at ht
        have hm : t ∈ [23, 39, 34] := by simpa using Array.mem_of_getElem? ht
        have hall : ([23, 39, 34].all fun u => !Tryd.prog.wantsStandIn u) = true := by kernel_rfl
        exact (show Tryd.prog.wantsStandIn t = false by simpa using List.all_eq_true.1 hall t hm)⟩)
    (by kernel_rfl)

#print axioms proved
end Go.Proofs.YtllkbofjegadeaaDoor.memoryOne
