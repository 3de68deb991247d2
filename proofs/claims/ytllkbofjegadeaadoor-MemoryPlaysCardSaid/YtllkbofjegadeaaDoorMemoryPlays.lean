/- gleaninglaw09.MemoryPlays: for every input the law returns true, and leaves its arguments as they were. The package-level variables that it reads hold what the program's text lays in them (a tied card); no other condition. -/
import Derived.Test.YtllkbofjegadeaaDoorRows
import Derived.WalkKit
import Derived.Test.YtllkbofjegadeaaDoorCards
import Derived.Test.YtllkbofjegadeaaDoorTie
import Derived.Test.YtllkbofjegadeaaDoorLaid
import Derived.SevenTiedAt
import Derived.Test.YtllkbofjegadeaaDoorOpenR
import Derived.Test.YtllkbofjegadeaaDoorOpen
import Derived.Deep.LoopGhost
import Derived.Deep.RegionHeld3
import Derived.Test.YtllkbofjegadeaaDoorMem9
import Derived.Test.YtllkbofjegadeaaDoorTail
import Derived.Test.YtllkbofjegadeaaDoorLaid
import Derived.Test.YtllkbofjegadeaaDoorOpen
import Derived.Test.YtllkbofjegadeaaDoorFrame
import Derived.ProofKit
import Derived.OpenShut
namespace Go.Proofs.YtllkbofjegadeaaDoor.memoryPlays
open Go.ChangeShapes Go.WideShapes Go.ChangeAt Go.RowKit
set_option linter.unusedVariables false

theorem own : ownKnob Tryd.prog.godebug = none := by kernel_rfl
theorem laidOut : laidOutB Tryd.prog = true := by kernel_rfl
/-- The configuration's box. -/
structure CB (w0 : World) (s t f l p : Int) (W : World) : Prop where
  c0 : W.cell? ⟨w0.heap.size, 0, none⟩ = some (.int .i64 s)
  c1 : W.cell? ⟨w0.heap.size, 1, none⟩ = some (.int .i64 t)
  c2 : W.cell? ⟨w0.heap.size, 2, none⟩ = some (.int .i64 f)
  c3 : W.cell? ⟨w0.heap.size, 3, none⟩ = some (.int .i64 l)
  c4 : W.cell? ⟨w0.heap.size, 4, none⟩ = some (.int .i64 p)
  bl : Below w0.heap.size w0 W
theorem CB.next {w0 W W' : World} {s t f l p : Int} (h : CB w0 s t f l p W) (hn : Below W.heap.size W W') : CB w0 s t f l p W' := by
  have hg : w0.heap.size < W.heap.size := World.block_lt_of_cell? W _ h.c0
  have e : ∀ i, W'.cell? ⟨w0.heap.size, i, none⟩ = W.cell? ⟨w0.heap.size, i, none⟩ := fun i => hn.cell (p := ⟨w0.heap.size, i, none⟩) hg
  exact ⟨(e _).trans h.c0, (e _).trans h.c1, (e _).trans h.c2, (e _).trans h.c3, (e _).trans h.c4, h.bl.trans (hn.mono h.bl.size)⟩
theorem CB.start (w : World) (s t f l p : Int) : CB w s t f l p (w.alloc (.cells #[.int .i64 s, .int .i64 t, .int .i64 f, .int .i64 l, .int .i64 p] 23)) := ⟨by simp, by simp, by simp, by simp, by simp, ml1 _ _⟩

set_option maxHeartbeats 2000000 in
theorem walk (w : World) (hG : GL w) (a0_0 : Int) (w0_0 : (Lit.int .i64 a0_0).wf = true) (a0_1 : Int) (w0_1 : (Lit.int .i64 a0_1).wf = true) (a0_2 : Int) (w0_2 : (Lit.int .i64 a0_2).wf = true) (a0_3 : Int) (w0_3 : (Lit.int .i64 a0_3).wf = true) (a0_4 : Int) (w0_4 : (Lit.int .i64 a0_4).wf = true) (A1 : Option Addr) (len1 cap1 b1 off1 : Nat) (rs1 : List (List Int)) (hl1 : rs1.length = len1) (hm1 : len1 ≤ cap1 ∧ len1 ≤ maxLen) (hR1 : RdS w [.i64, .i64, .u64, .u64] A1 b1 off1 rs1) (hb1 : ∀ r ∈ rs1, wfRow [.i64, .i64, .u64, .u64] r) :
    Calls Tryd.prog 3 #[.agg #[.int .i64 a0_0, .int .i64 a0_1, .int .i64 a0_2, .int .i64 a0_3, .int .i64 a0_4], .slice A1 len1 cap1] w fun e w' => e = .returned (.bool true) ∧ Below w.heap.size w w' := by
  have AW := Lib.hid (fun W' h => awake9_any W' h)
  have HG := Lib.hid hG
  clear hG w0_0 w0_1 w0_2 w0_3 w0_4
  have H1 := Lib.hid (RA4.of_rows hR1 hb1)
  obtain ⟨qs, hqs⟩ : ∃ q, rs1.map aqOf = q := ⟨_, rfl⟩
  rw [hqs] at H1
  have HQ := Lib.hid (show qs.length = len1 by rw [← hqs, List.length_map]; exact hl1)
  clear hqs hR1 hb1 hl1
  by_cases hlen : (len1 : Int) ≤ 200
  · have hln : len1 ≤ 200 := by omega
    by_cases hok : okC a0_0 a0_1 a0_2 a0_3 a0_4
    · obtain ⟨n, hn, h0, hbig⟩ := size_nat a0_0 a0_1 a0_2 a0_3 a0_4 hok
      by_cases h5 : n ≤ 5000
      · have SZ0 := fun W' => rsize_yes a0_0 a0_1 a0_2 a0_3 a0_4 hok W'
        rw [hn] at SZ0
        have SZ := Lib.hid SZ0
        have MN := Lib.hid (fun W' h => mnew_yes a0_0 a0_1 a0_2 a0_3 a0_4 hok n hn h0 (by omega) W' h)
        have RN := Lib.hid (fun W' => rnew_yes a0_0 a0_1 a0_2 a0_3 a0_4 hok n hn (by omega) W')
        have WS := Lib.hid (fun g gw (us : List Nat) (hu : us.length = n) W' h => mwords_all g gw a0_0 a0_1 a0_2 a0_3 a0_4 us n hu h0 (by omega) W' (.inl hok) hn h)
        have hne : ((n : Int) == 0) = false := by simp; omega
        have hn5 : (n : Int) ≤ 5000 := by omega
        have hn0 : (0 : Int) < (n : Int) := by omega
        have K0 := Lib.hid (CB.start w a0_0 a0_1 a0_2 a0_3 a0_4)
        clear hok hn SZ0
        have t1 : True := trivial
        have t2 : True := trivial
        go_enter Tryd.func3, Tryd.ntmps3
        go_wp2_with (first
          | (go_at_call 7; have _t := t1; refine (SZ.out _).mono ?_; rintro e u1 ⟨rfl, hn⟩; clear t1; have K1 := Lib.hid (CB.next K0.out hn); clear hn; have c0' := K1.out.c0; have c1' := K1.out.c1; have c2' := K1.out.c2; have c3' := K1.out.c3; have c4' := K1.out.c4)
          | (go_at_call 9; refine (MN.out _ (HG.out.next K1.out.bl)).mono ?_; rintro e u2 ⟨g, gw, rfl, hg1, hg2, hm, hb⟩; have K2 := Lib.hid (CB.next K1.out hb); have HM := Lib.hid hm; have HS := Lib.hid (Nat.le_trans K1.out.bl.size hg2); clear hg1 hg2 hm hb; clear c0' c1' c2' c3' c4'; have c0' := K2.out.c0; have c1' := K2.out.c1; have c2' := K2.out.c2; have c3' := K2.out.c3; have c4' := K2.out.c4)
          | (go_at_call 7; have _t := t2; refine (SZ.out _).mono ?_; rintro e u3 ⟨rfl, hn⟩; clear t2; have K3 := Lib.hid (CB.next K2.out hn); have HM3 := Lib.hid (HM.out.next hn); clear hn; clear c0' c1' c2' c3' c4'; have c0' := K3.out.c0; have c1' := K3.out.c1; have c2' := K3.out.c2; have c3' := K3.out.c3; have c4' := K3.out.c4)
          | (go_at_call 10; refine (RN.out _).mono ?_; rintro e u4 ⟨gr, rfl, hg1, hw, hb⟩; have HP := Lib.hid (show PM w g gw gr a0_0 a0_1 a0_2 a0_3 a0_4 (List.replicate n 0) u4 from ⟨HM3.out.next hb, hw, (CB.next K3.out hb).bl, HS.out, Nat.le_trans K3.out.bl.size hg1, Nat.ne_of_lt (Nat.lt_of_lt_of_le HM3.out.r.lt hg1), Nat.ne_of_lt (Nat.lt_of_lt_of_le HM3.out.b.lt hg1)⟩); clear hg1 hw hb c0' c1' c2' c3' c4'))
        clear K0 K1 K2 K3 HM HM3 SZ MN RN
        go_loopg [7] len1 (fun gk i wr => ∃ (j : Nat) (us : List Nat), j ≤ len1 ∧ gk = len1 - j ∧ i = .int .i64 j ∧ us.length = n ∧ PM w g gw gr a0_0 a0_1 a0_2 a0_3 a0_4 us wr)
        case atStart => exact ⟨0, List.replicate n 0, by omega, by omega, rfl, by simp, HP.out⟩
        case round =>
          clear HP
          obtain ⟨j, us, hj, hgk, rfl, hul, hp⟩ := hrel
          by_cases hlt : j < len1
          · have hjl : j < qs.length := by rw [HQ.out]; exact hlt
            obtain rfl := H1.out.a (by omega)
            have hji : (j : Int) < (len1 : Int) := by omega
            have hj0 : (0 : Int) ≤ (j : Int) := by omega
            have hmx : len1 ≤ maxLen := by unfold maxLen; omega
            have q0 := Lib.hid (fun W' (h : Below w.heap.size w W') => (H1.out.next h).c0 j hjl)
            have q1 := Lib.hid (fun W' (h : Below w.heap.size w W') => (H1.out.next h).c1 j hjl)
            have q2 := Lib.hid (fun W' (h : Below w.heap.size w W') => (H1.out.next h).c2 j hjl)
            have q3 := Lib.hid (fun W' (h : Below w.heap.size w W') => (H1.out.next h).c3 j hjl)
            generalize qs.getD j (0, 0, 0, 0) = r at q0 q1 q2 q3
            obtain ⟨k, a, o, x⟩ := r
            simp only at q0 q1 q2 q3
            have HP := Lib.hid (hp.next (Below.refl _ _).drew)
            have DO := Lib.hid (mdo_any g gw a0_0 a0_1 a0_2 a0_3 a0_4 us k a o x (by omega) _ HP.out.m)
            have RD := Lib.hid (fun W' h => rdo_n gr n us hul k a o x (by omega) W' h)
            have HU := Lib.hid (show (doF us k a o x).2.length = n by rw [doF_len]; exact hul)
            generalize doF us k a o x = dr at DO RD HU
            obtain ⟨y, vs⟩ := dr
            simp only at DO RD HU
            have hyy : ((y : Int) != (y : Int)) = false := by simp
            have hs0 := HP.out.bl
            have hs : (fun w' => w'.cell? ⟨b1, off1 + j * 4, none⟩ = some (.int .i64 k) ∧ w'.cell? ⟨b1, off1 + j * 4 + 1, none⟩ = some (.int .i64 a) ∧ w'.cell? ⟨b1, off1 + j * 4 + 2, none⟩ = some (.int .u64 (o : Nat)) ∧ w'.cell? ⟨b1, off1 + j * 4 + 3, none⟩ = some (.int .u64 (x : Nat)) ∧ Below w.heap.size w w') _ := ⟨q0.out _ hs0, q1.out _ hs0, q2.out _ hs0, q3.out _ hs0, hs0⟩
            clear hp hul hjl hs0
            go_wp2
            go_region_held3 (fun w' => w'.cell? ⟨b1, off1 + j * 4, none⟩ = some (.int .i64 k) ∧ w'.cell? ⟨b1, off1 + j * 4 + 1, none⟩ = some (.int .i64 a) ∧ w'.cell? ⟨b1, off1 + j * 4 + 2, none⟩ = some (.int .u64 (o : Nat)) ∧ w'.cell? ⟨b1, off1 + j * 4 + 3, none⟩ = some (.int .u64 (x : Nat)) ∧ Below w.heap.size w w') (first | with_reducible exact hs | exact hs)
              (first
              | (go_at_call 11; refine DO.out.mono ?_; rintro e w1 ⟨rfl, hm1, hb1⟩; have hs0 := HP.out.bl.trans (hb1.below HP.out.sw HP.out.bl.size); have hs : (fun w' => w'.cell? ⟨b1, off1 + j * 4, none⟩ = some (.int .i64 k) ∧ w'.cell? ⟨b1, off1 + j * 4 + 1, none⟩ = some (.int .i64 a) ∧ w'.cell? ⟨b1, off1 + j * 4 + 2, none⟩ = some (.int .u64 (o : Nat)) ∧ w'.cell? ⟨b1, off1 + j * 4 + 3, none⟩ = some (.int .u64 (x : Nat)) ∧ Below w.heap.size w w') _ := ⟨q0.out _ hs0, q1.out _ hs0, q2.out _ hs0, q3.out _ hs0, hs0⟩; have HM1 := Lib.hid hm1; have HR1 := Lib.hid (HP.out.r.but hb1 (Ne.symm HP.out.n2)); have HB1 := Lib.hid hs0; clear hm1 hb1 hs0)
              | (go_at_call 12; refine (RD.out _ HR1.out).mono ?_; rintro e w2 ⟨rfl, hr2, hb2⟩; have hs0 := HB1.out.trans (hb2.below HP.out.sr HB1.out.size); have hs : (fun w' => w'.cell? ⟨b1, off1 + j * 4, none⟩ = some (.int .i64 k) ∧ w'.cell? ⟨b1, off1 + j * 4 + 1, none⟩ = some (.int .i64 a) ∧ w'.cell? ⟨b1, off1 + j * 4 + 2, none⟩ = some (.int .u64 (o : Nat)) ∧ w'.cell? ⟨b1, off1 + j * 4 + 3, none⟩ = some (.int .u64 (x : Nat)) ∧ Below w.heap.size w w') _ := ⟨q0.out _ hs0, q1.out _ hs0, q2.out _ hs0, q3.out _ hs0, hs0⟩; have HQ2 := Lib.hid (show PM w g gw gr a0_0 a0_1 a0_2 a0_3 a0_4 vs w2 from ⟨HM1.out.but hb2 HP.out.n1 HP.out.n2, hr2, hs0, HP.out.sw, HP.out.sr, HP.out.n1, HP.out.n2⟩); clear hr2 hb2 hs0))
            all_goals (
              clear hs
              go_wp2
              go_roundg (len1 - (j + 1))
              case rel => exact ⟨j + 1, vs, by omega, rfl, by go_num, HU.out, HQ2.out⟩
              case measure => omega)
          · obtain rfl : j = len1 := by omega
            have HP := Lib.hid hp
            have WS2 := Lib.hid (WS.out g gw us hul _ hp.m)
            have RW := Lib.hid (fun A A' c c' b o b' o' W' h1 h2 => rwords_n us n hul (by omega) A A' c c' b o b' o' W' h1 h2)
            have HU := Lib.hid hul
            clear hp hul
            go_wp2_with (first
              | (go_at_call 14; refine WS2.out.mono ?_; rintro e v1 ⟨b, c, rfl, hsr, hbb, hn⟩; have HP1 := Lib.hid (HP.out.next hn); have HSR := Lib.hid hsr; clear hsr hbb hn)
              | (go_at_call 13; refine (RW.out _ _ _ _ _ _ _ _ _ HSR.out (SR.words HP1.out.r HU.out (by omega))).mono ?_; rintro e v2 ⟨rfl, hn⟩; have HP2 := Lib.hid (HP1.out.next hn); clear hn)
              | (go_at_call 8; refine (AW.out _ (HG.out.next HP2.out.bl)).mono ?_; rintro e v3 ⟨rfl, hn⟩; have HP3 := Lib.hid (HP2.out.next hn); clear hn))
            go_ret
            exact ⟨rfl, HP3.out.bl⟩
      · have SZ0 := fun W' => rsize_yes a0_0 a0_1 a0_2 a0_3 a0_4 hok W'
        rw [hn] at SZ0
        have SZ := Lib.hid SZ0
        have hn5 : (5000 : Int) < (n : Int) := by omega
        have K0 := Lib.hid (CB.start w a0_0 a0_1 a0_2 a0_3 a0_4)
        clear hok hn SZ0
        go_enter Tryd.func3, Tryd.ntmps3
        go_wp2_with (first
          | (go_at_call 7; refine (SZ.out _).mono ?_; rintro e u1 ⟨rfl, hn⟩; have K1 := Lib.hid (CB.next K0.out hn); clear hn)
          | (go_at_call 8; refine (AW.out _ (HG.out.next K1.out.bl)).mono ?_; rintro e v3 ⟨rfl, hn⟩; have K2 := Lib.hid (CB.next K1.out hn); clear hn))
        go_ret
        exact ⟨rfl, K2.out.bl⟩
    · have SZ := Lib.hid (fun W' => rsize_no a0_0 a0_1 a0_2 a0_3 a0_4 hok W')
      have MN := Lib.hid (fun W' h => mnew_no a0_0 a0_1 a0_2 a0_3 a0_4 hok W' h)
      have RN := Lib.hid (fun W' => rnew_no a0_0 a0_1 a0_2 a0_3 a0_4 hok W')
      have RD := Lib.hid (fun g k a o x W' h => rdo_n g 0 [] rfl k a o x (by omega) W' h)
      have K0 := Lib.hid (CB.start w a0_0 a0_1 a0_2 a0_3 a0_4)
      clear hok
      have t1 : True := trivial
      have t2 : True := trivial
      go_enter Tryd.func3, Tryd.ntmps3
      go_wp2_with (first
        | (go_at_call 7; have _t := t1; refine (SZ.out _).mono ?_; rintro e u1 ⟨rfl, hn⟩; clear t1; have K1 := Lib.hid (CB.next K0.out hn); clear hn; have c0' := K1.out.c0; have c1' := K1.out.c1; have c2' := K1.out.c2; have c3' := K1.out.c3; have c4' := K1.out.c4)
        | (go_at_call 9; refine (MN.out _ (HG.out.next K1.out.bl)).mono ?_; rintro e u2 ⟨rfl, hb⟩; have K2 := Lib.hid (CB.next K1.out hb); clear hb; clear c0' c1' c2' c3' c4'; have c0' := K2.out.c0; have c1' := K2.out.c1; have c2' := K2.out.c2; have c3' := K2.out.c3; have c4' := K2.out.c4)
        | (go_at_call 7; have _t := t2; refine (SZ.out _).mono ?_; rintro e u3 ⟨rfl, hn⟩; clear t2; have K3 := Lib.hid (CB.next K2.out hn); clear hn; clear c0' c1' c2' c3' c4'; have c0' := K3.out.c0; have c1' := K3.out.c1; have c2' := K3.out.c2; have c3' := K3.out.c3; have c4' := K3.out.c4)
        | (go_at_call 10; refine (RN.out _).mono ?_; rintro e u4 ⟨gr, rfl, hg1, hw, hb⟩; have HW := Lib.hid hw; have HB := Lib.hid (CB.next K3.out hb).bl; have HS := Lib.hid (Nat.le_trans K3.out.bl.size hg1); clear hg1 hw hb c0' c1' c2' c3' c4'))
      clear K0 K1 K2 K3 SZ MN RN
      go_loopg [7] len1 (fun gk i wr => ∃ (j : Nat), j ≤ len1 ∧ gk = len1 - j ∧ i = .int .i64 j ∧ WB gr [] wr ∧ Below w.heap.size w wr)
      case atStart => exact ⟨0, by omega, by omega, rfl, HW.out, HB.out⟩
      case round =>
        clear HW HB
        obtain ⟨j, hj, hgk, rfl, hw, hb⟩ := hrel
        by_cases hlt : j < len1
        · have hjl : j < qs.length := by rw [HQ.out]; exact hlt
          obtain rfl := H1.out.a (by omega)
          have hji : (j : Int) < (len1 : Int) := by omega
          have hj0 : (0 : Int) ≤ (j : Int) := by omega
          have hmx : len1 ≤ maxLen := by unfold maxLen; omega
          have q0 := Lib.hid (fun W' (h : Below w.heap.size w W') => (H1.out.next h).c0 j hjl)
          have q1 := Lib.hid (fun W' (h : Below w.heap.size w W') => (H1.out.next h).c1 j hjl)
          have q2 := Lib.hid (fun W' (h : Below w.heap.size w W') => (H1.out.next h).c2 j hjl)
          have q3 := Lib.hid (fun W' (h : Below w.heap.size w W') => (H1.out.next h).c3 j hjl)
          generalize qs.getD j (0, 0, 0, 0) = r at q0 q1 q2 q3
          obtain ⟨k, a, o, x⟩ := r
          simp only at q0 q1 q2 q3
          have HB := Lib.hid hb.drew
          have HW := Lib.hid (hw.next (Below.refl _ _).drew)
          have DO := Lib.hid (fun W' => mdo_nil k a o x W')
          have RD2 := Lib.hid (fun W' h => RD.out gr k a o x W' h)
          have hd : doF [] k a o x = (0, []) := by
            unfold doF; rw [if_neg (by simp <;> omega)]
          rw [hd] at RD2
          have hs0 := HB.out
          have hs : (fun w' => w'.cell? ⟨b1, off1 + j * 4, none⟩ = some (.int .i64 k) ∧ w'.cell? ⟨b1, off1 + j * 4 + 1, none⟩ = some (.int .i64 a) ∧ w'.cell? ⟨b1, off1 + j * 4 + 2, none⟩ = some (.int .u64 (o : Nat)) ∧ w'.cell? ⟨b1, off1 + j * 4 + 3, none⟩ = some (.int .u64 (x : Nat)) ∧ Below w.heap.size w w') _ := ⟨q0.out _ hs0, q1.out _ hs0, q2.out _ hs0, q3.out _ hs0, hs0⟩
          clear hw hb hjl hs0 hd
          go_wp2
          go_region_held3 (fun w' => w'.cell? ⟨b1, off1 + j * 4, none⟩ = some (.int .i64 k) ∧ w'.cell? ⟨b1, off1 + j * 4 + 1, none⟩ = some (.int .i64 a) ∧ w'.cell? ⟨b1, off1 + j * 4 + 2, none⟩ = some (.int .u64 (o : Nat)) ∧ w'.cell? ⟨b1, off1 + j * 4 + 3, none⟩ = some (.int .u64 (x : Nat)) ∧ Below w.heap.size w w') (first | with_reducible exact hs | exact hs)
            (first
            | (go_at_call 11; refine (DO.out _).mono ?_; rintro e w1 ⟨rfl, hb1⟩; have hs0 := HB.out.trans (hb1.mono HB.out.size); have hs : (fun w' => w'.cell? ⟨b1, off1 + j * 4, none⟩ = some (.int .i64 k) ∧ w'.cell? ⟨b1, off1 + j * 4 + 1, none⟩ = some (.int .i64 a) ∧ w'.cell? ⟨b1, off1 + j * 4 + 2, none⟩ = some (.int .u64 (o : Nat)) ∧ w'.cell? ⟨b1, off1 + j * 4 + 3, none⟩ = some (.int .u64 (x : Nat)) ∧ Below w.heap.size w w') _ := ⟨q0.out _ hs0, q1.out _ hs0, q2.out _ hs0, q3.out _ hs0, hs0⟩; have HW1 := Lib.hid (HW.out.next hb1); have HB1 := Lib.hid hs0; clear hb1 hs0)
            | (go_at_call 12; refine (RD2.out _ HW1.out).mono ?_; rintro e w2 ⟨rfl, hr2, hb2⟩; have hs0 := HB1.out.trans (hb2.below HS.out HB1.out.size); have hs : (fun w' => w'.cell? ⟨b1, off1 + j * 4, none⟩ = some (.int .i64 k) ∧ w'.cell? ⟨b1, off1 + j * 4 + 1, none⟩ = some (.int .i64 a) ∧ w'.cell? ⟨b1, off1 + j * 4 + 2, none⟩ = some (.int .u64 (o : Nat)) ∧ w'.cell? ⟨b1, off1 + j * 4 + 3, none⟩ = some (.int .u64 (x : Nat)) ∧ Below w.heap.size w w') _ := ⟨q0.out _ hs0, q1.out _ hs0, q2.out _ hs0, q3.out _ hs0, hs0⟩; have HW2 := Lib.hid hr2; have HB2 := Lib.hid hs0; clear hr2 hb2 hs0))
          all_goals (
            clear hs
            go_wp2
            go_roundg (len1 - (j + 1))
            case rel => exact ⟨j + 1, by omega, rfl, by go_num, HW2.out, HB2.out⟩
            case measure => omega)
        · obtain rfl : j = len1 := by omega
          have HB := Lib.hid hb
          have HW := Lib.hid hw
          have WN := Lib.hid (fun W' => mwords_nil 0 0 W')
          have RW := Lib.hid (fun A A' c c' b o b' o' W' h1 h2 => rwords_n [] 0 rfl (by omega) A A' c c' b o b' o' W' h1 h2)
          clear hb hw
          go_wp2_with (first
            | (go_at_call 14; refine (WN.out _).mono ?_; rintro e v1 ⟨rfl, rfl⟩)
            | (go_at_call 13; (refine (RW.out none (some ⟨gr, 0, none⟩) 0 0 0 0 gr 0 _ (SR.nil _ 0 0) (SR.words HW.out rfl (by omega))).mono ?_; rintro e v2 ⟨rfl, hn⟩; have HB2 := Lib.hid (HB.out.trans (hn.mono HB.out.size)); clear hn))
            | (go_at_call 8; refine (AW.out _ (HG.out.next HB2.out)).mono ?_; rintro e v3 ⟨rfl, hn⟩; have HB3 := Lib.hid (HB2.out.trans (hn.mono HB2.out.size)); clear hn))
          go_ret
          exact ⟨rfl, HB3.out⟩
  · have K0 := Lib.hid (CB.start w a0_0 a0_1 a0_2 a0_3 a0_4)
    go_enter Tryd.func3, Tryd.ntmps3
    go_wp2_with (first
      | (go_at_call 8; refine (AW.out _ (HG.out.next K0.out.bl)).mono ?_; rintro e v3 ⟨rfl, hn⟩; have K2 := Lib.hid (CB.next K0.out hn); clear hn))
    go_ret
    exact ⟨rfl, K2.out.bl⟩

set_option maxRecDepth 100000 in
theorem lifted (os : Os) (started : os.Started) (H : Type) (enc : TypeId × Value → H) :
    ReturnsInHanded {} Tryd.checked os 3 .any (fun w args => (Rows.memoryPlaysSpec.pre enc Tryd.prog Tryd.f3 [] false w args ∧ laidMetH Tryd.prog laidVars w) ∧ sizedMet enc Tryd.prog Tryd.f3 (OpenSpec.ofChange Rows.memoryPlaysSpec) false w args)
      (Rows.memoryPlaysSpec.post enc Tryd.prog Tryd.f3 false true false false) := by
  refine returnsInHanded_of_change_and (C := Tryd.checked) (X := fun w _ => laidMetH Tryd.prog laidVars w) (fun _ _ _ hh h => h.of_heap hh) own started (by kernel_rfl) Tryd.func3
    (ChangeSpec.witness_shaped (enc := enc) (C := Tryd.checked) (os := os) (X := fun w _ => laidMetH Tryd.prog laidVars w) false (World.doorLaid Tryd.prog 400 os) #[.agg #[.int .i64 0, .int .i64 0, .int .i64 0, .int .i64 0, .int .i64 0], .slice none 0 0] 8 rfl (World.shaped_of_RefB (by kernel_rfl) (by kernel_rfl)) (by kernel_rfl) (by kernel_rfl) (by kernel_rfl) (door_met os _)) ?_
  intro W base args ds gs before hval0 hW _ _ hL _
  have hval : ∀ (j : Nat) t v, Tryd.f3.params[j]? = some t → args[j]? = some v → Value.okWide Tryd.prog W .any base t v := hval0
  have hW' := hW
  obtain ⟨p, q, hA0, hV, rfl, hfz, hnd⟩ := hW
  have hA : DataW.TrodAll enc Tryd.prog W 0 (fun _ => true) true Tryd.f3.params.toList args.toList ds p := hA0
  rw [Tryd.params3] at hA hval
  obtain ⟨v0, vs0, d0, ds0, p0, q0, hargs, rfl, rfl, h0, r0⟩ := trodAll_cons hA
  obtain ⟨v1, vs1, d1, ds1, p1, q1, rfl, rfl, rfl, h1, r1⟩ := trodAll_cons r0
  obtain ⟨rfl, rfl, rfl⟩ := trodAll_nil r1
  obtain rfl : args = #[v0, v1] := by cases args; simp_all
  obtain ⟨rfl, rfl⟩ := trodVars_none hV
  have k0 := h0
  obtain ⟨ns0, h0l, h0v, h0w⟩ := open_intStruct [.i64, .i64, .i64, .i64, .i64] Tryd.underlying23 (by kernel_rfl) (by kernel_rfl) rfl (hval 0 23 v0 rfl rfl) h0
  obtain ⟨a0_0, a0_1, a0_2, a0_3, a0_4, rfl⟩ := list5 h0l
  obtain rfl : v0 = .agg #[.int .i64 a0_0, .int .i64 a0_1, .int .i64 a0_2, .int .i64 a0_3, .int .i64 a0_4] := h0v
  obtain ⟨A1, len1, cap1, rfl⟩ := okWide_slice Tryd.underlying24 (hval 1 24 v1 rfl rfl)
  have k1 := h1
  obtain ⟨b1, off1, rs1, hl1, hm1, hR1, hb1⟩ := open_rows [.i64, .i64, .u64, .u64] Tryd.underlying24 Tryd.underlying34 (by kernel_rfl) (by kernel_rfl) (by kernel_rfl) (by decide) h1
  clear hA0 hval0
  simp only [List.append_nil] at hW'
  have hlt0 : ∀ x ∈ p0, x.block < W.heap.size := fun x hx => by simpa using hW'.lt x (by simp [hx])
  have hlt1 : ∀ x ∈ p1, x.block < W.heap.size := fun x hx => by simpa using hW'.lt x (by simp [hx])
  refine (walk W (of_laid hL) a0_0 (h0w 0 .i64 _ rfl rfl) a0_1 (h0w 1 .i64 _ rfl rfl) a0_2 (h0w 2 .i64 _ rfl rfl) a0_3 (h0w 3 .i64 _ rfl rfl) a0_4 (h0w 4 .i64 _ rfl rfl) A1 len1 cap1 b1 off1 rs1 hl1 hm1 hR1 hb1).mono fun e W' ⟨he, hg⟩ => ?_
  subst he
  exact ⟨_, rfl, post_of_below2 (pv := []) hW' (fun _ _ _ => (trodAll_cons_mk (shut_bool Tryd.underlying4 _) trodAll_mk0)) (trodAll_cons_mk (Below.trod laidOut (by kernel_rfl) (of_decide_eq_true (by kernel_rfl)) k0 hg hlt0) (trodAll_cons_mk (Below.trod laidOut (by kernel_rfl) (of_decide_eq_true (by kernel_rfl)) k1 hg hlt1) trodAll_mk0)) rfl (by simp) (hg.frame _)⟩

theorem over : Rows.memoryPlaysRow.holds Tryd.pinned (OpenSpec.ofChange Rows.memoryPlaysSpec) :=
  OpenClaim.holds_of_wide 3 Tryd.f3 rfl rfl rfl rfl rfl rfl rfl ⟨rfl, rfl, rfl, rfl, rfl⟩ rfl rfl rfl rfl rfl (by kernel_rfl) Tryd.func3 (by kernel_rfl)
    (of_decide_eq_true (by kernel_rfl)) (by unfold Func.isWrapper; first | (rw [if_pos (by decide +kernel)]; kernel_rfl) | (rw [if_neg (by decide +kernel)]; exact ⟨rfl, rfl⟩))
    (fun os started H enc _ => lifted os started H enc)

theorem row : Rows.MemoryPlaysSaid := over

theorem proved : Rows.MemoryPlaysCardSaid :=
  Claim7.holds_tied_plain_at .later [] [.handle, .data] true (true, "3995999843d9e93109bc0ec46c8edbeffe82842deb00a246e54f8453be661631") true
    row (fun _ h => by cases h) (by kernel_rfl) (fun _ h => by cases h) memoryPlays_row_tie rfl ⟨rfl, rfl⟩ (by kernel_rfl) rfl
    (fun f fn hf hfn => by
      obtain rfl : f = 3 := Option.some.inj ((show Tryd.prog.funcNamed "gleaning/gleaninglaw09.MemoryPlays" = some 3 by kernel_rfl).symm.trans hf) |>.symm
      obtain rfl : fn = Tryd.f3 := (Option.some.inj (Tryd.func3.symm.trans hfn)).symm
      exact ⟨by kernel_rfl, fun j t ht => by
        rw [Tryd.params3] at ht
        have hm : t ∈ [23, 24] := by simpa using Array.mem_of_getElem? ht
        have hall : ([23, 24].all fun u => !Tryd.prog.wantsStandIn u) = true := by kernel_rfl
        exact (show Tryd.prog.wantsStandIn t = false by simpa using List.all_eq_true.1 hall t hm)⟩)
    (by kernel_rfl)

#print axioms proved
end Go.Proofs.YtllkbofjegadeaaDoor.memoryPlays
