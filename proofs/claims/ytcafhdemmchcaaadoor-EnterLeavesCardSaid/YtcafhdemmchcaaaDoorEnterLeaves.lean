/- gleaninglaw17.EnterLeaves: for every input the law returns true, and leaves its arguments as they were. The package-level variables that it reads hold what the program's text lays in them (a tied card); no other condition. -/
import Derived.Test.YtcafhdemmchcaaaDoorRows
import Derived.WalkKit
import Derived.Test.YtcafhdemmchcaaaDoorCards
import Derived.Test.YtcafhdemmchcaaaDoorTie
import Derived.Test.YtcafhdemmchcaaaDoorLaid
import Derived.SevenTiedAt
import Derived.Test.YtcafhdemmchcaaaDoorOpen
import Derived.Deep.QuietTactic
import Derived.BigQuiet
import Derived.Deep.LoopGhost
import Derived.Test.YtcafhdemmchcaaaDoorLeave6
import Derived.Test.YtcafhdemmchcaaaDoorTail
import Derived.Test.YtcafhdemmchcaaaDoorLaid
import Derived.Test.YtcafhdemmchcaaaDoorOpen
import Derived.Test.YtcafhdemmchcaaaDoorFrame
import Derived.ProofKit
import Derived.OpenShut
namespace Go.Proofs.YtcafhdemmchcaaaDoor.enterLeaves
open Go.ChangeShapes Go.WideShapes Go.ChangeAt Go.RowKit
set_option linter.unusedVariables false

theorem own : ownKnob Tryd.prog.godebug = none := by kernel_rfl
theorem laidOut : laidOutB Tryd.prog = true := by kernel_rfl
theorem cells28 : Tryd.prog.cellsOf 28 = 1 := by kernel_rfl
attribute [local go_sem] Oper.semAt_some
open Go.Shelf

set_option maxRecDepth 100000 in
set_option maxHeartbeats 4000000 in
theorem walk (w : World) (hG : GL w) (a0_0 : Int) (w0_0 : (Lit.int .i64 a0_0).wf = true) (a0_1 : Int) (w0_1 : (Lit.int .i64 a0_1).wf = true) (a0_2 : Int) (w0_2 : (Lit.int .i64 a0_2).wf = true) (a0_3 : Int) (w0_3 : (Lit.int .i64 a0_3).wf = true) (a0_4 : Int) (w0_4 : (Lit.int .i64 a0_4).wf = true) (a1 : Int) (w1 : (Lit.int .i64 a1).wf = true) (a2 : Bool) (A3 : Option Addr) (len3 cap3 b3 off3 : Nat) (zs3 : List Int) (hl3 : zs3.length = len3) (hm3 : len3 ≤ cap3 ∧ len3 ≤ maxLen) (hA3 : 0 < len3 → A3 = some ⟨b3, off3, none⟩ ∧ b3 < w.heap.size) (hc3 : ∀ i, i < len3 → w.cell? ⟨b3, off3 + i, none⟩ = some (.int .u64 (zs3.getD i 0))) (hw3 : ∀ n ∈ zs3, (Lit.int .u64 n).wf = true) :
    Calls Tryd.prog 4 #[.agg #[.int .i64 a0_0, .int .i64 a0_1, .int .i64 a0_2, .int .i64 a0_3, .int .i64 a0_4], .int .i64 a1, .bool a2, .slice A3 len3 cap3] w fun e w' => e = .returned (.bool true) ∧ Below w.heap.size w w' := by
  have AW := Lib.hid awake17_any
  have HG := Lib.hid hG
  have b1 := below1 w (.cells #[.int .i64 a0_0, .int .i64 a0_1, .int .i64 a0_2, .int .i64 a0_3, .int .i64 a0_4] 23)
  have b2 := b1.alloc b1.size (.cells #[.bool false] 4)
  by_cases hlen : (len3 : Int) ≤ 20
  · have HC := Lib.hid hc3
    have HA := Lib.hid hA3
    have HZ := Lib.hid (show ∀ j, j < len3 → ∃ n : Nat, zs3.getD j 0 = n ∧ n < 18446744073709551616 from by
      intro j hj
      have hm : zs3.getD j 0 ∈ zs3 := by
        have h : j < zs3.length := by omega
        rw [List.getD_eq_getElem?_getD, List.getElem?_eq_getElem h]; exact List.getElem_mem h
      have hw := hw3 _ hm
      have h1 := u64_lo hw; have h2 := u64_hi hw
      exact ⟨(zs3.getD j 0).toNat, by omega, by omega⟩)
    have hln : len3 ≤ 20 := by omega
    obtain ⟨s, t, f, l, p, N, lst, q, hS, hN, hE, hR⟩ := leave_new a0_0 a0_1 a0_2 a0_3 a0_4 a1 a2
    have hN3 := hS.n
    have HS := Lib.hid hS
    have LN := Lib.hid hN
    have NE := Lib.hid hE
    have R := Lib.hid hR
    have B2 := Lib.hid b2
    have hbc : ((w.alloc (.cells #[.int .i64 a0_0, .int .i64 a0_1, .int .i64 a0_2, .int .i64 a0_3, .int .i64 a0_4] 23)).alloc (.cells #[.bool false] 4)).heap[w.heap.size]? = some (.cells #[.int .i64 a0_0, .int .i64 a0_1, .int .i64 a0_2, .int .i64 a0_3, .int .i64 a0_4] 23) := (Below.heap_alloc _ _ _ (by simp)).trans (World.alloc_heap_new w _)
    have hbr := Boxed.new (w.alloc (.cells #[.int .i64 a0_0, .int .i64 a0_1, .int .i64 a0_2, .int .i64 a0_3, .int .i64 a0_4] 23)) 4 (.bool false)
    rw [World.size_alloc] at hbr
    have HBC := Lib.hid hbc
    have HBR := Lib.hid hbr
    obtain ⟨i0, hi, hz0, hz1, hz2⟩ := info_parts infoA
    have HI := Lib.hid (And.intro hi (And.intro hz0 (And.intro hz1 hz2)))
    clear hS hN hE hR b1 b2 hG hc3 hA3 hw3 w0_0 w0_1 w0_2 w0_3 w0_4 w1 hbc hbr hi hz0 hz1 hz2
    refine (callsIn_wide (n := 5)).1 ?_
    refine callsIn_of_wp_marks Tryd.func4 rfl trivial ?_ rfl
    simp only [Tryd.ntmps4, List.size_toArray, List.length_cons, List.length_nil, Nat.reduceAdd, Nat.reduceSub, Array.replicate_succ, Array.replicate_zero, List.push_toArray, List.append_toArray, List.nil_append, List.cons_append]
    gi_wp2_with (first
      | (refine ⟨trivial, ?_⟩; gi_at_call 15; go_loud (refine (callsIn_wide.2 (R.out _)).mono ?_; rintro e w1 ⟨vw, rfl, how, hn⟩; obtain ⟨Aw, cw, rfl⟩ := own_slA how; have HOW := Lib.hid (Go.Joins.ownsRow_le how B2.out.size); have B3 := Lib.hid (B2.out.trans (hn.mono B2.out.size)); have HBC1 := Lib.hid (below_blk hn HBC.out); have HBR1 := Lib.hid (boxed_blw HBR.out hn); clear hn how; have HBC2 := Lib.hid ((Below.heap_alloc w1 (.cells #[.slice none 0 0] 45) _ (Array.getElem?_eq_some_iff.1 HBC1.out).1).trans HBC1.out); have cc := fun i => Go.Joins.cell_of_block HBC2.out i; have c0 := (cc 0).trans rfl; have c1 := (cc 1).trans rfl; have c2 := (cc 2).trans rfl; have c3 := (cc 3).trans rfl; have c4 := (cc 4).trans rfl; clear cc))
      | (refine ⟨trivial, ?_⟩; gi_at_call 8; refine (callsIn_wide.2 (LN.out _ (HG.out.next (B3.out.alloc B3.out.size _)))).mono ?_; rintro e w2 ⟨rfl, hn⟩; have H2 := Lib.hid hn; clear hn c0 c1 c2 c3 c4)
      | (refine ⟨trivial, ?_⟩; gi_at_call 16; refine (callsIn_wide.2 (leaves_any s t f l p a1 a2 _)).mono ?_; rintro e w3 ⟨Bl, Bt, Bs, rfl, hL, hBt, hBs, hn⟩; have H3 := Lib.hid hn; have HL := Lib.hid (And.intro hL (And.intro hBt hBs)); clear hn hL hBt hBs; have hfn := itL_nil Bl Bt Bs))
    have hal : Below w1.heap.size w1 w3 := ((((Below.refl w1.heap.size w1).alloc (Nat.le_refl _) (.cells #[.slice none 0 0] 45)).trans (H2.out.mono (by simp))).trans (H3.out.mono (by have := H2.out.size; simp at this; omega)))
    have hbx : Boxed w3 w1.heap.size 45 (.slice none 0 0) := boxed_blw (boxed_blw (Boxed.new w1 45 (.slice none 0 0)) H2.out) H3.out
    refine wpIn_rangeFunc_ownH rfl (by omega) (gf := 34) (lb := #[.pointer (some ⟨Bl, 0, none⟩), .pointer (some ⟨Bt, 0, none⟩), .pointer (some ⟨Bs, 0, none⟩)]) rfl trivial (enters_of Tryd.func34 (by kernel_rfl) rfl)
      (leaves_stops 4 (by omega) Bl Bt Bs s t f l p a1 a2 N lst q HS.out NE.out w3 HL.out.1 HL.out.2.1 HL.out.2.2) kpL_t (kpL_b _) (Below.refl _ _) (fun _ => rfl)
      (IA w1) (fun _ _ _ => False) (ia_own w1 _ hal.size) (fun _ _ _ _ _ hs _ _ => hs)
      ⟨⟨_, hbx, World.ownsRow_nil _ _ _ _, trivial⟩, hal⟩
      (AxF ?af) (fun x a' => axF_own _ _ x a')
      ?assign ?body ?done ?stop
    case assign =>
      intro l pre x W K hI hK
      have hnb := World.alloc_heap_new W (.cells #[.int .i64 2, .int .i64 x, .int .u64 0, .int .u64 0] 39)
      have hI2 := hI.2.alloc hI.2.size (.cells #[.int .i64 2, .int .i64 x, .int .u64 0, .int .u64 0] 39)
      gi_wp2
      generalize hgb : W.heap.size = gb at hnb ⊢
      obtain ⟨v, hv, hr, _⟩ := hI.1
      have hk3 := hK _ _ ((KeepsOthers.alloc W (.cells #[.int .i64 2, .int .i64 x, .int .u64 0, .int .u64 0] 39)).from _) (kpL_alloc _ _) ⟨⟨v, hv.alloc _, hr.alloc _, trivial⟩, hI2⟩ ⟨gb, hnb, rfl⟩
      exact hk3
    case body =>
      rintro yl pre x a' W hl _ ⟨⟨v, hv, hrow, _⟩, hB⟩ ⟨Bx, hbx, rfl⟩ hlt
      have hc := hv.cell
      have cc := fun i => Go.Joins.cell_of_block hbx i
      have x0 := (cc 0).trans rfl
      have x1 := (cc 1).trans rfl
      have x2 := (cc 2).trans rfl
      have x3 := (cc 3).trans rfl
      clear cc
      gi_wp2_with (gi_at_builtin; go_loud (refine wpListIn_append_own _ rfl _ _ 45 rfl w1.heap.size 39 i0 (.agg #[.int .i64 0, .int .i64 0, .int .u64 0, .int .u64 0]) 4 32 sliceA HI.out.1 HI.out.2.1 HI.out.2.2.1 HI.out.2.2.2 rfl (by decide) _ _ _ rfl (hrow.alloc _) ⟨W.heap.size, 0, none⟩ 1 1 (askC x) rfl rfl (World.news_of_block (heap_alloc_new W _)) (by simp [Value.oneCell']) (by unfold maxLen; omega) (by omega) (by have := hB.size; simp; omega) ?_; intro v' w5 hown' hgrow _; obtain ⟨g', cap', rfl⟩ := ownsRow_succ hown'; obtain ⟨hv1, hkp, hko, hia⟩ := el_add hv hrow hB hown' hgrow; have hc1 := hv1.cell; have hf1 := hv1.frozen))
      all_goals first
        | exact ⟨hko.from _, hkp, hia⟩
        | (exfalso; omega)
    case done =>
      rintro D ys W hD rfl hI hK
      obtain ⟨⟨v, hv, hrow, _⟩, hB⟩ := hI
      rw [qs_length] at hrow
      obtain ⟨A5, c5n, rfl⟩ := own_slA hrow
      have hc5 := hv.cell
      have HK := Lib.hid hK
      have HR5 := Lib.hid hrow
      have HV := Lib.hid hv
      have BW := Lib.hid (B3.out.trans (hB.mono B3.out.size))
      have HOW2 := Lib.hid (own_below4 (B := 0) HOW.out hB)
      have HBC3 := Lib.hid (below_blk hB HBC1.out)
      have HBR3 := Lib.hid (boxed_blw HBR1.out hB)
      have HDD := Lib.hid (Nat.le_trans hal.size hD)
      have cc := fun i => Go.Joins.cell_of_block HBC3.out i
      have c0 := (cc 0).trans rfl
      have c1 := (cc 1).trans rfl
      have c2 := (cc 2).trans rfl
      have c3 := (cc 3).trans rfl
      have c4 := (cc 4).trans rfl
      clear cc hK hrow hv hB hD hal hbx H2 H3 HL
      gi_wp2_with (first
        | (refine ⟨trivial, ?_⟩; gi_at_call 8; refine (callsIn_wide.2 (LN.out _ (HG.out.next BW.out))).mono ?_; rintro e w5 ⟨rfl, hn⟩; have H5 := Lib.hid hn; clear hn c0 c1 c2 c3 c4)
        | (refine ⟨trivial, ?_⟩; gi_at_call 17; refine (callsIn_wide.2 (NE.out _)).mono ?_; rintro e w6 ⟨rfl, hn⟩; have H6 := Lib.hid (H5.out.trans (hn.mono H5.out.size)); clear hn))
      refine wpIn_wide.2 ?_
      have HX0 := Lib.hid (World.alloc_heap_new w6 (lvRow (lst 0)))
      have HX1 := Lib.hid ((Below.refl w6.heap.size w6).alloc (Nat.le_refl _) (lvRow (lst 0)))
      go_loopg [14] N (fun kk i wr => ∃ k : Nat, kk = N - k ∧ k ≤ N ∧ i = .int .i64 (k : Nat) ∧ wr.heap[w6.heap.size]? = some (lvRow (lst k)) ∧ Below w6.heap.size w6 wr)
      case atStart => exact ⟨0, by omega, by omega, rfl, HX0.out, HX1.out⟩
      case round =>
        obtain ⟨k, rfl, hk, rfl, hb, hbl⟩ := hrel
        by_cases hlt : k < N
        · obtain ⟨g5, c5', e5, _, hg5, hq5⟩ := rowA_cells HR5.out (by omega)
          obtain ⟨gw, cw', ew, _, hgw, hqw⟩ := rowA_cells HOW2.out (by omega)
          simp only [Value.slice.injEq, true_and] at e5 ew
          obtain ⟨rfl, rfl⟩ := e5
          obtain ⟨rfl, rfl⟩ := ew
          have c6 := fun (a : Addr) (u : Value) (hu : W.cell? a = some u) => (hbl.cell (p := a) (Nat.lt_of_lt_of_le (World.block_lt_of_cell? W a hu) H6.out.size)).trans ((H6.out.cell (p := a) (World.block_lt_of_cell? W a hu)).trans hu)
          have hkg : KG w6 w6.heap.size (lst k) w1.heap.size (.slice (some ⟨g5, 0, none⟩) N c5n) g5 gw (k * 4) (q k) wr := ⟨hb, hbl, c6 _ _ HV.out.cell, c6 _ _ (hq5 k hlt).1, c6 _ _ (hq5 k hlt).2.1, c6 _ _ (hq5 k hlt).2.2.1, c6 _ _ (hq5 k hlt).2.2.2, c6 _ _ (hqw k hlt).1, c6 _ _ (hqw k hlt).2.1, c6 _ _ (hqw k hlt).2.2.1, c6 _ _ (hqw k hlt).2.2.2⟩
          have HKG := Lib.hid hkg.drew
          have D := Lib.hid (HS.out.d0 k hlt)
          have Q := Lib.hid (HS.out.w0 k hlt)
          clear hkg c6 hq5 hqw hb hbl hc5
          by_cases hl3 : k < len3
          · obtain ⟨rfl, hbl3⟩ := HA.out (by omega)
            obtain ⟨n, hz, hn⟩ := HZ.out k hl3
            have hxl : wr.cell? ⟨b3, off3 + k, none⟩ = some (.int .u64 n) := by
              have h1 : w.cell? ⟨b3, off3 + k, none⟩ = some (.int .u64 n) := by rw [← hz]; exact HC.out k hl3
              exact ((BW.out.trans ((H6.out.trans (HKG.out.bl.mono H6.out.size)).mono BW.out.size)).cell (p := ⟨b3, off3 + k, none⟩) hbl3).trans h1
            have T := Lib.hid (HS.out.t0 k hlt n)
            clear hz hn
            generalize hx1 : lst (k + 1) = x1 at T
            generalize hx0 : lst k = x0 at D Q T HKG
            generalize q k = y at Q HKG
            have HX1' := Lib.hid hx1
            clear hx1 hx0
            go_wp2
            refine wp_region_class (C := KG w6 w6.heap.size x0 w1.heap.size (.slice (some ⟨g5, 0, none⟩) N c5n) g5 gw (k * 4) y) (by kernel_rfl) (by kernel_rfl) (HKG.out) ?_
            repeat (first
              | go_big_quiet_skip
              | (go_big_quiet_want; go_big_quiet_op; go_big_quiet_on)
              | (go_big_quiet_want; go_big_quiet_op; refine ⟨_, fun _ _ => rfl, ?_⟩; go_big_quiet_on)
              | (go_big_quiet_want
                 apply quiet_mk
                 · intro u hu
                   have c0 := hu.c0; have c1 := hu.c1; have c2 := hu.c2; have c3 := hu.c3; have c4 := hu.c4; have c5 := hu.c5; have c6 := hu.c6; have c7 := hu.c7; have c8 := hu.c8; have b0 := hu.b0; have p0 := hu.p0; have p1 := hu.p1; have p2 := hu.p2; have p3 := hu.p3; have r0 := hu.r0; have r1 := hu.r1; have r2 := hu.r2; have r3 := hu.r3
                   have HU := Lib.hid hu
                   clear hu
                   go_simp
                   first
                     | with_reducible rfl
                     | (go_at_call 18; refine (D.out _).mono ?_; rintro e w' ⟨rfl, hn⟩; exact ⟨rfl, HU.out.next hn⟩) | (go_at_call 19; refine (Q.out _).mono ?_; rintro e w' ⟨rfl, hn⟩; exact ⟨rfl, HU.out.next hn⟩)
                 simp only [Act.put, List.setIfInBounds_toArray, List.set_cons_zero, List.set_cons_succ]
                 go_big_quiet_on))
            refine wpQuiet_nil ?_
            intro u hu
            have HU2 := Lib.hid hu
            clear hu HKG
            have c0 := HU2.out.c0
            have c1 := HU2.out.c1
            have c2 := HU2.out.c2
            have c3 := HU2.out.c3
            have c4 := HU2.out.c4
            have c5 := HU2.out.c5
            have c6 := HU2.out.c6
            have c7 := HU2.out.c7
            have c8 := HU2.out.c8
            go_wp2_with (go_at_call 20; refine (T.out _).mono ?_; rintro e w9 ⟨rfl, hn⟩; have HK9 := Lib.hid (HU2.out.next hn); clear hn c0 c1 c2 c3 c4 c5 c6 c7 c8; have c0 := HK9.out.c0; have c1 := HK9.out.c1; have c2 := HK9.out.c2; have c3 := HK9.out.c3; have c4 := HK9.out.c4; have c5 := HK9.out.c5; have c6 := HK9.out.c6; have c7 := HK9.out.c7; have c8 := HK9.out.c8; have fz := HK9.out.fz)
            go_roundg (N - (k + 1))
            case rel => exact ⟨k + 1, rfl, by omega, by go_num, by rw [HX1'.out]; exact putL_block HK9.out.hb x1, belowL HK9.out.bl (Nat.le_refl _) x1⟩
            case measure => omega
          · have T := Lib.hid (HS.out.t0 k hlt k)
            generalize hx1 : lst (k + 1) = x1 at T
            generalize hx0 : lst k = x0 at D Q T HKG
            generalize q k = y at Q HKG
            have HX1' := Lib.hid hx1
            clear hx1 hx0
            go_wp2
            refine wp_region_class (C := KG w6 w6.heap.size x0 w1.heap.size (.slice (some ⟨g5, 0, none⟩) N c5n) g5 gw (k * 4) y) (by kernel_rfl) (by kernel_rfl) (HKG.out) ?_
            repeat (first
              | go_big_quiet_skip
              | (go_big_quiet_want; go_big_quiet_op; go_big_quiet_on)
              | (go_big_quiet_want; go_big_quiet_op; refine ⟨_, fun _ _ => rfl, ?_⟩; go_big_quiet_on)
              | (go_big_quiet_want
                 apply quiet_mk
                 · intro u hu
                   have c0 := hu.c0; have c1 := hu.c1; have c2 := hu.c2; have c3 := hu.c3; have c4 := hu.c4; have c5 := hu.c5; have c6 := hu.c6; have c7 := hu.c7; have c8 := hu.c8; have b0 := hu.b0; have p0 := hu.p0; have p1 := hu.p1; have p2 := hu.p2; have p3 := hu.p3; have r0 := hu.r0; have r1 := hu.r1; have r2 := hu.r2; have r3 := hu.r3
                   have HU := Lib.hid hu
                   clear hu
                   go_simp
                   first
                     | with_reducible rfl
                     | (go_at_call 18; refine (D.out _).mono ?_; rintro e w' ⟨rfl, hn⟩; exact ⟨rfl, HU.out.next hn⟩) | (go_at_call 19; refine (Q.out _).mono ?_; rintro e w' ⟨rfl, hn⟩; exact ⟨rfl, HU.out.next hn⟩)
                 simp only [Act.put, List.setIfInBounds_toArray, List.set_cons_zero, List.set_cons_succ]
                 go_big_quiet_on))
            refine wpQuiet_nil ?_
            intro u hu
            have HU2 := Lib.hid hu
            clear hu HKG
            have c0 := HU2.out.c0
            have c1 := HU2.out.c1
            have c2 := HU2.out.c2
            have c3 := HU2.out.c3
            have c4 := HU2.out.c4
            have c5 := HU2.out.c5
            have c6 := HU2.out.c6
            have c7 := HU2.out.c7
            have c8 := HU2.out.c8
            go_wp2_with (go_at_call 20; refine (T.out _).mono ?_; rintro e w9 ⟨rfl, hn⟩; have HK9 := Lib.hid (HU2.out.next hn); clear hn c0 c1 c2 c3 c4 c5 c6 c7 c8; have c0 := HK9.out.c0; have c1 := HK9.out.c1; have c2 := HK9.out.c2; have c3 := HK9.out.c3; have c4 := HK9.out.c4; have c5 := HK9.out.c5; have c6 := HK9.out.c6; have c7 := HK9.out.c7; have c8 := HK9.out.c8; have fz := HK9.out.fz)
            go_roundg (N - (k + 1))
            case rel => exact ⟨k + 1, rfl, by omega, by go_num, by rw [HX1'.out]; exact putL_block HK9.out.hb x1, belowL HK9.out.bl (Nat.le_refl _) x1⟩
            case measure => omega
        · obtain rfl : k = N := by omega
          have DN := Lib.hid HS.out.d1
          have Q := Lib.hid HS.out.w1
          have T := Lib.hid (show ∀ W : World, Calls Tryd.prog 20 #[lvV (lst k), .int .u64 7] W fun e w' => e = .returned (lvV (lst k)) ∧ Below W.heap.size W w' from fun W => HS.out.t1 7 W)
          have HKX := Lib.hid (KX.drew (show KX w6 w6.heap.size (lst k) wr from ⟨hb, hbl⟩))
          have BW6 := Lib.hid (BW.out.trans (H6.out.mono BW.out.size))
          generalize hx0 : lst k = x0 at DN Q T HKX
          clear hx0 hb hbl hc5
          go_wp2
          refine wpIn_wide.2 ?_
          go_wp2
          refine wp_region_class_tail (C := KX w6 w6.heap.size x0) 17 (by kernel_rfl) (by kernel_rfl) (HKX.out) ?_
          simp only [List.take_succ_cons, List.take_zero, List.drop_succ_cons, List.drop_zero]
          repeat (first
            | go_big_quiet_skip
            | (go_big_quiet_want; go_big_quiet_op; go_big_quiet_on)
            | (go_big_quiet_want; go_big_quiet_op; refine ⟨_, fun _ _ => rfl, ?_⟩; go_big_quiet_on)
            | (go_big_quiet_want
               apply quiet_mk
               · intro u hu
                 have c0 := hu.c0; have c1 := hu.c1; have c2 := hu.c2; have c3 := hu.c3; have c4 := hu.c4; have c5 := hu.c5; have c6 := hu.c6; have c7 := hu.c7; have c8 := hu.c8
                 have HU := Lib.hid hu
                 clear hu
                 go_simp
                 first
                   | with_reducible rfl
                   | (go_at_call 18; refine (DN.out _).mono ?_; rintro e w' ⟨rfl, hn⟩; exact ⟨rfl, HU.out.next hn⟩) | (go_at_call 19; refine (Q.out _).mono ?_; rintro e w' ⟨rfl, hn⟩; exact ⟨rfl, HU.out.next hn⟩) | (go_at_call 20; refine (T.out _).mono ?_; rintro e w' ⟨rfl, hn⟩; exact ⟨rfl, HU.out.next hn⟩) | (go_at_call 6; refine (AW.out _ (HG.out.next (BW6.out.trans (HU.out.bl.mono BW6.out.size)))).mono ?_; rintro e w' ⟨rfl, hn⟩; exact ⟨rfl, HU.out.next hn⟩)
               simp only [Act.put, List.setIfInBounds_toArray, List.set_cons_zero, List.set_cons_succ]
               go_big_quiet_on))
          refine wpQuiet_nil ?_
          intro u hu
          have HU2 := Lib.hid hu
          clear hu HKX
          have y4 := boxed_blw (boxed_blw HBR3.out H6.out) HU2.out.bl
          have e1 := y4.cell
          have e2 := y4.frozen
          have hz8 := HBR1.out.lt
          have hz9 := HDD.out
          have HZ8 := Lib.hid (show D ≠ w.heap.size + 1 from by omega)
          have HZ7 := Lib.hid (show w.heap.size ≤ D from by omega)
          clear y4 hz8 hz9
          go_wp2
          have hKD : (u.setCell ⟨w.heap.size + 1, 0, none⟩ (.bool true)).heap[D]? = some (.deferred (some [])) := (Below.heap_setCell _ _ _ _ HZ8.out).trans ((HU2.out.bl.block D (Nat.lt_of_lt_of_le (Array.getElem?_eq_some_iff.1 HK.out).1 H6.out.size)).trans ((H6.out.block D (Array.getElem?_eq_some_iff.1 HK.out).1).trans HK.out))
          have cT : (u.setCell ⟨w.heap.size + 1, 0, none⟩ (.bool true)).cell? ⟨w.heap.size + 1, 0, none⟩ = some (.bool true) := World.cell?_setCell_same' _ _ _ (by rw [e1]; rfl)
          have cT2 : ((u.setCell ⟨w.heap.size + 1, 0, none⟩ (.bool true)).putObj D (.deferred none)).cell? ⟨w.heap.size + 1, 0, none⟩ = some (.bool true) := (World.cell?_of_block (a := ⟨w.heap.size + 1, 0, none⟩) (World.putObj_heap_other (by have := HZ8.out; first | (show w.heap.size + 1 ≠ D; omega) | (show D ≠ w.heap.size + 1; omega)))).trans cT
          have bT := ((BW6.out.trans (HU2.out.bl.mono BW6.out.size)).setCell (p := ⟨w.heap.size + 1, 0, none⟩) (by show w.heap.size ≤ w.heap.size + 1; omega) (.bool true))
          refine ⟨by simp, .inl ⟨_, _, rfl, run_takeDeferred hKD, ?_⟩⟩
          exact ⟨.bool true, by simp [results, Tryd.results4, go_sem, cT2], rfl, bT.trans (belowK_b (w := w) (Nat.le_refl _) _ D _ _ HZ7.out hKD rfl rfl)⟩
    case stop =>
      rintro D c pre W _ _ h _
      exact h.elim
  · have h20 : 20 < (len3 : Int) := by omega
    have B2 := Lib.hid b2
    clear hlen hc3 hA3 hG b1 b2
    go_enter Tryd.func4, Tryd.ntmps4
    go_wp2_with (go_at_call 6; refine (AW.out _ (HG.out.next B2.out)).mono ?_; rintro e w1 ⟨rfl, hn⟩; have HN := Lib.hid hn; have e1 := hn.cell (p := ⟨w.heap.size + 1, 0, none⟩) (by simp); have e2 := hn.frozen (p := ⟨w.heap.size + 1, 0, none⟩) (by simp); simp at e1 e2; clear hn)
    exact bodyPost_ret (v := .bool true) (by simp [results, Tryd.results4, go_sem, e1]) rfl ⟨rfl, (B2.out.trans (HN.out.mono B2.out.size)).setCell (by show w.heap.size ≤ w.heap.size + 1; omega) _⟩

set_option maxRecDepth 100000 in
theorem lifted (os : Os) (started : os.Started) (H : Type) (enc : TypeId × Value → H) :
    ReturnsInHanded {} Tryd.checked os 4 .any (fun w args => (Rows.enterLeavesSpec.pre enc Tryd.prog Tryd.f4 [] false w args ∧ laidMetH Tryd.prog laidVars w) ∧ sizedMet enc Tryd.prog Tryd.f4 (OpenSpec.ofChange Rows.enterLeavesSpec) false w args)
      (Rows.enterLeavesSpec.post enc Tryd.prog Tryd.f4 false true false false) := by
  refine returnsInHanded_of_change_and (C := Tryd.checked) (X := fun w _ => laidMetH Tryd.prog laidVars w) (fun _ _ _ hh h => h.of_heap hh) own started (by kernel_rfl) Tryd.func4
    (ChangeSpec.witness_shaped (enc := enc) (C := Tryd.checked) (os := os) (X := fun w _ => laidMetH Tryd.prog laidVars w) false (World.doorLaid Tryd.prog 400 os) #[.agg #[.int .i64 0, .int .i64 0, .int .i64 0, .int .i64 0, .int .i64 0], .int .i64 0, .bool false, .slice none 0 0] 8 rfl (World.shaped_of_RefB (by kernel_rfl) (by kernel_rfl)) (by kernel_rfl) (by kernel_rfl) (by kernel_rfl) (door_met os _)) ?_
  intro W base args ds gs before hval0 hW _ _ hL _
  have hval : ∀ (j : Nat) t v, Tryd.f4.params[j]? = some t → args[j]? = some v → Value.okWide Tryd.prog W .any base t v := hval0
  have hW' := hW
  obtain ⟨p, q, hA0, hV, rfl, hfz, hnd⟩ := hW
  have hA : DataW.TrodAll enc Tryd.prog W 0 (fun _ => true) true Tryd.f4.params.toList args.toList ds p := hA0
  rw [Tryd.params4] at hA hval
  obtain ⟨v0, vs0, d0, ds0, p0, q0, hargs, rfl, rfl, h0, r0⟩ := trodAll_cons hA
  obtain ⟨v1, vs1, d1, ds1, p1, q1, rfl, rfl, rfl, h1, r1⟩ := trodAll_cons r0
  obtain ⟨v2, vs2, d2, ds2, p2, q2, rfl, rfl, rfl, h2, r2⟩ := trodAll_cons r1
  obtain ⟨v3, vs3, d3, ds3, p3, q3, rfl, rfl, rfl, h3, r3⟩ := trodAll_cons r2
  obtain ⟨rfl, rfl, rfl⟩ := trodAll_nil r3
  obtain rfl : args = #[v0, v1, v2, v3] := by cases args; simp_all
  obtain ⟨rfl, rfl⟩ := trodVars_none hV
  have k0 := h0
  obtain ⟨ns0, h0l, h0v, h0w⟩ := open_intStruct [.i64, .i64, .i64, .i64, .i64] Tryd.underlying23 (by kernel_rfl) (by kernel_rfl) rfl (hval 0 23 v0 rfl rfl) h0
  obtain ⟨a0_0, a0_1, a0_2, a0_3, a0_4, rfl⟩ := list5 h0l
  obtain rfl : v0 = .agg #[.int .i64 a0_0, .int .i64 a0_1, .int .i64 a0_2, .int .i64 a0_3, .int .i64 a0_4] := h0v
  obtain ⟨a1, rfl, rfl, rfl, w1⟩ := open_int Tryd.underlying3 (hval 1 3 v1 rfl rfl) h1
  obtain ⟨a2, rfl, rfl, rfl⟩ := open_bool Tryd.underlying4 (hval 2 4 v2 rfl rfl) h2
  obtain ⟨A3, len3, cap3, rfl⟩ := okWide_slice Tryd.underlying24 (hval 3 24 v3 rfl rfl)
  have k3 := h3
  obtain ⟨b3, off3, zs3, hl3, hm3, hA3, hc3, hw3⟩ := open_slice Tryd.underlying24 Tryd.underlying28 cells28 h3
  clear hA0 hval0
  simp only [List.append_nil] at hW'
  have hlt0 : ∀ x ∈ p0, x.block < W.heap.size := fun x hx => by simpa using hW'.lt x (by simp [hx])
  have hlt3 : ∀ x ∈ p3, x.block < W.heap.size := fun x hx => by simpa using hW'.lt x (by simp [hx])
  refine (walk W (of_laid hL) a0_0 (h0w 0 .i64 _ rfl rfl) a0_1 (h0w 1 .i64 _ rfl rfl) a0_2 (h0w 2 .i64 _ rfl rfl) a0_3 (h0w 3 .i64 _ rfl rfl) a0_4 (h0w 4 .i64 _ rfl rfl) a1 w1 a2 A3 len3 cap3 b3 off3 zs3 hl3 hm3 hA3 hc3 hw3).mono fun e W' ⟨he, hg⟩ => ?_
  subst he
  exact ⟨_, rfl, post_of_below2 (pv := []) hW' (fun _ _ _ => (trodAll_cons_mk (shut_bool Tryd.underlying4 _) trodAll_mk0)) (trodAll_cons_mk (Below.trod laidOut (by kernel_rfl) (of_decide_eq_true (by kernel_rfl)) k0 hg hlt0) (trodAll_cons_mk (shut_int Tryd.underlying3 w1) (trodAll_cons_mk (shut_bool Tryd.underlying4 _) (trodAll_cons_mk (Below.trod laidOut (by kernel_rfl) (of_decide_eq_true (by kernel_rfl)) k3 hg hlt3) trodAll_mk0)))) rfl (by simp) (hg.frame _)⟩

theorem over : Rows.enterLeavesRow.holds Tryd.pinned (OpenSpec.ofChange Rows.enterLeavesSpec) :=
  OpenClaim.holds_of_wide 4 Tryd.f4 rfl rfl rfl rfl rfl rfl rfl ⟨rfl, rfl, rfl, rfl, rfl⟩ rfl rfl rfl rfl rfl (by kernel_rfl) Tryd.func4 (by kernel_rfl)
    (of_decide_eq_true (by kernel_rfl)) (by unfold Func.isWrapper; first | (rw [if_pos (by decide +kernel)]; kernel_rfl) | (rw [if_neg (by decide +kernel)]; exact ⟨rfl, rfl⟩))
    (fun os started H enc _ => lifted os started H enc)

theorem row : Rows.EnterLeavesSaid := over

theorem proved : Rows.EnterLeavesCardSaid :=
  Claim7.holds_tied_plain_at .later [] [.handle, .data] true (true, "c4155e5141cbbb348fd21b7ff6569c62913f9b3f870bef43426f9ff05dff8b54") true
    row (fun _ h => by cases h) (by kernel_rfl) (fun _ h => by cases h) enterLeaves_row_tie rfl ⟨rfl, rfl⟩ (by kernel_rfl) rfl
    (fun f fn hf hfn => by
      obtain rfl : f = 4 := Option.some.inj ((show Tryd.prog.funcNamed "gleaning/gleaninglaw17.EnterLeaves" = some 4 by kernel_rfl).symm.trans hf) |>.symm
      obtain rfl : fn = Tryd.f4 := (Option.some.inj (Tryd.func4.symm.trans hfn)).symm
      exact ⟨by kernel_rfl, fun j t ht => by
        rw [Tryd.params4] at ht
        have hm : t ∈ [23, 3, 4, 24] := by simpa using Array.mem_of_getElem? ht
        have hall : ([23, 3, 4, 24].all fun u => !Tryd.prog.wantsStandIn u) = true := by kernel_rfl
        exact (show Tryd.prog.wantsStandIn t = false by simpa using List.all_eq_true.1 hall t hm)⟩)
    (by kernel_rfl)

#print axioms proved
end Go.Proofs.YtcafhdemmchcaaaDoor.enterLeaves
