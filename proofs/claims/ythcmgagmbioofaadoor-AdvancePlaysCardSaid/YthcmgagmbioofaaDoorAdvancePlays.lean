/- gleaninglaw18.AdvancePlays: for every input the law returns true, and leaves its arguments as they were. The package-level variables that it reads hold what the program's text lays in them (a tied card); no other condition. -/
import Derived.Test.YthcmgagmbioofaaDoorRows
import Derived.WalkKit
import Derived.Test.YthcmgagmbioofaaDoorCards
import Derived.Test.YthcmgagmbioofaaDoorTie
import Derived.Test.YthcmgagmbioofaaDoorLaid
import Derived.SevenTiedAt
import Derived.Test.YthcmgagmbioofaaDoorOpen
import Derived.Deep.QuietTactic
import Derived.BigQuiet
import Derived.Deep.RegionWith
import Derived.Deep.LoopGhost
import Derived.Deep.RegionHeld3
import Derived.Test.YthcmgagmbioofaaDoorAdv7
import Derived.Test.YthcmgagmbioofaaDoorTail
import Derived.Test.YthcmgagmbioofaaDoorLaid
import Derived.Test.YthcmgagmbioofaaDoorOpen
import Derived.Test.YthcmgagmbioofaaDoorFrame
import Derived.ProofKit
import Derived.OpenShut
namespace Go.Proofs.YthcmgagmbioofaaDoor.advancePlays
open Go.ChangeShapes Go.WideShapes Go.ChangeAt Go.RowKit
set_option linter.unusedVariables false

theorem own : ownKnob Tryd.prog.godebug = none := by kernel_rfl
theorem laidOut : laidOutB Tryd.prog = true := by kernel_rfl
theorem cells28 : Tryd.prog.cellsOf 28 = 1 := by kernel_rfl

set_option maxRecDepth 100000 in
set_option maxHeartbeats 40000000 in
theorem walk (w : World) (hG : GL w) (a0_0 : Int) (w0_0 : (Lit.int .i64 a0_0).wf = true) (a0_1 : Int) (w0_1 : (Lit.int .i64 a0_1).wf = true) (a0_2 : Int) (w0_2 : (Lit.int .i64 a0_2).wf = true) (a0_3 : Int) (w0_3 : (Lit.int .i64 a0_3).wf = true) (a0_4 : Int) (w0_4 : (Lit.int .i64 a0_4).wf = true) (a1 : Int) (w1 : (Lit.int .i64 a1).wf = true) (A2 : Option Addr) (len2 cap2 b2 off2 : Nat) (zs2 : List Int) (hl2 : zs2.length = len2) (hm2 : len2 ≤ cap2 ∧ len2 ≤ maxLen) (hA2 : 0 < len2 → A2 = some ⟨b2, off2, none⟩ ∧ b2 < w.heap.size) (hc2 : ∀ i, i < len2 → w.cell? ⟨b2, off2 + i, none⟩ = some (.int .u64 (zs2.getD i 0))) (hw2 : ∀ n ∈ zs2, (Lit.int .u64 n).wf = true) :
    Calls Tryd.prog 3 #[.agg #[.int .i64 a0_0, .int .i64 a0_1, .int .i64 a0_2, .int .i64 a0_3, .int .i64 a0_4], .int .i64 a1, .slice A2 len2 cap2] w fun e w' => e = .returned (.bool true) ∧ Below w.heap.size w w' := by
  have AW := Lib.hid awake18_any
  have HG := Lib.hid hG
  have hz63 : ∀ j, j < len2 → ∃ n : Nat, zs2.getD j 0 = n ∧ n < 18446744073709551616 := by
    intro j hj
    have hm : zs2.getD j 0 ∈ zs2 := by
      have h : j < zs2.length := by omega
      rw [List.getD_eq_getElem?_getD, List.getElem?_eq_getElem h]; exact List.getElem_mem h
    have hw := hw2 _ hm
    have h1 := u64_lo hw; have h2 := u64_hi hw
    exact ⟨(zs2.getD j 0).toNat, by omega, by omega⟩
  have b1 := below1 w (.cells #[.int .i64 a0_0, .int .i64 a0_1, .int .i64 a0_2, .int .i64 a0_3, .int .i64 a0_4] 23)
  by_cases hlen : (len2 : Int) ≤ 300
  · have HC := Lib.hid hc2
    have HA := Lib.hid hA2
    have HZ := Lib.hid hz63
    have hln : len2 ≤ 300 := by omega
    obtain ⟨s, t, f, l, p, x0, y0, hrel0, hro0, hN, hE, hR⟩ := rel_new a0_0 a0_1 a0_2 a0_3 a0_4 a1
    have N := Lib.hid (hN _ (hG.next b1))
    have hk0 : K5 w.heap.size w w.heap.size a0_0 a0_1 a0_2 a0_3 a0_4 (w.alloc (.cells #[.int .i64 a0_0, .int .i64 a0_1, .int .i64 a0_2, .int .i64 a0_3, .int .i64 a0_4] 23)) := ⟨by simp, by simp, by simp, by simp, by simp, b1, by simp⟩
    have HK := Lib.hid hk0
    have E := Lib.hid hE
    have R := Lib.hid hR
    have HREL := Lib.hid hrel0
    have HRO := Lib.hid hro0
    clear hN hE hR hrel0 hro0 hk0 b1 hG hc2 hA2 hw2 hz63 w0_0 w0_1 w0_2 w0_3 w0_4 w1
    go_enter Tryd.func3, Tryd.ntmps3
    go_wp2_with (first
      | (go_at_call 8; refine N.out.mono ?_; rintro e u1 ⟨rfl, hn⟩; have k1 := Lib.hid (HK.out.next hn); clear hn)
      | (go_at_call 7; refine (E.out _).mono ?_; rintro e u2 ⟨rfl, hn⟩; have k2 := Lib.hid (k1.out.next hn); clear hn k1; have c0 := k2.out.c0; have c1 := k2.out.c1; have c2 := k2.out.c2; have c3 := k2.out.c3; have c4 := k2.out.c4; have z0 : w.heap.size < u2.heap.size := World.block_lt_of_cell? u2 _ c0)
      | (go_at_call 9; refine (R.out _).mono ?_; rintro e u3 ⟨rfl, hn⟩; have k3 := Lib.hid ((k2.out.next (below1 u2 (adRow x0))).next hn); have e3 := Lib.hid ((AC.alloc u2 x0).next hn); have t3 := Lib.hid ((TB.new1 u2 x0).next hn); clear hn c0 c1 c2 c3 c4))
    obtain ⟨wl, hwl⟩ : ∃ wl : World, wl = u3.alloc (.cells #[.int .i64 y0.own, .int .i64 y0.a, .int .i64 y0.oc, .int .u64 y0.ep, .int .i64 y0.th, .int .u64 y0.wd, .slice y0.A y0.L.length y0.cap, .int .i64 y0.ju] 35) := ⟨_, rfl⟩
    have hky : KY w w.heap.size a0_0 a0_1 a0_2 a0_3 a0_4 u2.heap.size x0 u3.heap.size y0 wl := by
      have z1 : w.heap.size < u3.heap.size := World.block_lt_of_cell? u3 _ k3.out.c0
      have z2 := e3.out.lt
      rw [hwl]; exact ⟨k3.out.next (below1 _ _), e3.out.next (below1 _ _), RC.alloc u3 y0, HRO.out _ _, t3.out.next (below1 _ _), TB.new2 u3 y0, by omega, by omega, by omega, by omega, by omega⟩
    rw [← hwl]
    have HKY := Lib.hid hky
    clear hky hwl k2 k3 e3 t3 HK N E R HRO z0
    generalize u3.heap.size = g2 at HKY ⊢
    generalize u2.heap.size = g1 at HKY ⊢
    generalize hg0 : w.heap.size = g0 at HKY ⊢
    go_loopg [9] (len2 + 1) (fun g i wr => ∃ (j : Nat) (x : Ad) (y : Rd), j ≤ len2 + 1 ∧ g = len2 + 1 - j ∧ i = .int .i64 j ∧ Rel a0_0 a0_1 a0_2 a0_3 a0_4 a1 x y ∧ KY w g0 a0_0 a0_1 a0_2 a0_3 a0_4 g1 x g2 y wr)
    case atStart => exact ⟨0, x0, y0, by omega, by omega, rfl, HREL.out, HKY.out⟩
    case round =>
      clear HKY HREL
      obtain ⟨j, x, y, hj, hg, rfl, hrl, hr⟩ := hrel
      by_cases hle : j ≤ len2
      · obtain ⟨k, a, o, m, hQ, hRQ⟩ := rel_want hrl
        obtain ⟨hD0, hD1⟩ := rel_done hrl
        have Q := Lib.hid hQ
        have RQ := Lib.hid hRQ
        have EP := Lib.hid (rel_epoch hrl)
        have JU := Lib.hid (rel_just hrl)
        have EV := Lib.hid (rel_evicted hrl)
        have HS := Lib.hid hr
        have HRL := Lib.hid hrl
        clear hQ hRQ hr hrl
        by_cases hlt : j < len2
        · obtain ⟨rfl, hbl⟩ := HA.out (by omega)
          obtain ⟨n, hz, hn⟩ := HZ.out j hlt
          have HX : RowKit.Hid (w.cell? ⟨b2, off2 + j, none⟩ = some (.int .u64 n)) := Lib.hid (by rw [← hz]; exact HC.out j hlt)
          obtain ⟨x1, hT, hRT⟩ := rel_took HRL.out n hn
          have T := Lib.hid hT
          have RT := Lib.hid hRT
          clear hT hRT hz hn HRL
          by_cases ha : y.a = 0
          · have D := Lib.hid (hD0 ha)
            have h0 : (y.a == 0) = true := by simp [ha]
            clear ha hD0 hD1
            have c0 := HS.out.c0
            have c1 := HS.out.c1
            have c2 := HS.out.c2
            have c3 := HS.out.c3
            have c4 := HS.out.c4
            have c5 := HS.out.c5
            have c6 := HS.out.c6
            have c7 := HS.out.c7
            have c8 := HS.out.c8
            have c9 := HS.out.c9
            have c10 := HS.out.c10
            have c11 := HS.out.c11
            have c12 := HS.out.c12
            go_wp2_with (go_at_call 10; refine (D.out _).mono ?_; rintro e v1 ⟨rfl, hn⟩; have HS1 := Lib.hid (HS.out.next hn); clear hn c0 c1 c2 c3 c4 c5 c6 c7 c8 c9 c10 c11 c12; have d1 := HS1.out.d1; have d2 := HS1.out.d2)
            have KA := Lib.hid HS1.out.drew
            clear HS HS1 d1 d2
            have hs : (fun w' : World => w'.cell? ⟨g0, 0, none⟩ = some (.int .i64 a0_0) ∧ w'.cell? ⟨g0, 1, none⟩ = some (.int .i64 a0_1) ∧ w'.cell? ⟨g0, 2, none⟩ = some (.int .i64 a0_2) ∧ w'.cell? ⟨g0, 3, none⟩ = some (.int .i64 a0_3) ∧ w'.cell? ⟨g0, 4, none⟩ = some (.int .i64 a0_4) ∧ w'.cell? ⟨g1, 0, none⟩ = some (.int .i64 x.s) ∧ w'.cell? ⟨g1, 1, none⟩ = some (.int .i64 x.t) ∧ w'.cell? ⟨g1, 2, none⟩ = some (.int .i64 x.f) ∧ w'.cell? ⟨g1, 3, none⟩ = some (.int .i64 x.l) ∧ w'.cell? ⟨g1, 4, none⟩ = some (.int .i64 x.p) ∧ w'.cell? ⟨g1, 5, none⟩ = some (.int .i64 x.th) ∧ w'.cell? ⟨g1, 6, none⟩ = some (.int .i64 x.st) ∧ w'.cell? ⟨g1, 7, none⟩ = some (.int .i64 x.oc) ∧ w'.cell? ⟨g1, 8, none⟩ = some (.int .u64 x.ep) ∧ w'.cell? ⟨g1, 9, none⟩ = some (.int .i64 x.ot) ∧ w'.cell? ⟨g1, 10, none⟩ = some (.int .u64 x.wd) ∧ w'.cell? ⟨g1, 11, none⟩ = some (.int .u64 x.ev) ∧ w'.cell? ⟨g1, 12, none⟩ = some (.int .u64 x.ju) ∧ w'.cell? ⟨g2, 0, none⟩ = some (.int .i64 y.own) ∧ w'.cell? ⟨g2, 1, none⟩ = some (.int .i64 y.a) ∧ w'.cell? ⟨g2, 2, none⟩ = some (.int .i64 y.oc) ∧ w'.cell? ⟨g2, 3, none⟩ = some (.int .u64 y.ep) ∧ w'.cell? ⟨g2, 4, none⟩ = some (.int .i64 y.th) ∧ w'.cell? ⟨g2, 5, none⟩ = some (.int .u64 y.wd) ∧ w'.cell? ⟨g2, 6, none⟩ = some (.slice y.A y.L.length y.cap) ∧ w'.cell? ⟨g2, 7, none⟩ = some (.int .i64 y.ju) ∧ KY w g0 a0_0 a0_1 a0_2 a0_3 a0_4 g1 x g2 y w') _ := ⟨KA.out.b0, KA.out.b1, KA.out.b2, KA.out.b3, KA.out.b4, KA.out.c0, KA.out.c1, KA.out.c2, KA.out.c3, KA.out.c4, KA.out.c5, KA.out.c6, KA.out.c7, KA.out.c8, KA.out.c9, KA.out.c10, KA.out.c11, KA.out.c12, KA.out.d0, KA.out.d1, KA.out.d2, KA.out.d3, KA.out.d4, KA.out.d5, KA.out.d6, KA.out.d7, KA.out⟩
            go_region_held3 (fun w' : World => w'.cell? ⟨g0, 0, none⟩ = some (.int .i64 a0_0) ∧ w'.cell? ⟨g0, 1, none⟩ = some (.int .i64 a0_1) ∧ w'.cell? ⟨g0, 2, none⟩ = some (.int .i64 a0_2) ∧ w'.cell? ⟨g0, 3, none⟩ = some (.int .i64 a0_3) ∧ w'.cell? ⟨g0, 4, none⟩ = some (.int .i64 a0_4) ∧ w'.cell? ⟨g1, 0, none⟩ = some (.int .i64 x.s) ∧ w'.cell? ⟨g1, 1, none⟩ = some (.int .i64 x.t) ∧ w'.cell? ⟨g1, 2, none⟩ = some (.int .i64 x.f) ∧ w'.cell? ⟨g1, 3, none⟩ = some (.int .i64 x.l) ∧ w'.cell? ⟨g1, 4, none⟩ = some (.int .i64 x.p) ∧ w'.cell? ⟨g1, 5, none⟩ = some (.int .i64 x.th) ∧ w'.cell? ⟨g1, 6, none⟩ = some (.int .i64 x.st) ∧ w'.cell? ⟨g1, 7, none⟩ = some (.int .i64 x.oc) ∧ w'.cell? ⟨g1, 8, none⟩ = some (.int .u64 x.ep) ∧ w'.cell? ⟨g1, 9, none⟩ = some (.int .i64 x.ot) ∧ w'.cell? ⟨g1, 10, none⟩ = some (.int .u64 x.wd) ∧ w'.cell? ⟨g1, 11, none⟩ = some (.int .u64 x.ev) ∧ w'.cell? ⟨g1, 12, none⟩ = some (.int .u64 x.ju) ∧ w'.cell? ⟨g2, 0, none⟩ = some (.int .i64 y.own) ∧ w'.cell? ⟨g2, 1, none⟩ = some (.int .i64 y.a) ∧ w'.cell? ⟨g2, 2, none⟩ = some (.int .i64 y.oc) ∧ w'.cell? ⟨g2, 3, none⟩ = some (.int .u64 y.ep) ∧ w'.cell? ⟨g2, 4, none⟩ = some (.int .i64 y.th) ∧ w'.cell? ⟨g2, 5, none⟩ = some (.int .u64 y.wd) ∧ w'.cell? ⟨g2, 6, none⟩ = some (.slice y.A y.L.length y.cap) ∧ w'.cell? ⟨g2, 7, none⟩ = some (.int .i64 y.ju) ∧ KY w g0 a0_0 a0_1 a0_2 a0_3 a0_4 g1 x g2 y w') (first | with_reducible exact hs | exact hs)
              (first
              | (go_at_call 11; refine (Q.out _).mono ?_; rintro e0 va ⟨rfl, hn⟩; have KB := Lib.hid (KA.out.next hn); have hs : (fun w' : World => w'.cell? ⟨g0, 0, none⟩ = some (.int .i64 a0_0) ∧ w'.cell? ⟨g0, 1, none⟩ = some (.int .i64 a0_1) ∧ w'.cell? ⟨g0, 2, none⟩ = some (.int .i64 a0_2) ∧ w'.cell? ⟨g0, 3, none⟩ = some (.int .i64 a0_3) ∧ w'.cell? ⟨g0, 4, none⟩ = some (.int .i64 a0_4) ∧ w'.cell? ⟨g1, 0, none⟩ = some (.int .i64 x.s) ∧ w'.cell? ⟨g1, 1, none⟩ = some (.int .i64 x.t) ∧ w'.cell? ⟨g1, 2, none⟩ = some (.int .i64 x.f) ∧ w'.cell? ⟨g1, 3, none⟩ = some (.int .i64 x.l) ∧ w'.cell? ⟨g1, 4, none⟩ = some (.int .i64 x.p) ∧ w'.cell? ⟨g1, 5, none⟩ = some (.int .i64 x.th) ∧ w'.cell? ⟨g1, 6, none⟩ = some (.int .i64 x.st) ∧ w'.cell? ⟨g1, 7, none⟩ = some (.int .i64 x.oc) ∧ w'.cell? ⟨g1, 8, none⟩ = some (.int .u64 x.ep) ∧ w'.cell? ⟨g1, 9, none⟩ = some (.int .i64 x.ot) ∧ w'.cell? ⟨g1, 10, none⟩ = some (.int .u64 x.wd) ∧ w'.cell? ⟨g1, 11, none⟩ = some (.int .u64 x.ev) ∧ w'.cell? ⟨g1, 12, none⟩ = some (.int .u64 x.ju) ∧ w'.cell? ⟨g2, 0, none⟩ = some (.int .i64 y.own) ∧ w'.cell? ⟨g2, 1, none⟩ = some (.int .i64 y.a) ∧ w'.cell? ⟨g2, 2, none⟩ = some (.int .i64 y.oc) ∧ w'.cell? ⟨g2, 3, none⟩ = some (.int .u64 y.ep) ∧ w'.cell? ⟨g2, 4, none⟩ = some (.int .i64 y.th) ∧ w'.cell? ⟨g2, 5, none⟩ = some (.int .u64 y.wd) ∧ w'.cell? ⟨g2, 6, none⟩ = some (.slice y.A y.L.length y.cap) ∧ w'.cell? ⟨g2, 7, none⟩ = some (.int .i64 y.ju) ∧ KY w g0 a0_0 a0_1 a0_2 a0_3 a0_4 g1 x g2 y w') _ := ⟨KB.out.b0, KB.out.b1, KB.out.b2, KB.out.b3, KB.out.b4, KB.out.c0, KB.out.c1, KB.out.c2, KB.out.c3, KB.out.c4, KB.out.c5, KB.out.c6, KB.out.c7, KB.out.c8, KB.out.c9, KB.out.c10, KB.out.c11, KB.out.c12, KB.out.d0, KB.out.d1, KB.out.d2, KB.out.d3, KB.out.d4, KB.out.d5, KB.out.d6, KB.out.d7, KB.out⟩; clear hn)
              | (go_at_call 12; refine (RQ.out _).mono ?_; rintro e0 vb ⟨rfl, hn⟩; have KC := Lib.hid (KB.out.next hn); have hs : (fun w' : World => w'.cell? ⟨g0, 0, none⟩ = some (.int .i64 a0_0) ∧ w'.cell? ⟨g0, 1, none⟩ = some (.int .i64 a0_1) ∧ w'.cell? ⟨g0, 2, none⟩ = some (.int .i64 a0_2) ∧ w'.cell? ⟨g0, 3, none⟩ = some (.int .i64 a0_3) ∧ w'.cell? ⟨g0, 4, none⟩ = some (.int .i64 a0_4) ∧ w'.cell? ⟨g1, 0, none⟩ = some (.int .i64 x.s) ∧ w'.cell? ⟨g1, 1, none⟩ = some (.int .i64 x.t) ∧ w'.cell? ⟨g1, 2, none⟩ = some (.int .i64 x.f) ∧ w'.cell? ⟨g1, 3, none⟩ = some (.int .i64 x.l) ∧ w'.cell? ⟨g1, 4, none⟩ = some (.int .i64 x.p) ∧ w'.cell? ⟨g1, 5, none⟩ = some (.int .i64 x.th) ∧ w'.cell? ⟨g1, 6, none⟩ = some (.int .i64 x.st) ∧ w'.cell? ⟨g1, 7, none⟩ = some (.int .i64 x.oc) ∧ w'.cell? ⟨g1, 8, none⟩ = some (.int .u64 x.ep) ∧ w'.cell? ⟨g1, 9, none⟩ = some (.int .i64 x.ot) ∧ w'.cell? ⟨g1, 10, none⟩ = some (.int .u64 x.wd) ∧ w'.cell? ⟨g1, 11, none⟩ = some (.int .u64 x.ev) ∧ w'.cell? ⟨g1, 12, none⟩ = some (.int .u64 x.ju) ∧ w'.cell? ⟨g2, 0, none⟩ = some (.int .i64 y.own) ∧ w'.cell? ⟨g2, 1, none⟩ = some (.int .i64 y.a) ∧ w'.cell? ⟨g2, 2, none⟩ = some (.int .i64 y.oc) ∧ w'.cell? ⟨g2, 3, none⟩ = some (.int .u64 y.ep) ∧ w'.cell? ⟨g2, 4, none⟩ = some (.int .i64 y.th) ∧ w'.cell? ⟨g2, 5, none⟩ = some (.int .u64 y.wd) ∧ w'.cell? ⟨g2, 6, none⟩ = some (.slice y.A y.L.length y.cap) ∧ w'.cell? ⟨g2, 7, none⟩ = some (.int .i64 y.ju) ∧ KY w g0 a0_0 a0_1 a0_2 a0_3 a0_4 g1 x g2 y w') _ := ⟨KC.out.b0, KC.out.b1, KC.out.b2, KC.out.b3, KC.out.b4, KC.out.c0, KC.out.c1, KC.out.c2, KC.out.c3, KC.out.c4, KC.out.c5, KC.out.c6, KC.out.c7, KC.out.c8, KC.out.c9, KC.out.c10, KC.out.c11, KC.out.c12, KC.out.d0, KC.out.d1, KC.out.d2, KC.out.d3, KC.out.d4, KC.out.d5, KC.out.d6, KC.out.d7, KC.out⟩; clear hn)
              | (go_at_call 13; refine (EP.out _).mono ?_; rintro e0 vc ⟨rfl, hn⟩; have KD := Lib.hid (KC.out.next hn); have hs : (fun w' : World => w'.cell? ⟨g0, 0, none⟩ = some (.int .i64 a0_0) ∧ w'.cell? ⟨g0, 1, none⟩ = some (.int .i64 a0_1) ∧ w'.cell? ⟨g0, 2, none⟩ = some (.int .i64 a0_2) ∧ w'.cell? ⟨g0, 3, none⟩ = some (.int .i64 a0_3) ∧ w'.cell? ⟨g0, 4, none⟩ = some (.int .i64 a0_4) ∧ w'.cell? ⟨g1, 0, none⟩ = some (.int .i64 x.s) ∧ w'.cell? ⟨g1, 1, none⟩ = some (.int .i64 x.t) ∧ w'.cell? ⟨g1, 2, none⟩ = some (.int .i64 x.f) ∧ w'.cell? ⟨g1, 3, none⟩ = some (.int .i64 x.l) ∧ w'.cell? ⟨g1, 4, none⟩ = some (.int .i64 x.p) ∧ w'.cell? ⟨g1, 5, none⟩ = some (.int .i64 x.th) ∧ w'.cell? ⟨g1, 6, none⟩ = some (.int .i64 x.st) ∧ w'.cell? ⟨g1, 7, none⟩ = some (.int .i64 x.oc) ∧ w'.cell? ⟨g1, 8, none⟩ = some (.int .u64 x.ep) ∧ w'.cell? ⟨g1, 9, none⟩ = some (.int .i64 x.ot) ∧ w'.cell? ⟨g1, 10, none⟩ = some (.int .u64 x.wd) ∧ w'.cell? ⟨g1, 11, none⟩ = some (.int .u64 x.ev) ∧ w'.cell? ⟨g1, 12, none⟩ = some (.int .u64 x.ju) ∧ w'.cell? ⟨g2, 0, none⟩ = some (.int .i64 y.own) ∧ w'.cell? ⟨g2, 1, none⟩ = some (.int .i64 y.a) ∧ w'.cell? ⟨g2, 2, none⟩ = some (.int .i64 y.oc) ∧ w'.cell? ⟨g2, 3, none⟩ = some (.int .u64 y.ep) ∧ w'.cell? ⟨g2, 4, none⟩ = some (.int .i64 y.th) ∧ w'.cell? ⟨g2, 5, none⟩ = some (.int .u64 y.wd) ∧ w'.cell? ⟨g2, 6, none⟩ = some (.slice y.A y.L.length y.cap) ∧ w'.cell? ⟨g2, 7, none⟩ = some (.int .i64 y.ju) ∧ KY w g0 a0_0 a0_1 a0_2 a0_3 a0_4 g1 x g2 y w') _ := ⟨KD.out.b0, KD.out.b1, KD.out.b2, KD.out.b3, KD.out.b4, KD.out.c0, KD.out.c1, KD.out.c2, KD.out.c3, KD.out.c4, KD.out.c5, KD.out.c6, KD.out.c7, KD.out.c8, KD.out.c9, KD.out.c10, KD.out.c11, KD.out.c12, KD.out.d0, KD.out.d1, KD.out.d2, KD.out.d3, KD.out.d4, KD.out.d5, KD.out.d6, KD.out.d7, KD.out⟩; clear hn)
              | (go_at_call 14; refine (JU.out _).mono ?_; rintro e0 vd ⟨rfl, hn⟩; have KE := Lib.hid (KD.out.next hn); have hs : (fun w' : World => w'.cell? ⟨g0, 0, none⟩ = some (.int .i64 a0_0) ∧ w'.cell? ⟨g0, 1, none⟩ = some (.int .i64 a0_1) ∧ w'.cell? ⟨g0, 2, none⟩ = some (.int .i64 a0_2) ∧ w'.cell? ⟨g0, 3, none⟩ = some (.int .i64 a0_3) ∧ w'.cell? ⟨g0, 4, none⟩ = some (.int .i64 a0_4) ∧ w'.cell? ⟨g1, 0, none⟩ = some (.int .i64 x.s) ∧ w'.cell? ⟨g1, 1, none⟩ = some (.int .i64 x.t) ∧ w'.cell? ⟨g1, 2, none⟩ = some (.int .i64 x.f) ∧ w'.cell? ⟨g1, 3, none⟩ = some (.int .i64 x.l) ∧ w'.cell? ⟨g1, 4, none⟩ = some (.int .i64 x.p) ∧ w'.cell? ⟨g1, 5, none⟩ = some (.int .i64 x.th) ∧ w'.cell? ⟨g1, 6, none⟩ = some (.int .i64 x.st) ∧ w'.cell? ⟨g1, 7, none⟩ = some (.int .i64 x.oc) ∧ w'.cell? ⟨g1, 8, none⟩ = some (.int .u64 x.ep) ∧ w'.cell? ⟨g1, 9, none⟩ = some (.int .i64 x.ot) ∧ w'.cell? ⟨g1, 10, none⟩ = some (.int .u64 x.wd) ∧ w'.cell? ⟨g1, 11, none⟩ = some (.int .u64 x.ev) ∧ w'.cell? ⟨g1, 12, none⟩ = some (.int .u64 x.ju) ∧ w'.cell? ⟨g2, 0, none⟩ = some (.int .i64 y.own) ∧ w'.cell? ⟨g2, 1, none⟩ = some (.int .i64 y.a) ∧ w'.cell? ⟨g2, 2, none⟩ = some (.int .i64 y.oc) ∧ w'.cell? ⟨g2, 3, none⟩ = some (.int .u64 y.ep) ∧ w'.cell? ⟨g2, 4, none⟩ = some (.int .i64 y.th) ∧ w'.cell? ⟨g2, 5, none⟩ = some (.int .u64 y.wd) ∧ w'.cell? ⟨g2, 6, none⟩ = some (.slice y.A y.L.length y.cap) ∧ w'.cell? ⟨g2, 7, none⟩ = some (.int .i64 y.ju) ∧ KY w g0 a0_0 a0_1 a0_2 a0_3 a0_4 g1 x g2 y w') _ := ⟨KE.out.b0, KE.out.b1, KE.out.b2, KE.out.b3, KE.out.b4, KE.out.c0, KE.out.c1, KE.out.c2, KE.out.c3, KE.out.c4, KE.out.c5, KE.out.c6, KE.out.c7, KE.out.c8, KE.out.c9, KE.out.c10, KE.out.c11, KE.out.c12, KE.out.d0, KE.out.d1, KE.out.d2, KE.out.d3, KE.out.d4, KE.out.d5, KE.out.d6, KE.out.d7, KE.out⟩; clear hn)
              | (go_at_call 16; refine (EV.out.2 _).mono ?_; rintro e0 ve ⟨A5, c5, rfl, hri, hn⟩; have HRI := Lib.hid hri; have KF := Lib.hid (KE.out.next hn); have hs : (fun w' : World => w'.cell? ⟨g0, 0, none⟩ = some (.int .i64 a0_0) ∧ w'.cell? ⟨g0, 1, none⟩ = some (.int .i64 a0_1) ∧ w'.cell? ⟨g0, 2, none⟩ = some (.int .i64 a0_2) ∧ w'.cell? ⟨g0, 3, none⟩ = some (.int .i64 a0_3) ∧ w'.cell? ⟨g0, 4, none⟩ = some (.int .i64 a0_4) ∧ w'.cell? ⟨g1, 0, none⟩ = some (.int .i64 x.s) ∧ w'.cell? ⟨g1, 1, none⟩ = some (.int .i64 x.t) ∧ w'.cell? ⟨g1, 2, none⟩ = some (.int .i64 x.f) ∧ w'.cell? ⟨g1, 3, none⟩ = some (.int .i64 x.l) ∧ w'.cell? ⟨g1, 4, none⟩ = some (.int .i64 x.p) ∧ w'.cell? ⟨g1, 5, none⟩ = some (.int .i64 x.th) ∧ w'.cell? ⟨g1, 6, none⟩ = some (.int .i64 x.st) ∧ w'.cell? ⟨g1, 7, none⟩ = some (.int .i64 x.oc) ∧ w'.cell? ⟨g1, 8, none⟩ = some (.int .u64 x.ep) ∧ w'.cell? ⟨g1, 9, none⟩ = some (.int .i64 x.ot) ∧ w'.cell? ⟨g1, 10, none⟩ = some (.int .u64 x.wd) ∧ w'.cell? ⟨g1, 11, none⟩ = some (.int .u64 x.ev) ∧ w'.cell? ⟨g1, 12, none⟩ = some (.int .u64 x.ju) ∧ w'.cell? ⟨g2, 0, none⟩ = some (.int .i64 y.own) ∧ w'.cell? ⟨g2, 1, none⟩ = some (.int .i64 y.a) ∧ w'.cell? ⟨g2, 2, none⟩ = some (.int .i64 y.oc) ∧ w'.cell? ⟨g2, 3, none⟩ = some (.int .u64 y.ep) ∧ w'.cell? ⟨g2, 4, none⟩ = some (.int .i64 y.th) ∧ w'.cell? ⟨g2, 5, none⟩ = some (.int .u64 y.wd) ∧ w'.cell? ⟨g2, 6, none⟩ = some (.slice y.A y.L.length y.cap) ∧ w'.cell? ⟨g2, 7, none⟩ = some (.int .i64 y.ju) ∧ KY w g0 a0_0 a0_1 a0_2 a0_3 a0_4 g1 x g2 y w') _ := ⟨KF.out.b0, KF.out.b1, KF.out.b2, KF.out.b3, KF.out.b4, KF.out.c0, KF.out.c1, KF.out.c2, KF.out.c3, KF.out.c4, KF.out.c5, KF.out.c6, KF.out.c7, KF.out.c8, KF.out.c9, KF.out.c10, KF.out.c11, KF.out.c12, KF.out.d0, KF.out.d1, KF.out.d2, KF.out.d3, KF.out.d4, KF.out.d5, KF.out.d6, KF.out.d7, KF.out⟩; clear hn hri)
              | (go_at_call 15; refine (ints_any y.L (by have := EV.out.1; omega) A5 y.A c5 y.cap _ HRI.out (RI.of_own KF.out.ro)).mono ?_; rintro e0 vf ⟨rfl, hn⟩; have KG := Lib.hid (KF.out.next hn); have hs : (fun w' : World => w'.cell? ⟨g0, 0, none⟩ = some (.int .i64 a0_0) ∧ w'.cell? ⟨g0, 1, none⟩ = some (.int .i64 a0_1) ∧ w'.cell? ⟨g0, 2, none⟩ = some (.int .i64 a0_2) ∧ w'.cell? ⟨g0, 3, none⟩ = some (.int .i64 a0_3) ∧ w'.cell? ⟨g0, 4, none⟩ = some (.int .i64 a0_4) ∧ w'.cell? ⟨g1, 0, none⟩ = some (.int .i64 x.s) ∧ w'.cell? ⟨g1, 1, none⟩ = some (.int .i64 x.t) ∧ w'.cell? ⟨g1, 2, none⟩ = some (.int .i64 x.f) ∧ w'.cell? ⟨g1, 3, none⟩ = some (.int .i64 x.l) ∧ w'.cell? ⟨g1, 4, none⟩ = some (.int .i64 x.p) ∧ w'.cell? ⟨g1, 5, none⟩ = some (.int .i64 x.th) ∧ w'.cell? ⟨g1, 6, none⟩ = some (.int .i64 x.st) ∧ w'.cell? ⟨g1, 7, none⟩ = some (.int .i64 x.oc) ∧ w'.cell? ⟨g1, 8, none⟩ = some (.int .u64 x.ep) ∧ w'.cell? ⟨g1, 9, none⟩ = some (.int .i64 x.ot) ∧ w'.cell? ⟨g1, 10, none⟩ = some (.int .u64 x.wd) ∧ w'.cell? ⟨g1, 11, none⟩ = some (.int .u64 x.ev) ∧ w'.cell? ⟨g1, 12, none⟩ = some (.int .u64 x.ju) ∧ w'.cell? ⟨g2, 0, none⟩ = some (.int .i64 y.own) ∧ w'.cell? ⟨g2, 1, none⟩ = some (.int .i64 y.a) ∧ w'.cell? ⟨g2, 2, none⟩ = some (.int .i64 y.oc) ∧ w'.cell? ⟨g2, 3, none⟩ = some (.int .u64 y.ep) ∧ w'.cell? ⟨g2, 4, none⟩ = some (.int .i64 y.th) ∧ w'.cell? ⟨g2, 5, none⟩ = some (.int .u64 y.wd) ∧ w'.cell? ⟨g2, 6, none⟩ = some (.slice y.A y.L.length y.cap) ∧ w'.cell? ⟨g2, 7, none⟩ = some (.int .i64 y.ju) ∧ KY w g0 a0_0 a0_1 a0_2 a0_3 a0_4 g1 x g2 y w') _ := ⟨KG.out.b0, KG.out.b1, KG.out.b2, KG.out.b3, KG.out.b4, KG.out.c0, KG.out.c1, KG.out.c2, KG.out.c3, KG.out.c4, KG.out.c5, KG.out.c6, KG.out.c7, KG.out.c8, KG.out.c9, KG.out.c10, KG.out.c11, KG.out.c12, KG.out.d0, KG.out.d1, KG.out.d2, KG.out.d3, KG.out.d4, KG.out.d5, KG.out.d6, KG.out.d7, KG.out⟩; clear hn)
              | fail)
            all_goals (
              clear hs
              have HS2 := Lib.hid KG.out
              clear KA KB KC KD KE KF KG HRI
              go_wp2
              have HX2 := Lib.hid (KYX.mk' (a := ⟨b2, off2 + j, none⟩) HS2.out hbl HX.out)
              clear HS2
              refine wp_region_class_tail (C := KYX w g0 a0_0 a0_1 a0_2 a0_3 a0_4 g1 x g2 y ⟨b2, off2 + j, none⟩ (.int .u64 n)) 6 (by kernel_rfl) (by kernel_rfl) (HX2.out) ?_
              simp only [List.take_succ_cons, List.take_zero, List.drop_succ_cons, List.drop_zero]
              repeat (first
                | go_big_quiet_skip
                | (go_big_quiet_want; go_big_quiet_op; go_big_quiet_on)
                | (go_big_quiet_want; go_big_quiet_op; refine ⟨_, fun _ _ => rfl, ?_⟩; go_big_quiet_on)
                | (go_big_quiet_want
                   apply quiet_mk
                   · intro u hu
                     have c0 := hu.c0; have c1 := hu.c1; have c2 := hu.c2; have c3 := hu.c3; have c4 := hu.c4; have c5 := hu.c5; have c6 := hu.c6; have c7 := hu.c7; have c8 := hu.c8; have c9 := hu.c9; have c10 := hu.c10; have c11 := hu.c11; have c12 := hu.c12; have xc := hu.xc
                     have HU := Lib.hid hu
                     clear hu
                     go_simp
                     first
                       | with_reducible rfl
                       | (go_at_call 17; refine (T.out _).mono ?_; rintro e w' ⟨rfl, hn⟩; exact ⟨rfl, HU.out.next hn⟩)
                   simp only [Act.put, List.setIfInBounds_toArray, List.set_cons_zero, List.set_cons_succ]
                   go_big_quiet_on))
              refine wpQuiet_nil ?_
              intro u hu
              have hr2 := hu.toKY.store1 x1
              have fz := hu.e.fz
              have c0 := hu.c0
              have c1 := hu.c1
              have c2 := hu.c2
              have c3 := hu.c3
              have c4 := hu.c4
              have c5 := hu.c5
              have c6 := hu.c6
              have c7 := hu.c7
              have c8 := hu.c8
              have c9 := hu.c9
              have c10 := hu.c10
              have c11 := hu.c11
              have c12 := hu.c12
              have HR2 := Lib.hid hr2
              clear hu hr2 HX2
              go_wp2
              obtain ⟨wy, hwy, hky⟩ := HR2.out.name
              refine wp_at hwy ?_
              clear HR2 hwy fz c0 c1 c2 c3 c4 c5 c6 c7 c8 c9 c10 c11 c12
              have HKY := Lib.hid hky
              have xc : wy.cell? ⟨b2, off2 + j, none⟩ = some (.int .u64 n) := (hky.k.bl.cell (p := ⟨b2, off2 + j, none⟩) hbl).trans HX.out
              have b0 := hky.b0
              have b1 := hky.b1
              have b2 := hky.b2
              have b3 := hky.b3
              have b4 := hky.b4
              have d0 := hky.d0
              have d1 := hky.d1
              have d2 := hky.d2
              have d3 := hky.d3
              have d4 := hky.d4
              have d5 := hky.d5
              have d6 := hky.d6
              have d7 := hky.d7
              clear hky
              go_region_with (go_at_call 18; refine (RT.out w.heap.size _ (by have := HKY.out.k.le; simpa using this) (by first | exact HKY.out.ro | exact HKY.out.drew.ro | exact HKY.out.drew.drew.ro)).mono ?_; rintro e u5 ⟨y1, rfl, hrel1, hro1, hn⟩; have HREL1 := Lib.hid hrel1; have K6 := Lib.hid (KY.next (by first | exact HKY.out.drew | exact HKY.out.drew.drew | exact HKY.out) hn); have RO1 := Lib.hid hro1; clear hn hrel1 hro1 xc b0 b1 b2 b3 b4 d0 d1 d2 d3 d4 d5 d6 d7; have d0 := K6.out.d0; have d1 := K6.out.d1; have d2 := K6.out.d2; have d3 := K6.out.d3; have d4 := K6.out.d4; have d5 := K6.out.d5; have d6 := K6.out.d6; have d7 := K6.out.d7; have fz := K6.out.r.fz)
              all_goals (
                have HR3 := Lib.hid (K6.out.store2 y1 RO1.out)
                clear K6 HKY
                go_wp2
                go_roundg (len2 + 1 - (j + 1))
                case rel => exact ⟨j + 1, x1, y1, by omega, rfl, by go_num, HREL1.out, HR3.out⟩
                case measure => omega))
          · have D := Lib.hid (hD1 ha)
            have h0 : (y.a == 0) = false := by simp [ha]
            clear ha hD0 hD1
            have c0 := HS.out.c0
            have c1 := HS.out.c1
            have c2 := HS.out.c2
            have c3 := HS.out.c3
            have c4 := HS.out.c4
            have c5 := HS.out.c5
            have c6 := HS.out.c6
            have c7 := HS.out.c7
            have c8 := HS.out.c8
            have c9 := HS.out.c9
            have c10 := HS.out.c10
            have c11 := HS.out.c11
            have c12 := HS.out.c12
            go_wp2_with (go_at_call 10; refine (D.out _).mono ?_; rintro e v1 ⟨rfl, hn⟩; have HS1 := Lib.hid (HS.out.next hn); clear hn c0 c1 c2 c3 c4 c5 c6 c7 c8 c9 c10 c11 c12; have d1 := HS1.out.d1; have d2 := HS1.out.d2)
            have KA := Lib.hid HS1.out.drew
            clear HS HS1 d1 d2
            have hs : (fun w' : World => w'.cell? ⟨g0, 0, none⟩ = some (.int .i64 a0_0) ∧ w'.cell? ⟨g0, 1, none⟩ = some (.int .i64 a0_1) ∧ w'.cell? ⟨g0, 2, none⟩ = some (.int .i64 a0_2) ∧ w'.cell? ⟨g0, 3, none⟩ = some (.int .i64 a0_3) ∧ w'.cell? ⟨g0, 4, none⟩ = some (.int .i64 a0_4) ∧ w'.cell? ⟨g1, 0, none⟩ = some (.int .i64 x.s) ∧ w'.cell? ⟨g1, 1, none⟩ = some (.int .i64 x.t) ∧ w'.cell? ⟨g1, 2, none⟩ = some (.int .i64 x.f) ∧ w'.cell? ⟨g1, 3, none⟩ = some (.int .i64 x.l) ∧ w'.cell? ⟨g1, 4, none⟩ = some (.int .i64 x.p) ∧ w'.cell? ⟨g1, 5, none⟩ = some (.int .i64 x.th) ∧ w'.cell? ⟨g1, 6, none⟩ = some (.int .i64 x.st) ∧ w'.cell? ⟨g1, 7, none⟩ = some (.int .i64 x.oc) ∧ w'.cell? ⟨g1, 8, none⟩ = some (.int .u64 x.ep) ∧ w'.cell? ⟨g1, 9, none⟩ = some (.int .i64 x.ot) ∧ w'.cell? ⟨g1, 10, none⟩ = some (.int .u64 x.wd) ∧ w'.cell? ⟨g1, 11, none⟩ = some (.int .u64 x.ev) ∧ w'.cell? ⟨g1, 12, none⟩ = some (.int .u64 x.ju) ∧ w'.cell? ⟨g2, 0, none⟩ = some (.int .i64 y.own) ∧ w'.cell? ⟨g2, 1, none⟩ = some (.int .i64 y.a) ∧ w'.cell? ⟨g2, 2, none⟩ = some (.int .i64 y.oc) ∧ w'.cell? ⟨g2, 3, none⟩ = some (.int .u64 y.ep) ∧ w'.cell? ⟨g2, 4, none⟩ = some (.int .i64 y.th) ∧ w'.cell? ⟨g2, 5, none⟩ = some (.int .u64 y.wd) ∧ w'.cell? ⟨g2, 6, none⟩ = some (.slice y.A y.L.length y.cap) ∧ w'.cell? ⟨g2, 7, none⟩ = some (.int .i64 y.ju) ∧ KY w g0 a0_0 a0_1 a0_2 a0_3 a0_4 g1 x g2 y w') _ := ⟨KA.out.b0, KA.out.b1, KA.out.b2, KA.out.b3, KA.out.b4, KA.out.c0, KA.out.c1, KA.out.c2, KA.out.c3, KA.out.c4, KA.out.c5, KA.out.c6, KA.out.c7, KA.out.c8, KA.out.c9, KA.out.c10, KA.out.c11, KA.out.c12, KA.out.d0, KA.out.d1, KA.out.d2, KA.out.d3, KA.out.d4, KA.out.d5, KA.out.d6, KA.out.d7, KA.out⟩
            go_region_held3 (fun w' : World => w'.cell? ⟨g0, 0, none⟩ = some (.int .i64 a0_0) ∧ w'.cell? ⟨g0, 1, none⟩ = some (.int .i64 a0_1) ∧ w'.cell? ⟨g0, 2, none⟩ = some (.int .i64 a0_2) ∧ w'.cell? ⟨g0, 3, none⟩ = some (.int .i64 a0_3) ∧ w'.cell? ⟨g0, 4, none⟩ = some (.int .i64 a0_4) ∧ w'.cell? ⟨g1, 0, none⟩ = some (.int .i64 x.s) ∧ w'.cell? ⟨g1, 1, none⟩ = some (.int .i64 x.t) ∧ w'.cell? ⟨g1, 2, none⟩ = some (.int .i64 x.f) ∧ w'.cell? ⟨g1, 3, none⟩ = some (.int .i64 x.l) ∧ w'.cell? ⟨g1, 4, none⟩ = some (.int .i64 x.p) ∧ w'.cell? ⟨g1, 5, none⟩ = some (.int .i64 x.th) ∧ w'.cell? ⟨g1, 6, none⟩ = some (.int .i64 x.st) ∧ w'.cell? ⟨g1, 7, none⟩ = some (.int .i64 x.oc) ∧ w'.cell? ⟨g1, 8, none⟩ = some (.int .u64 x.ep) ∧ w'.cell? ⟨g1, 9, none⟩ = some (.int .i64 x.ot) ∧ w'.cell? ⟨g1, 10, none⟩ = some (.int .u64 x.wd) ∧ w'.cell? ⟨g1, 11, none⟩ = some (.int .u64 x.ev) ∧ w'.cell? ⟨g1, 12, none⟩ = some (.int .u64 x.ju) ∧ w'.cell? ⟨g2, 0, none⟩ = some (.int .i64 y.own) ∧ w'.cell? ⟨g2, 1, none⟩ = some (.int .i64 y.a) ∧ w'.cell? ⟨g2, 2, none⟩ = some (.int .i64 y.oc) ∧ w'.cell? ⟨g2, 3, none⟩ = some (.int .u64 y.ep) ∧ w'.cell? ⟨g2, 4, none⟩ = some (.int .i64 y.th) ∧ w'.cell? ⟨g2, 5, none⟩ = some (.int .u64 y.wd) ∧ w'.cell? ⟨g2, 6, none⟩ = some (.slice y.A y.L.length y.cap) ∧ w'.cell? ⟨g2, 7, none⟩ = some (.int .i64 y.ju) ∧ KY w g0 a0_0 a0_1 a0_2 a0_3 a0_4 g1 x g2 y w') (first | with_reducible exact hs | exact hs)
              (first
              | (go_at_call 11; refine (Q.out _).mono ?_; rintro e0 va ⟨rfl, hn⟩; have KB := Lib.hid (KA.out.next hn); have hs : (fun w' : World => w'.cell? ⟨g0, 0, none⟩ = some (.int .i64 a0_0) ∧ w'.cell? ⟨g0, 1, none⟩ = some (.int .i64 a0_1) ∧ w'.cell? ⟨g0, 2, none⟩ = some (.int .i64 a0_2) ∧ w'.cell? ⟨g0, 3, none⟩ = some (.int .i64 a0_3) ∧ w'.cell? ⟨g0, 4, none⟩ = some (.int .i64 a0_4) ∧ w'.cell? ⟨g1, 0, none⟩ = some (.int .i64 x.s) ∧ w'.cell? ⟨g1, 1, none⟩ = some (.int .i64 x.t) ∧ w'.cell? ⟨g1, 2, none⟩ = some (.int .i64 x.f) ∧ w'.cell? ⟨g1, 3, none⟩ = some (.int .i64 x.l) ∧ w'.cell? ⟨g1, 4, none⟩ = some (.int .i64 x.p) ∧ w'.cell? ⟨g1, 5, none⟩ = some (.int .i64 x.th) ∧ w'.cell? ⟨g1, 6, none⟩ = some (.int .i64 x.st) ∧ w'.cell? ⟨g1, 7, none⟩ = some (.int .i64 x.oc) ∧ w'.cell? ⟨g1, 8, none⟩ = some (.int .u64 x.ep) ∧ w'.cell? ⟨g1, 9, none⟩ = some (.int .i64 x.ot) ∧ w'.cell? ⟨g1, 10, none⟩ = some (.int .u64 x.wd) ∧ w'.cell? ⟨g1, 11, none⟩ = some (.int .u64 x.ev) ∧ w'.cell? ⟨g1, 12, none⟩ = some (.int .u64 x.ju) ∧ w'.cell? ⟨g2, 0, none⟩ = some (.int .i64 y.own) ∧ w'.cell? ⟨g2, 1, none⟩ = some (.int .i64 y.a) ∧ w'.cell? ⟨g2, 2, none⟩ = some (.int .i64 y.oc) ∧ w'.cell? ⟨g2, 3, none⟩ = some (.int .u64 y.ep) ∧ w'.cell? ⟨g2, 4, none⟩ = some (.int .i64 y.th) ∧ w'.cell? ⟨g2, 5, none⟩ = some (.int .u64 y.wd) ∧ w'.cell? ⟨g2, 6, none⟩ = some (.slice y.A y.L.length y.cap) ∧ w'.cell? ⟨g2, 7, none⟩ = some (.int .i64 y.ju) ∧ KY w g0 a0_0 a0_1 a0_2 a0_3 a0_4 g1 x g2 y w') _ := ⟨KB.out.b0, KB.out.b1, KB.out.b2, KB.out.b3, KB.out.b4, KB.out.c0, KB.out.c1, KB.out.c2, KB.out.c3, KB.out.c4, KB.out.c5, KB.out.c6, KB.out.c7, KB.out.c8, KB.out.c9, KB.out.c10, KB.out.c11, KB.out.c12, KB.out.d0, KB.out.d1, KB.out.d2, KB.out.d3, KB.out.d4, KB.out.d5, KB.out.d6, KB.out.d7, KB.out⟩; clear hn)
              | (go_at_call 12; refine (RQ.out _).mono ?_; rintro e0 vb ⟨rfl, hn⟩; have KC := Lib.hid (KB.out.next hn); have hs : (fun w' : World => w'.cell? ⟨g0, 0, none⟩ = some (.int .i64 a0_0) ∧ w'.cell? ⟨g0, 1, none⟩ = some (.int .i64 a0_1) ∧ w'.cell? ⟨g0, 2, none⟩ = some (.int .i64 a0_2) ∧ w'.cell? ⟨g0, 3, none⟩ = some (.int .i64 a0_3) ∧ w'.cell? ⟨g0, 4, none⟩ = some (.int .i64 a0_4) ∧ w'.cell? ⟨g1, 0, none⟩ = some (.int .i64 x.s) ∧ w'.cell? ⟨g1, 1, none⟩ = some (.int .i64 x.t) ∧ w'.cell? ⟨g1, 2, none⟩ = some (.int .i64 x.f) ∧ w'.cell? ⟨g1, 3, none⟩ = some (.int .i64 x.l) ∧ w'.cell? ⟨g1, 4, none⟩ = some (.int .i64 x.p) ∧ w'.cell? ⟨g1, 5, none⟩ = some (.int .i64 x.th) ∧ w'.cell? ⟨g1, 6, none⟩ = some (.int .i64 x.st) ∧ w'.cell? ⟨g1, 7, none⟩ = some (.int .i64 x.oc) ∧ w'.cell? ⟨g1, 8, none⟩ = some (.int .u64 x.ep) ∧ w'.cell? ⟨g1, 9, none⟩ = some (.int .i64 x.ot) ∧ w'.cell? ⟨g1, 10, none⟩ = some (.int .u64 x.wd) ∧ w'.cell? ⟨g1, 11, none⟩ = some (.int .u64 x.ev) ∧ w'.cell? ⟨g1, 12, none⟩ = some (.int .u64 x.ju) ∧ w'.cell? ⟨g2, 0, none⟩ = some (.int .i64 y.own) ∧ w'.cell? ⟨g2, 1, none⟩ = some (.int .i64 y.a) ∧ w'.cell? ⟨g2, 2, none⟩ = some (.int .i64 y.oc) ∧ w'.cell? ⟨g2, 3, none⟩ = some (.int .u64 y.ep) ∧ w'.cell? ⟨g2, 4, none⟩ = some (.int .i64 y.th) ∧ w'.cell? ⟨g2, 5, none⟩ = some (.int .u64 y.wd) ∧ w'.cell? ⟨g2, 6, none⟩ = some (.slice y.A y.L.length y.cap) ∧ w'.cell? ⟨g2, 7, none⟩ = some (.int .i64 y.ju) ∧ KY w g0 a0_0 a0_1 a0_2 a0_3 a0_4 g1 x g2 y w') _ := ⟨KC.out.b0, KC.out.b1, KC.out.b2, KC.out.b3, KC.out.b4, KC.out.c0, KC.out.c1, KC.out.c2, KC.out.c3, KC.out.c4, KC.out.c5, KC.out.c6, KC.out.c7, KC.out.c8, KC.out.c9, KC.out.c10, KC.out.c11, KC.out.c12, KC.out.d0, KC.out.d1, KC.out.d2, KC.out.d3, KC.out.d4, KC.out.d5, KC.out.d6, KC.out.d7, KC.out⟩; clear hn)
              | (go_at_call 13; refine (EP.out _).mono ?_; rintro e0 vc ⟨rfl, hn⟩; have KD := Lib.hid (KC.out.next hn); have hs : (fun w' : World => w'.cell? ⟨g0, 0, none⟩ = some (.int .i64 a0_0) ∧ w'.cell? ⟨g0, 1, none⟩ = some (.int .i64 a0_1) ∧ w'.cell? ⟨g0, 2, none⟩ = some (.int .i64 a0_2) ∧ w'.cell? ⟨g0, 3, none⟩ = some (.int .i64 a0_3) ∧ w'.cell? ⟨g0, 4, none⟩ = some (.int .i64 a0_4) ∧ w'.cell? ⟨g1, 0, none⟩ = some (.int .i64 x.s) ∧ w'.cell? ⟨g1, 1, none⟩ = some (.int .i64 x.t) ∧ w'.cell? ⟨g1, 2, none⟩ = some (.int .i64 x.f) ∧ w'.cell? ⟨g1, 3, none⟩ = some (.int .i64 x.l) ∧ w'.cell? ⟨g1, 4, none⟩ = some (.int .i64 x.p) ∧ w'.cell? ⟨g1, 5, none⟩ = some (.int .i64 x.th) ∧ w'.cell? ⟨g1, 6, none⟩ = some (.int .i64 x.st) ∧ w'.cell? ⟨g1, 7, none⟩ = some (.int .i64 x.oc) ∧ w'.cell? ⟨g1, 8, none⟩ = some (.int .u64 x.ep) ∧ w'.cell? ⟨g1, 9, none⟩ = some (.int .i64 x.ot) ∧ w'.cell? ⟨g1, 10, none⟩ = some (.int .u64 x.wd) ∧ w'.cell? ⟨g1, 11, none⟩ = some (.int .u64 x.ev) ∧ w'.cell? ⟨g1, 12, none⟩ = some (.int .u64 x.ju) ∧ w'.cell? ⟨g2, 0, none⟩ = some (.int .i64 y.own) ∧ w'.cell? ⟨g2, 1, none⟩ = some (.int .i64 y.a) ∧ w'.cell? ⟨g2, 2, none⟩ = some (.int .i64 y.oc) ∧ w'.cell? ⟨g2, 3, none⟩ = some (.int .u64 y.ep) ∧ w'.cell? ⟨g2, 4, none⟩ = some (.int .i64 y.th) ∧ w'.cell? ⟨g2, 5, none⟩ = some (.int .u64 y.wd) ∧ w'.cell? ⟨g2, 6, none⟩ = some (.slice y.A y.L.length y.cap) ∧ w'.cell? ⟨g2, 7, none⟩ = some (.int .i64 y.ju) ∧ KY w g0 a0_0 a0_1 a0_2 a0_3 a0_4 g1 x g2 y w') _ := ⟨KD.out.b0, KD.out.b1, KD.out.b2, KD.out.b3, KD.out.b4, KD.out.c0, KD.out.c1, KD.out.c2, KD.out.c3, KD.out.c4, KD.out.c5, KD.out.c6, KD.out.c7, KD.out.c8, KD.out.c9, KD.out.c10, KD.out.c11, KD.out.c12, KD.out.d0, KD.out.d1, KD.out.d2, KD.out.d3, KD.out.d4, KD.out.d5, KD.out.d6, KD.out.d7, KD.out⟩; clear hn)
              | (go_at_call 14; refine (JU.out _).mono ?_; rintro e0 vd ⟨rfl, hn⟩; have KE := Lib.hid (KD.out.next hn); have hs : (fun w' : World => w'.cell? ⟨g0, 0, none⟩ = some (.int .i64 a0_0) ∧ w'.cell? ⟨g0, 1, none⟩ = some (.int .i64 a0_1) ∧ w'.cell? ⟨g0, 2, none⟩ = some (.int .i64 a0_2) ∧ w'.cell? ⟨g0, 3, none⟩ = some (.int .i64 a0_3) ∧ w'.cell? ⟨g0, 4, none⟩ = some (.int .i64 a0_4) ∧ w'.cell? ⟨g1, 0, none⟩ = some (.int .i64 x.s) ∧ w'.cell? ⟨g1, 1, none⟩ = some (.int .i64 x.t) ∧ w'.cell? ⟨g1, 2, none⟩ = some (.int .i64 x.f) ∧ w'.cell? ⟨g1, 3, none⟩ = some (.int .i64 x.l) ∧ w'.cell? ⟨g1, 4, none⟩ = some (.int .i64 x.p) ∧ w'.cell? ⟨g1, 5, none⟩ = some (.int .i64 x.th) ∧ w'.cell? ⟨g1, 6, none⟩ = some (.int .i64 x.st) ∧ w'.cell? ⟨g1, 7, none⟩ = some (.int .i64 x.oc) ∧ w'.cell? ⟨g1, 8, none⟩ = some (.int .u64 x.ep) ∧ w'.cell? ⟨g1, 9, none⟩ = some (.int .i64 x.ot) ∧ w'.cell? ⟨g1, 10, none⟩ = some (.int .u64 x.wd) ∧ w'.cell? ⟨g1, 11, none⟩ = some (.int .u64 x.ev) ∧ w'.cell? ⟨g1, 12, none⟩ = some (.int .u64 x.ju) ∧ w'.cell? ⟨g2, 0, none⟩ = some (.int .i64 y.own) ∧ w'.cell? ⟨g2, 1, none⟩ = some (.int .i64 y.a) ∧ w'.cell? ⟨g2, 2, none⟩ = some (.int .i64 y.oc) ∧ w'.cell? ⟨g2, 3, none⟩ = some (.int .u64 y.ep) ∧ w'.cell? ⟨g2, 4, none⟩ = some (.int .i64 y.th) ∧ w'.cell? ⟨g2, 5, none⟩ = some (.int .u64 y.wd) ∧ w'.cell? ⟨g2, 6, none⟩ = some (.slice y.A y.L.length y.cap) ∧ w'.cell? ⟨g2, 7, none⟩ = some (.int .i64 y.ju) ∧ KY w g0 a0_0 a0_1 a0_2 a0_3 a0_4 g1 x g2 y w') _ := ⟨KE.out.b0, KE.out.b1, KE.out.b2, KE.out.b3, KE.out.b4, KE.out.c0, KE.out.c1, KE.out.c2, KE.out.c3, KE.out.c4, KE.out.c5, KE.out.c6, KE.out.c7, KE.out.c8, KE.out.c9, KE.out.c10, KE.out.c11, KE.out.c12, KE.out.d0, KE.out.d1, KE.out.d2, KE.out.d3, KE.out.d4, KE.out.d5, KE.out.d6, KE.out.d7, KE.out⟩; clear hn)
              | (go_at_call 16; refine (EV.out.2 _).mono ?_; rintro e0 ve ⟨A5, c5, rfl, hri, hn⟩; have HRI := Lib.hid hri; have KF := Lib.hid (KE.out.next hn); have hs : (fun w' : World => w'.cell? ⟨g0, 0, none⟩ = some (.int .i64 a0_0) ∧ w'.cell? ⟨g0, 1, none⟩ = some (.int .i64 a0_1) ∧ w'.cell? ⟨g0, 2, none⟩ = some (.int .i64 a0_2) ∧ w'.cell? ⟨g0, 3, none⟩ = some (.int .i64 a0_3) ∧ w'.cell? ⟨g0, 4, none⟩ = some (.int .i64 a0_4) ∧ w'.cell? ⟨g1, 0, none⟩ = some (.int .i64 x.s) ∧ w'.cell? ⟨g1, 1, none⟩ = some (.int .i64 x.t) ∧ w'.cell? ⟨g1, 2, none⟩ = some (.int .i64 x.f) ∧ w'.cell? ⟨g1, 3, none⟩ = some (.int .i64 x.l) ∧ w'.cell? ⟨g1, 4, none⟩ = some (.int .i64 x.p) ∧ w'.cell? ⟨g1, 5, none⟩ = some (.int .i64 x.th) ∧ w'.cell? ⟨g1, 6, none⟩ = some (.int .i64 x.st) ∧ w'.cell? ⟨g1, 7, none⟩ = some (.int .i64 x.oc) ∧ w'.cell? ⟨g1, 8, none⟩ = some (.int .u64 x.ep) ∧ w'.cell? ⟨g1, 9, none⟩ = some (.int .i64 x.ot) ∧ w'.cell? ⟨g1, 10, none⟩ = some (.int .u64 x.wd) ∧ w'.cell? ⟨g1, 11, none⟩ = some (.int .u64 x.ev) ∧ w'.cell? ⟨g1, 12, none⟩ = some (.int .u64 x.ju) ∧ w'.cell? ⟨g2, 0, none⟩ = some (.int .i64 y.own) ∧ w'.cell? ⟨g2, 1, none⟩ = some (.int .i64 y.a) ∧ w'.cell? ⟨g2, 2, none⟩ = some (.int .i64 y.oc) ∧ w'.cell? ⟨g2, 3, none⟩ = some (.int .u64 y.ep) ∧ w'.cell? ⟨g2, 4, none⟩ = some (.int .i64 y.th) ∧ w'.cell? ⟨g2, 5, none⟩ = some (.int .u64 y.wd) ∧ w'.cell? ⟨g2, 6, none⟩ = some (.slice y.A y.L.length y.cap) ∧ w'.cell? ⟨g2, 7, none⟩ = some (.int .i64 y.ju) ∧ KY w g0 a0_0 a0_1 a0_2 a0_3 a0_4 g1 x g2 y w') _ := ⟨KF.out.b0, KF.out.b1, KF.out.b2, KF.out.b3, KF.out.b4, KF.out.c0, KF.out.c1, KF.out.c2, KF.out.c3, KF.out.c4, KF.out.c5, KF.out.c6, KF.out.c7, KF.out.c8, KF.out.c9, KF.out.c10, KF.out.c11, KF.out.c12, KF.out.d0, KF.out.d1, KF.out.d2, KF.out.d3, KF.out.d4, KF.out.d5, KF.out.d6, KF.out.d7, KF.out⟩; clear hn hri)
              | (go_at_call 15; refine (ints_any y.L (by have := EV.out.1; omega) A5 y.A c5 y.cap _ HRI.out (RI.of_own KF.out.ro)).mono ?_; rintro e0 vf ⟨rfl, hn⟩; have KG := Lib.hid (KF.out.next hn); have hs : (fun w' : World => w'.cell? ⟨g0, 0, none⟩ = some (.int .i64 a0_0) ∧ w'.cell? ⟨g0, 1, none⟩ = some (.int .i64 a0_1) ∧ w'.cell? ⟨g0, 2, none⟩ = some (.int .i64 a0_2) ∧ w'.cell? ⟨g0, 3, none⟩ = some (.int .i64 a0_3) ∧ w'.cell? ⟨g0, 4, none⟩ = some (.int .i64 a0_4) ∧ w'.cell? ⟨g1, 0, none⟩ = some (.int .i64 x.s) ∧ w'.cell? ⟨g1, 1, none⟩ = some (.int .i64 x.t) ∧ w'.cell? ⟨g1, 2, none⟩ = some (.int .i64 x.f) ∧ w'.cell? ⟨g1, 3, none⟩ = some (.int .i64 x.l) ∧ w'.cell? ⟨g1, 4, none⟩ = some (.int .i64 x.p) ∧ w'.cell? ⟨g1, 5, none⟩ = some (.int .i64 x.th) ∧ w'.cell? ⟨g1, 6, none⟩ = some (.int .i64 x.st) ∧ w'.cell? ⟨g1, 7, none⟩ = some (.int .i64 x.oc) ∧ w'.cell? ⟨g1, 8, none⟩ = some (.int .u64 x.ep) ∧ w'.cell? ⟨g1, 9, none⟩ = some (.int .i64 x.ot) ∧ w'.cell? ⟨g1, 10, none⟩ = some (.int .u64 x.wd) ∧ w'.cell? ⟨g1, 11, none⟩ = some (.int .u64 x.ev) ∧ w'.cell? ⟨g1, 12, none⟩ = some (.int .u64 x.ju) ∧ w'.cell? ⟨g2, 0, none⟩ = some (.int .i64 y.own) ∧ w'.cell? ⟨g2, 1, none⟩ = some (.int .i64 y.a) ∧ w'.cell? ⟨g2, 2, none⟩ = some (.int .i64 y.oc) ∧ w'.cell? ⟨g2, 3, none⟩ = some (.int .u64 y.ep) ∧ w'.cell? ⟨g2, 4, none⟩ = some (.int .i64 y.th) ∧ w'.cell? ⟨g2, 5, none⟩ = some (.int .u64 y.wd) ∧ w'.cell? ⟨g2, 6, none⟩ = some (.slice y.A y.L.length y.cap) ∧ w'.cell? ⟨g2, 7, none⟩ = some (.int .i64 y.ju) ∧ KY w g0 a0_0 a0_1 a0_2 a0_3 a0_4 g1 x g2 y w') _ := ⟨KG.out.b0, KG.out.b1, KG.out.b2, KG.out.b3, KG.out.b4, KG.out.c0, KG.out.c1, KG.out.c2, KG.out.c3, KG.out.c4, KG.out.c5, KG.out.c6, KG.out.c7, KG.out.c8, KG.out.c9, KG.out.c10, KG.out.c11, KG.out.c12, KG.out.d0, KG.out.d1, KG.out.d2, KG.out.d3, KG.out.d4, KG.out.d5, KG.out.d6, KG.out.d7, KG.out⟩; clear hn)
              | fail)
            all_goals (
              clear hs
              have HS2 := Lib.hid KG.out
              clear KA KB KC KD KE KF KG HRI
              go_wp2
              have HX2 := Lib.hid (KYX.mk' (a := ⟨b2, off2 + j, none⟩) HS2.out hbl HX.out)
              clear HS2
              refine wp_region_class_tail (C := KYX w g0 a0_0 a0_1 a0_2 a0_3 a0_4 g1 x g2 y ⟨b2, off2 + j, none⟩ (.int .u64 n)) 6 (by kernel_rfl) (by kernel_rfl) (HX2.out) ?_
              simp only [List.take_succ_cons, List.take_zero, List.drop_succ_cons, List.drop_zero]
              repeat (first
                | go_big_quiet_skip
                | (go_big_quiet_want; go_big_quiet_op; go_big_quiet_on)
                | (go_big_quiet_want; go_big_quiet_op; refine ⟨_, fun _ _ => rfl, ?_⟩; go_big_quiet_on)
                | (go_big_quiet_want
                   apply quiet_mk
                   · intro u hu
                     have c0 := hu.c0; have c1 := hu.c1; have c2 := hu.c2; have c3 := hu.c3; have c4 := hu.c4; have c5 := hu.c5; have c6 := hu.c6; have c7 := hu.c7; have c8 := hu.c8; have c9 := hu.c9; have c10 := hu.c10; have c11 := hu.c11; have c12 := hu.c12; have xc := hu.xc
                     have HU := Lib.hid hu
                     clear hu
                     go_simp
                     first
                       | with_reducible rfl
                       | (go_at_call 17; refine (T.out _).mono ?_; rintro e w' ⟨rfl, hn⟩; exact ⟨rfl, HU.out.next hn⟩)
                   simp only [Act.put, List.setIfInBounds_toArray, List.set_cons_zero, List.set_cons_succ]
                   go_big_quiet_on))
              refine wpQuiet_nil ?_
              intro u hu
              have hr2 := hu.toKY.store1 x1
              have fz := hu.e.fz
              have c0 := hu.c0
              have c1 := hu.c1
              have c2 := hu.c2
              have c3 := hu.c3
              have c4 := hu.c4
              have c5 := hu.c5
              have c6 := hu.c6
              have c7 := hu.c7
              have c8 := hu.c8
              have c9 := hu.c9
              have c10 := hu.c10
              have c11 := hu.c11
              have c12 := hu.c12
              have HR2 := Lib.hid hr2
              clear hu hr2 HX2
              go_wp2
              obtain ⟨wy, hwy, hky⟩ := HR2.out.name
              refine wp_at hwy ?_
              clear HR2 hwy fz c0 c1 c2 c3 c4 c5 c6 c7 c8 c9 c10 c11 c12
              have HKY := Lib.hid hky
              have xc : wy.cell? ⟨b2, off2 + j, none⟩ = some (.int .u64 n) := (hky.k.bl.cell (p := ⟨b2, off2 + j, none⟩) hbl).trans HX.out
              have b0 := hky.b0
              have b1 := hky.b1
              have b2 := hky.b2
              have b3 := hky.b3
              have b4 := hky.b4
              have d0 := hky.d0
              have d1 := hky.d1
              have d2 := hky.d2
              have d3 := hky.d3
              have d4 := hky.d4
              have d5 := hky.d5
              have d6 := hky.d6
              have d7 := hky.d7
              clear hky
              go_region_with (go_at_call 18; refine (RT.out w.heap.size _ (by have := HKY.out.k.le; simpa using this) (by first | exact HKY.out.ro | exact HKY.out.drew.ro | exact HKY.out.drew.drew.ro)).mono ?_; rintro e u5 ⟨y1, rfl, hrel1, hro1, hn⟩; have HREL1 := Lib.hid hrel1; have K6 := Lib.hid (KY.next (by first | exact HKY.out.drew | exact HKY.out.drew.drew | exact HKY.out) hn); have RO1 := Lib.hid hro1; clear hn hrel1 hro1 xc b0 b1 b2 b3 b4 d0 d1 d2 d3 d4 d5 d6 d7; have d0 := K6.out.d0; have d1 := K6.out.d1; have d2 := K6.out.d2; have d3 := K6.out.d3; have d4 := K6.out.d4; have d5 := K6.out.d5; have d6 := K6.out.d6; have d7 := K6.out.d7; have fz := K6.out.r.fz)
              all_goals (
                have HR3 := Lib.hid (K6.out.store2 y1 RO1.out)
                clear K6 HKY
                go_wp2
                go_roundg (len2 + 1 - (j + 1))
                case rel => exact ⟨j + 1, x1, y1, by omega, rfl, by go_num, HREL1.out, HR3.out⟩
                case measure => omega))
        · obtain rfl : j = len2 := by omega
          by_cases ha : y.a = 0
          · have D := Lib.hid (hD0 ha)
            have h0 : (y.a == 0) = true := by simp [ha]
            clear ha hD0 hD1
            have c0 := HS.out.c0
            have c1 := HS.out.c1
            have c2 := HS.out.c2
            have c3 := HS.out.c3
            have c4 := HS.out.c4
            have c5 := HS.out.c5
            have c6 := HS.out.c6
            have c7 := HS.out.c7
            have c8 := HS.out.c8
            have c9 := HS.out.c9
            have c10 := HS.out.c10
            have c11 := HS.out.c11
            have c12 := HS.out.c12
            go_wp2_with (go_at_call 10; refine (D.out _).mono ?_; rintro e v1 ⟨rfl, hn⟩; have HS1 := Lib.hid (HS.out.next hn); clear hn c0 c1 c2 c3 c4 c5 c6 c7 c8 c9 c10 c11 c12; have d1 := HS1.out.d1; have d2 := HS1.out.d2)
            have KA := Lib.hid HS1.out.drew
            clear HS HS1 d1 d2
            have hs : (fun w' : World => w'.cell? ⟨g0, 0, none⟩ = some (.int .i64 a0_0) ∧ w'.cell? ⟨g0, 1, none⟩ = some (.int .i64 a0_1) ∧ w'.cell? ⟨g0, 2, none⟩ = some (.int .i64 a0_2) ∧ w'.cell? ⟨g0, 3, none⟩ = some (.int .i64 a0_3) ∧ w'.cell? ⟨g0, 4, none⟩ = some (.int .i64 a0_4) ∧ w'.cell? ⟨g1, 0, none⟩ = some (.int .i64 x.s) ∧ w'.cell? ⟨g1, 1, none⟩ = some (.int .i64 x.t) ∧ w'.cell? ⟨g1, 2, none⟩ = some (.int .i64 x.f) ∧ w'.cell? ⟨g1, 3, none⟩ = some (.int .i64 x.l) ∧ w'.cell? ⟨g1, 4, none⟩ = some (.int .i64 x.p) ∧ w'.cell? ⟨g1, 5, none⟩ = some (.int .i64 x.th) ∧ w'.cell? ⟨g1, 6, none⟩ = some (.int .i64 x.st) ∧ w'.cell? ⟨g1, 7, none⟩ = some (.int .i64 x.oc) ∧ w'.cell? ⟨g1, 8, none⟩ = some (.int .u64 x.ep) ∧ w'.cell? ⟨g1, 9, none⟩ = some (.int .i64 x.ot) ∧ w'.cell? ⟨g1, 10, none⟩ = some (.int .u64 x.wd) ∧ w'.cell? ⟨g1, 11, none⟩ = some (.int .u64 x.ev) ∧ w'.cell? ⟨g1, 12, none⟩ = some (.int .u64 x.ju) ∧ w'.cell? ⟨g2, 0, none⟩ = some (.int .i64 y.own) ∧ w'.cell? ⟨g2, 1, none⟩ = some (.int .i64 y.a) ∧ w'.cell? ⟨g2, 2, none⟩ = some (.int .i64 y.oc) ∧ w'.cell? ⟨g2, 3, none⟩ = some (.int .u64 y.ep) ∧ w'.cell? ⟨g2, 4, none⟩ = some (.int .i64 y.th) ∧ w'.cell? ⟨g2, 5, none⟩ = some (.int .u64 y.wd) ∧ w'.cell? ⟨g2, 6, none⟩ = some (.slice y.A y.L.length y.cap) ∧ w'.cell? ⟨g2, 7, none⟩ = some (.int .i64 y.ju) ∧ KY w g0 a0_0 a0_1 a0_2 a0_3 a0_4 g1 x g2 y w') _ := ⟨KA.out.b0, KA.out.b1, KA.out.b2, KA.out.b3, KA.out.b4, KA.out.c0, KA.out.c1, KA.out.c2, KA.out.c3, KA.out.c4, KA.out.c5, KA.out.c6, KA.out.c7, KA.out.c8, KA.out.c9, KA.out.c10, KA.out.c11, KA.out.c12, KA.out.d0, KA.out.d1, KA.out.d2, KA.out.d3, KA.out.d4, KA.out.d5, KA.out.d6, KA.out.d7, KA.out⟩
            go_region_held3 (fun w' : World => w'.cell? ⟨g0, 0, none⟩ = some (.int .i64 a0_0) ∧ w'.cell? ⟨g0, 1, none⟩ = some (.int .i64 a0_1) ∧ w'.cell? ⟨g0, 2, none⟩ = some (.int .i64 a0_2) ∧ w'.cell? ⟨g0, 3, none⟩ = some (.int .i64 a0_3) ∧ w'.cell? ⟨g0, 4, none⟩ = some (.int .i64 a0_4) ∧ w'.cell? ⟨g1, 0, none⟩ = some (.int .i64 x.s) ∧ w'.cell? ⟨g1, 1, none⟩ = some (.int .i64 x.t) ∧ w'.cell? ⟨g1, 2, none⟩ = some (.int .i64 x.f) ∧ w'.cell? ⟨g1, 3, none⟩ = some (.int .i64 x.l) ∧ w'.cell? ⟨g1, 4, none⟩ = some (.int .i64 x.p) ∧ w'.cell? ⟨g1, 5, none⟩ = some (.int .i64 x.th) ∧ w'.cell? ⟨g1, 6, none⟩ = some (.int .i64 x.st) ∧ w'.cell? ⟨g1, 7, none⟩ = some (.int .i64 x.oc) ∧ w'.cell? ⟨g1, 8, none⟩ = some (.int .u64 x.ep) ∧ w'.cell? ⟨g1, 9, none⟩ = some (.int .i64 x.ot) ∧ w'.cell? ⟨g1, 10, none⟩ = some (.int .u64 x.wd) ∧ w'.cell? ⟨g1, 11, none⟩ = some (.int .u64 x.ev) ∧ w'.cell? ⟨g1, 12, none⟩ = some (.int .u64 x.ju) ∧ w'.cell? ⟨g2, 0, none⟩ = some (.int .i64 y.own) ∧ w'.cell? ⟨g2, 1, none⟩ = some (.int .i64 y.a) ∧ w'.cell? ⟨g2, 2, none⟩ = some (.int .i64 y.oc) ∧ w'.cell? ⟨g2, 3, none⟩ = some (.int .u64 y.ep) ∧ w'.cell? ⟨g2, 4, none⟩ = some (.int .i64 y.th) ∧ w'.cell? ⟨g2, 5, none⟩ = some (.int .u64 y.wd) ∧ w'.cell? ⟨g2, 6, none⟩ = some (.slice y.A y.L.length y.cap) ∧ w'.cell? ⟨g2, 7, none⟩ = some (.int .i64 y.ju) ∧ KY w g0 a0_0 a0_1 a0_2 a0_3 a0_4 g1 x g2 y w') (first | with_reducible exact hs | exact hs)
              (first
              | (go_at_call 11; refine (Q.out _).mono ?_; rintro e0 va ⟨rfl, hn⟩; have KB := Lib.hid (KA.out.next hn); have hs : (fun w' : World => w'.cell? ⟨g0, 0, none⟩ = some (.int .i64 a0_0) ∧ w'.cell? ⟨g0, 1, none⟩ = some (.int .i64 a0_1) ∧ w'.cell? ⟨g0, 2, none⟩ = some (.int .i64 a0_2) ∧ w'.cell? ⟨g0, 3, none⟩ = some (.int .i64 a0_3) ∧ w'.cell? ⟨g0, 4, none⟩ = some (.int .i64 a0_4) ∧ w'.cell? ⟨g1, 0, none⟩ = some (.int .i64 x.s) ∧ w'.cell? ⟨g1, 1, none⟩ = some (.int .i64 x.t) ∧ w'.cell? ⟨g1, 2, none⟩ = some (.int .i64 x.f) ∧ w'.cell? ⟨g1, 3, none⟩ = some (.int .i64 x.l) ∧ w'.cell? ⟨g1, 4, none⟩ = some (.int .i64 x.p) ∧ w'.cell? ⟨g1, 5, none⟩ = some (.int .i64 x.th) ∧ w'.cell? ⟨g1, 6, none⟩ = some (.int .i64 x.st) ∧ w'.cell? ⟨g1, 7, none⟩ = some (.int .i64 x.oc) ∧ w'.cell? ⟨g1, 8, none⟩ = some (.int .u64 x.ep) ∧ w'.cell? ⟨g1, 9, none⟩ = some (.int .i64 x.ot) ∧ w'.cell? ⟨g1, 10, none⟩ = some (.int .u64 x.wd) ∧ w'.cell? ⟨g1, 11, none⟩ = some (.int .u64 x.ev) ∧ w'.cell? ⟨g1, 12, none⟩ = some (.int .u64 x.ju) ∧ w'.cell? ⟨g2, 0, none⟩ = some (.int .i64 y.own) ∧ w'.cell? ⟨g2, 1, none⟩ = some (.int .i64 y.a) ∧ w'.cell? ⟨g2, 2, none⟩ = some (.int .i64 y.oc) ∧ w'.cell? ⟨g2, 3, none⟩ = some (.int .u64 y.ep) ∧ w'.cell? ⟨g2, 4, none⟩ = some (.int .i64 y.th) ∧ w'.cell? ⟨g2, 5, none⟩ = some (.int .u64 y.wd) ∧ w'.cell? ⟨g2, 6, none⟩ = some (.slice y.A y.L.length y.cap) ∧ w'.cell? ⟨g2, 7, none⟩ = some (.int .i64 y.ju) ∧ KY w g0 a0_0 a0_1 a0_2 a0_3 a0_4 g1 x g2 y w') _ := ⟨KB.out.b0, KB.out.b1, KB.out.b2, KB.out.b3, KB.out.b4, KB.out.c0, KB.out.c1, KB.out.c2, KB.out.c3, KB.out.c4, KB.out.c5, KB.out.c6, KB.out.c7, KB.out.c8, KB.out.c9, KB.out.c10, KB.out.c11, KB.out.c12, KB.out.d0, KB.out.d1, KB.out.d2, KB.out.d3, KB.out.d4, KB.out.d5, KB.out.d6, KB.out.d7, KB.out⟩; clear hn)
              | (go_at_call 12; refine (RQ.out _).mono ?_; rintro e0 vb ⟨rfl, hn⟩; have KC := Lib.hid (KB.out.next hn); have hs : (fun w' : World => w'.cell? ⟨g0, 0, none⟩ = some (.int .i64 a0_0) ∧ w'.cell? ⟨g0, 1, none⟩ = some (.int .i64 a0_1) ∧ w'.cell? ⟨g0, 2, none⟩ = some (.int .i64 a0_2) ∧ w'.cell? ⟨g0, 3, none⟩ = some (.int .i64 a0_3) ∧ w'.cell? ⟨g0, 4, none⟩ = some (.int .i64 a0_4) ∧ w'.cell? ⟨g1, 0, none⟩ = some (.int .i64 x.s) ∧ w'.cell? ⟨g1, 1, none⟩ = some (.int .i64 x.t) ∧ w'.cell? ⟨g1, 2, none⟩ = some (.int .i64 x.f) ∧ w'.cell? ⟨g1, 3, none⟩ = some (.int .i64 x.l) ∧ w'.cell? ⟨g1, 4, none⟩ = some (.int .i64 x.p) ∧ w'.cell? ⟨g1, 5, none⟩ = some (.int .i64 x.th) ∧ w'.cell? ⟨g1, 6, none⟩ = some (.int .i64 x.st) ∧ w'.cell? ⟨g1, 7, none⟩ = some (.int .i64 x.oc) ∧ w'.cell? ⟨g1, 8, none⟩ = some (.int .u64 x.ep) ∧ w'.cell? ⟨g1, 9, none⟩ = some (.int .i64 x.ot) ∧ w'.cell? ⟨g1, 10, none⟩ = some (.int .u64 x.wd) ∧ w'.cell? ⟨g1, 11, none⟩ = some (.int .u64 x.ev) ∧ w'.cell? ⟨g1, 12, none⟩ = some (.int .u64 x.ju) ∧ w'.cell? ⟨g2, 0, none⟩ = some (.int .i64 y.own) ∧ w'.cell? ⟨g2, 1, none⟩ = some (.int .i64 y.a) ∧ w'.cell? ⟨g2, 2, none⟩ = some (.int .i64 y.oc) ∧ w'.cell? ⟨g2, 3, none⟩ = some (.int .u64 y.ep) ∧ w'.cell? ⟨g2, 4, none⟩ = some (.int .i64 y.th) ∧ w'.cell? ⟨g2, 5, none⟩ = some (.int .u64 y.wd) ∧ w'.cell? ⟨g2, 6, none⟩ = some (.slice y.A y.L.length y.cap) ∧ w'.cell? ⟨g2, 7, none⟩ = some (.int .i64 y.ju) ∧ KY w g0 a0_0 a0_1 a0_2 a0_3 a0_4 g1 x g2 y w') _ := ⟨KC.out.b0, KC.out.b1, KC.out.b2, KC.out.b3, KC.out.b4, KC.out.c0, KC.out.c1, KC.out.c2, KC.out.c3, KC.out.c4, KC.out.c5, KC.out.c6, KC.out.c7, KC.out.c8, KC.out.c9, KC.out.c10, KC.out.c11, KC.out.c12, KC.out.d0, KC.out.d1, KC.out.d2, KC.out.d3, KC.out.d4, KC.out.d5, KC.out.d6, KC.out.d7, KC.out⟩; clear hn)
              | (go_at_call 13; refine (EP.out _).mono ?_; rintro e0 vc ⟨rfl, hn⟩; have KD := Lib.hid (KC.out.next hn); have hs : (fun w' : World => w'.cell? ⟨g0, 0, none⟩ = some (.int .i64 a0_0) ∧ w'.cell? ⟨g0, 1, none⟩ = some (.int .i64 a0_1) ∧ w'.cell? ⟨g0, 2, none⟩ = some (.int .i64 a0_2) ∧ w'.cell? ⟨g0, 3, none⟩ = some (.int .i64 a0_3) ∧ w'.cell? ⟨g0, 4, none⟩ = some (.int .i64 a0_4) ∧ w'.cell? ⟨g1, 0, none⟩ = some (.int .i64 x.s) ∧ w'.cell? ⟨g1, 1, none⟩ = some (.int .i64 x.t) ∧ w'.cell? ⟨g1, 2, none⟩ = some (.int .i64 x.f) ∧ w'.cell? ⟨g1, 3, none⟩ = some (.int .i64 x.l) ∧ w'.cell? ⟨g1, 4, none⟩ = some (.int .i64 x.p) ∧ w'.cell? ⟨g1, 5, none⟩ = some (.int .i64 x.th) ∧ w'.cell? ⟨g1, 6, none⟩ = some (.int .i64 x.st) ∧ w'.cell? ⟨g1, 7, none⟩ = some (.int .i64 x.oc) ∧ w'.cell? ⟨g1, 8, none⟩ = some (.int .u64 x.ep) ∧ w'.cell? ⟨g1, 9, none⟩ = some (.int .i64 x.ot) ∧ w'.cell? ⟨g1, 10, none⟩ = some (.int .u64 x.wd) ∧ w'.cell? ⟨g1, 11, none⟩ = some (.int .u64 x.ev) ∧ w'.cell? ⟨g1, 12, none⟩ = some (.int .u64 x.ju) ∧ w'.cell? ⟨g2, 0, none⟩ = some (.int .i64 y.own) ∧ w'.cell? ⟨g2, 1, none⟩ = some (.int .i64 y.a) ∧ w'.cell? ⟨g2, 2, none⟩ = some (.int .i64 y.oc) ∧ w'.cell? ⟨g2, 3, none⟩ = some (.int .u64 y.ep) ∧ w'.cell? ⟨g2, 4, none⟩ = some (.int .i64 y.th) ∧ w'.cell? ⟨g2, 5, none⟩ = some (.int .u64 y.wd) ∧ w'.cell? ⟨g2, 6, none⟩ = some (.slice y.A y.L.length y.cap) ∧ w'.cell? ⟨g2, 7, none⟩ = some (.int .i64 y.ju) ∧ KY w g0 a0_0 a0_1 a0_2 a0_3 a0_4 g1 x g2 y w') _ := ⟨KD.out.b0, KD.out.b1, KD.out.b2, KD.out.b3, KD.out.b4, KD.out.c0, KD.out.c1, KD.out.c2, KD.out.c3, KD.out.c4, KD.out.c5, KD.out.c6, KD.out.c7, KD.out.c8, KD.out.c9, KD.out.c10, KD.out.c11, KD.out.c12, KD.out.d0, KD.out.d1, KD.out.d2, KD.out.d3, KD.out.d4, KD.out.d5, KD.out.d6, KD.out.d7, KD.out⟩; clear hn)
              | (go_at_call 14; refine (JU.out _).mono ?_; rintro e0 vd ⟨rfl, hn⟩; have KE := Lib.hid (KD.out.next hn); have hs : (fun w' : World => w'.cell? ⟨g0, 0, none⟩ = some (.int .i64 a0_0) ∧ w'.cell? ⟨g0, 1, none⟩ = some (.int .i64 a0_1) ∧ w'.cell? ⟨g0, 2, none⟩ = some (.int .i64 a0_2) ∧ w'.cell? ⟨g0, 3, none⟩ = some (.int .i64 a0_3) ∧ w'.cell? ⟨g0, 4, none⟩ = some (.int .i64 a0_4) ∧ w'.cell? ⟨g1, 0, none⟩ = some (.int .i64 x.s) ∧ w'.cell? ⟨g1, 1, none⟩ = some (.int .i64 x.t) ∧ w'.cell? ⟨g1, 2, none⟩ = some (.int .i64 x.f) ∧ w'.cell? ⟨g1, 3, none⟩ = some (.int .i64 x.l) ∧ w'.cell? ⟨g1, 4, none⟩ = some (.int .i64 x.p) ∧ w'.cell? ⟨g1, 5, none⟩ = some (.int .i64 x.th) ∧ w'.cell? ⟨g1, 6, none⟩ = some (.int .i64 x.st) ∧ w'.cell? ⟨g1, 7, none⟩ = some (.int .i64 x.oc) ∧ w'.cell? ⟨g1, 8, none⟩ = some (.int .u64 x.ep) ∧ w'.cell? ⟨g1, 9, none⟩ = some (.int .i64 x.ot) ∧ w'.cell? ⟨g1, 10, none⟩ = some (.int .u64 x.wd) ∧ w'.cell? ⟨g1, 11, none⟩ = some (.int .u64 x.ev) ∧ w'.cell? ⟨g1, 12, none⟩ = some (.int .u64 x.ju) ∧ w'.cell? ⟨g2, 0, none⟩ = some (.int .i64 y.own) ∧ w'.cell? ⟨g2, 1, none⟩ = some (.int .i64 y.a) ∧ w'.cell? ⟨g2, 2, none⟩ = some (.int .i64 y.oc) ∧ w'.cell? ⟨g2, 3, none⟩ = some (.int .u64 y.ep) ∧ w'.cell? ⟨g2, 4, none⟩ = some (.int .i64 y.th) ∧ w'.cell? ⟨g2, 5, none⟩ = some (.int .u64 y.wd) ∧ w'.cell? ⟨g2, 6, none⟩ = some (.slice y.A y.L.length y.cap) ∧ w'.cell? ⟨g2, 7, none⟩ = some (.int .i64 y.ju) ∧ KY w g0 a0_0 a0_1 a0_2 a0_3 a0_4 g1 x g2 y w') _ := ⟨KE.out.b0, KE.out.b1, KE.out.b2, KE.out.b3, KE.out.b4, KE.out.c0, KE.out.c1, KE.out.c2, KE.out.c3, KE.out.c4, KE.out.c5, KE.out.c6, KE.out.c7, KE.out.c8, KE.out.c9, KE.out.c10, KE.out.c11, KE.out.c12, KE.out.d0, KE.out.d1, KE.out.d2, KE.out.d3, KE.out.d4, KE.out.d5, KE.out.d6, KE.out.d7, KE.out⟩; clear hn)
              | (go_at_call 16; refine (EV.out.2 _).mono ?_; rintro e0 ve ⟨A5, c5, rfl, hri, hn⟩; have HRI := Lib.hid hri; have KF := Lib.hid (KE.out.next hn); have hs : (fun w' : World => w'.cell? ⟨g0, 0, none⟩ = some (.int .i64 a0_0) ∧ w'.cell? ⟨g0, 1, none⟩ = some (.int .i64 a0_1) ∧ w'.cell? ⟨g0, 2, none⟩ = some (.int .i64 a0_2) ∧ w'.cell? ⟨g0, 3, none⟩ = some (.int .i64 a0_3) ∧ w'.cell? ⟨g0, 4, none⟩ = some (.int .i64 a0_4) ∧ w'.cell? ⟨g1, 0, none⟩ = some (.int .i64 x.s) ∧ w'.cell? ⟨g1, 1, none⟩ = some (.int .i64 x.t) ∧ w'.cell? ⟨g1, 2, none⟩ = some (.int .i64 x.f) ∧ w'.cell? ⟨g1, 3, none⟩ = some (.int .i64 x.l) ∧ w'.cell? ⟨g1, 4, none⟩ = some (.int .i64 x.p) ∧ w'.cell? ⟨g1, 5, none⟩ = some (.int .i64 x.th) ∧ w'.cell? ⟨g1, 6, none⟩ = some (.int .i64 x.st) ∧ w'.cell? ⟨g1, 7, none⟩ = some (.int .i64 x.oc) ∧ w'.cell? ⟨g1, 8, none⟩ = some (.int .u64 x.ep) ∧ w'.cell? ⟨g1, 9, none⟩ = some (.int .i64 x.ot) ∧ w'.cell? ⟨g1, 10, none⟩ = some (.int .u64 x.wd) ∧ w'.cell? ⟨g1, 11, none⟩ = some (.int .u64 x.ev) ∧ w'.cell? ⟨g1, 12, none⟩ = some (.int .u64 x.ju) ∧ w'.cell? ⟨g2, 0, none⟩ = some (.int .i64 y.own) ∧ w'.cell? ⟨g2, 1, none⟩ = some (.int .i64 y.a) ∧ w'.cell? ⟨g2, 2, none⟩ = some (.int .i64 y.oc) ∧ w'.cell? ⟨g2, 3, none⟩ = some (.int .u64 y.ep) ∧ w'.cell? ⟨g2, 4, none⟩ = some (.int .i64 y.th) ∧ w'.cell? ⟨g2, 5, none⟩ = some (.int .u64 y.wd) ∧ w'.cell? ⟨g2, 6, none⟩ = some (.slice y.A y.L.length y.cap) ∧ w'.cell? ⟨g2, 7, none⟩ = some (.int .i64 y.ju) ∧ KY w g0 a0_0 a0_1 a0_2 a0_3 a0_4 g1 x g2 y w') _ := ⟨KF.out.b0, KF.out.b1, KF.out.b2, KF.out.b3, KF.out.b4, KF.out.c0, KF.out.c1, KF.out.c2, KF.out.c3, KF.out.c4, KF.out.c5, KF.out.c6, KF.out.c7, KF.out.c8, KF.out.c9, KF.out.c10, KF.out.c11, KF.out.c12, KF.out.d0, KF.out.d1, KF.out.d2, KF.out.d3, KF.out.d4, KF.out.d5, KF.out.d6, KF.out.d7, KF.out⟩; clear hn hri)
              | (go_at_call 15; refine (ints_any y.L (by have := EV.out.1; omega) A5 y.A c5 y.cap _ HRI.out (RI.of_own KF.out.ro)).mono ?_; rintro e0 vf ⟨rfl, hn⟩; have KG := Lib.hid (KF.out.next hn); have hs : (fun w' : World => w'.cell? ⟨g0, 0, none⟩ = some (.int .i64 a0_0) ∧ w'.cell? ⟨g0, 1, none⟩ = some (.int .i64 a0_1) ∧ w'.cell? ⟨g0, 2, none⟩ = some (.int .i64 a0_2) ∧ w'.cell? ⟨g0, 3, none⟩ = some (.int .i64 a0_3) ∧ w'.cell? ⟨g0, 4, none⟩ = some (.int .i64 a0_4) ∧ w'.cell? ⟨g1, 0, none⟩ = some (.int .i64 x.s) ∧ w'.cell? ⟨g1, 1, none⟩ = some (.int .i64 x.t) ∧ w'.cell? ⟨g1, 2, none⟩ = some (.int .i64 x.f) ∧ w'.cell? ⟨g1, 3, none⟩ = some (.int .i64 x.l) ∧ w'.cell? ⟨g1, 4, none⟩ = some (.int .i64 x.p) ∧ w'.cell? ⟨g1, 5, none⟩ = some (.int .i64 x.th) ∧ w'.cell? ⟨g1, 6, none⟩ = some (.int .i64 x.st) ∧ w'.cell? ⟨g1, 7, none⟩ = some (.int .i64 x.oc) ∧ w'.cell? ⟨g1, 8, none⟩ = some (.int .u64 x.ep) ∧ w'.cell? ⟨g1, 9, none⟩ = some (.int .i64 x.ot) ∧ w'.cell? ⟨g1, 10, none⟩ = some (.int .u64 x.wd) ∧ w'.cell? ⟨g1, 11, none⟩ = some (.int .u64 x.ev) ∧ w'.cell? ⟨g1, 12, none⟩ = some (.int .u64 x.ju) ∧ w'.cell? ⟨g2, 0, none⟩ = some (.int .i64 y.own) ∧ w'.cell? ⟨g2, 1, none⟩ = some (.int .i64 y.a) ∧ w'.cell? ⟨g2, 2, none⟩ = some (.int .i64 y.oc) ∧ w'.cell? ⟨g2, 3, none⟩ = some (.int .u64 y.ep) ∧ w'.cell? ⟨g2, 4, none⟩ = some (.int .i64 y.th) ∧ w'.cell? ⟨g2, 5, none⟩ = some (.int .u64 y.wd) ∧ w'.cell? ⟨g2, 6, none⟩ = some (.slice y.A y.L.length y.cap) ∧ w'.cell? ⟨g2, 7, none⟩ = some (.int .i64 y.ju) ∧ KY w g0 a0_0 a0_1 a0_2 a0_3 a0_4 g1 x g2 y w') _ := ⟨KG.out.b0, KG.out.b1, KG.out.b2, KG.out.b3, KG.out.b4, KG.out.c0, KG.out.c1, KG.out.c2, KG.out.c3, KG.out.c4, KG.out.c5, KG.out.c6, KG.out.c7, KG.out.c8, KG.out.c9, KG.out.c10, KG.out.c11, KG.out.c12, KG.out.d0, KG.out.d1, KG.out.d2, KG.out.d3, KG.out.d4, KG.out.d5, KG.out.d6, KG.out.d7, KG.out⟩; clear hn)
              | fail)
            all_goals (
              clear hs
              have HS2 := Lib.hid KG.out
              clear KA KB KC KD KE KF KG HRI
              go_wp2
              go_roundg (j + 1 - (j + 1))
              case rel => exact ⟨j + 1, x, y, by omega, rfl, by go_num, HRL.out, HS2.out⟩
              case measure => omega)
          · have D := Lib.hid (hD1 ha)
            have h0 : (y.a == 0) = false := by simp [ha]
            clear ha hD0 hD1
            have c0 := HS.out.c0
            have c1 := HS.out.c1
            have c2 := HS.out.c2
            have c3 := HS.out.c3
            have c4 := HS.out.c4
            have c5 := HS.out.c5
            have c6 := HS.out.c6
            have c7 := HS.out.c7
            have c8 := HS.out.c8
            have c9 := HS.out.c9
            have c10 := HS.out.c10
            have c11 := HS.out.c11
            have c12 := HS.out.c12
            go_wp2_with (go_at_call 10; refine (D.out _).mono ?_; rintro e v1 ⟨rfl, hn⟩; have HS1 := Lib.hid (HS.out.next hn); clear hn c0 c1 c2 c3 c4 c5 c6 c7 c8 c9 c10 c11 c12; have d1 := HS1.out.d1; have d2 := HS1.out.d2)
            have KA := Lib.hid HS1.out.drew
            clear HS HS1 d1 d2
            have hs : (fun w' : World => w'.cell? ⟨g0, 0, none⟩ = some (.int .i64 a0_0) ∧ w'.cell? ⟨g0, 1, none⟩ = some (.int .i64 a0_1) ∧ w'.cell? ⟨g0, 2, none⟩ = some (.int .i64 a0_2) ∧ w'.cell? ⟨g0, 3, none⟩ = some (.int .i64 a0_3) ∧ w'.cell? ⟨g0, 4, none⟩ = some (.int .i64 a0_4) ∧ w'.cell? ⟨g1, 0, none⟩ = some (.int .i64 x.s) ∧ w'.cell? ⟨g1, 1, none⟩ = some (.int .i64 x.t) ∧ w'.cell? ⟨g1, 2, none⟩ = some (.int .i64 x.f) ∧ w'.cell? ⟨g1, 3, none⟩ = some (.int .i64 x.l) ∧ w'.cell? ⟨g1, 4, none⟩ = some (.int .i64 x.p) ∧ w'.cell? ⟨g1, 5, none⟩ = some (.int .i64 x.th) ∧ w'.cell? ⟨g1, 6, none⟩ = some (.int .i64 x.st) ∧ w'.cell? ⟨g1, 7, none⟩ = some (.int .i64 x.oc) ∧ w'.cell? ⟨g1, 8, none⟩ = some (.int .u64 x.ep) ∧ w'.cell? ⟨g1, 9, none⟩ = some (.int .i64 x.ot) ∧ w'.cell? ⟨g1, 10, none⟩ = some (.int .u64 x.wd) ∧ w'.cell? ⟨g1, 11, none⟩ = some (.int .u64 x.ev) ∧ w'.cell? ⟨g1, 12, none⟩ = some (.int .u64 x.ju) ∧ w'.cell? ⟨g2, 0, none⟩ = some (.int .i64 y.own) ∧ w'.cell? ⟨g2, 1, none⟩ = some (.int .i64 y.a) ∧ w'.cell? ⟨g2, 2, none⟩ = some (.int .i64 y.oc) ∧ w'.cell? ⟨g2, 3, none⟩ = some (.int .u64 y.ep) ∧ w'.cell? ⟨g2, 4, none⟩ = some (.int .i64 y.th) ∧ w'.cell? ⟨g2, 5, none⟩ = some (.int .u64 y.wd) ∧ w'.cell? ⟨g2, 6, none⟩ = some (.slice y.A y.L.length y.cap) ∧ w'.cell? ⟨g2, 7, none⟩ = some (.int .i64 y.ju) ∧ KY w g0 a0_0 a0_1 a0_2 a0_3 a0_4 g1 x g2 y w') _ := ⟨KA.out.b0, KA.out.b1, KA.out.b2, KA.out.b3, KA.out.b4, KA.out.c0, KA.out.c1, KA.out.c2, KA.out.c3, KA.out.c4, KA.out.c5, KA.out.c6, KA.out.c7, KA.out.c8, KA.out.c9, KA.out.c10, KA.out.c11, KA.out.c12, KA.out.d0, KA.out.d1, KA.out.d2, KA.out.d3, KA.out.d4, KA.out.d5, KA.out.d6, KA.out.d7, KA.out⟩
            go_region_held3 (fun w' : World => w'.cell? ⟨g0, 0, none⟩ = some (.int .i64 a0_0) ∧ w'.cell? ⟨g0, 1, none⟩ = some (.int .i64 a0_1) ∧ w'.cell? ⟨g0, 2, none⟩ = some (.int .i64 a0_2) ∧ w'.cell? ⟨g0, 3, none⟩ = some (.int .i64 a0_3) ∧ w'.cell? ⟨g0, 4, none⟩ = some (.int .i64 a0_4) ∧ w'.cell? ⟨g1, 0, none⟩ = some (.int .i64 x.s) ∧ w'.cell? ⟨g1, 1, none⟩ = some (.int .i64 x.t) ∧ w'.cell? ⟨g1, 2, none⟩ = some (.int .i64 x.f) ∧ w'.cell? ⟨g1, 3, none⟩ = some (.int .i64 x.l) ∧ w'.cell? ⟨g1, 4, none⟩ = some (.int .i64 x.p) ∧ w'.cell? ⟨g1, 5, none⟩ = some (.int .i64 x.th) ∧ w'.cell? ⟨g1, 6, none⟩ = some (.int .i64 x.st) ∧ w'.cell? ⟨g1, 7, none⟩ = some (.int .i64 x.oc) ∧ w'.cell? ⟨g1, 8, none⟩ = some (.int .u64 x.ep) ∧ w'.cell? ⟨g1, 9, none⟩ = some (.int .i64 x.ot) ∧ w'.cell? ⟨g1, 10, none⟩ = some (.int .u64 x.wd) ∧ w'.cell? ⟨g1, 11, none⟩ = some (.int .u64 x.ev) ∧ w'.cell? ⟨g1, 12, none⟩ = some (.int .u64 x.ju) ∧ w'.cell? ⟨g2, 0, none⟩ = some (.int .i64 y.own) ∧ w'.cell? ⟨g2, 1, none⟩ = some (.int .i64 y.a) ∧ w'.cell? ⟨g2, 2, none⟩ = some (.int .i64 y.oc) ∧ w'.cell? ⟨g2, 3, none⟩ = some (.int .u64 y.ep) ∧ w'.cell? ⟨g2, 4, none⟩ = some (.int .i64 y.th) ∧ w'.cell? ⟨g2, 5, none⟩ = some (.int .u64 y.wd) ∧ w'.cell? ⟨g2, 6, none⟩ = some (.slice y.A y.L.length y.cap) ∧ w'.cell? ⟨g2, 7, none⟩ = some (.int .i64 y.ju) ∧ KY w g0 a0_0 a0_1 a0_2 a0_3 a0_4 g1 x g2 y w') (first | with_reducible exact hs | exact hs)
              (first
              | (go_at_call 11; refine (Q.out _).mono ?_; rintro e0 va ⟨rfl, hn⟩; have KB := Lib.hid (KA.out.next hn); have hs : (fun w' : World => w'.cell? ⟨g0, 0, none⟩ = some (.int .i64 a0_0) ∧ w'.cell? ⟨g0, 1, none⟩ = some (.int .i64 a0_1) ∧ w'.cell? ⟨g0, 2, none⟩ = some (.int .i64 a0_2) ∧ w'.cell? ⟨g0, 3, none⟩ = some (.int .i64 a0_3) ∧ w'.cell? ⟨g0, 4, none⟩ = some (.int .i64 a0_4) ∧ w'.cell? ⟨g1, 0, none⟩ = some (.int .i64 x.s) ∧ w'.cell? ⟨g1, 1, none⟩ = some (.int .i64 x.t) ∧ w'.cell? ⟨g1, 2, none⟩ = some (.int .i64 x.f) ∧ w'.cell? ⟨g1, 3, none⟩ = some (.int .i64 x.l) ∧ w'.cell? ⟨g1, 4, none⟩ = some (.int .i64 x.p) ∧ w'.cell? ⟨g1, 5, none⟩ = some (.int .i64 x.th) ∧ w'.cell? ⟨g1, 6, none⟩ = some (.int .i64 x.st) ∧ w'.cell? ⟨g1, 7, none⟩ = some (.int .i64 x.oc) ∧ w'.cell? ⟨g1, 8, none⟩ = some (.int .u64 x.ep) ∧ w'.cell? ⟨g1, 9, none⟩ = some (.int .i64 x.ot) ∧ w'.cell? ⟨g1, 10, none⟩ = some (.int .u64 x.wd) ∧ w'.cell? ⟨g1, 11, none⟩ = some (.int .u64 x.ev) ∧ w'.cell? ⟨g1, 12, none⟩ = some (.int .u64 x.ju) ∧ w'.cell? ⟨g2, 0, none⟩ = some (.int .i64 y.own) ∧ w'.cell? ⟨g2, 1, none⟩ = some (.int .i64 y.a) ∧ w'.cell? ⟨g2, 2, none⟩ = some (.int .i64 y.oc) ∧ w'.cell? ⟨g2, 3, none⟩ = some (.int .u64 y.ep) ∧ w'.cell? ⟨g2, 4, none⟩ = some (.int .i64 y.th) ∧ w'.cell? ⟨g2, 5, none⟩ = some (.int .u64 y.wd) ∧ w'.cell? ⟨g2, 6, none⟩ = some (.slice y.A y.L.length y.cap) ∧ w'.cell? ⟨g2, 7, none⟩ = some (.int .i64 y.ju) ∧ KY w g0 a0_0 a0_1 a0_2 a0_3 a0_4 g1 x g2 y w') _ := ⟨KB.out.b0, KB.out.b1, KB.out.b2, KB.out.b3, KB.out.b4, KB.out.c0, KB.out.c1, KB.out.c2, KB.out.c3, KB.out.c4, KB.out.c5, KB.out.c6, KB.out.c7, KB.out.c8, KB.out.c9, KB.out.c10, KB.out.c11, KB.out.c12, KB.out.d0, KB.out.d1, KB.out.d2, KB.out.d3, KB.out.d4, KB.out.d5, KB.out.d6, KB.out.d7, KB.out⟩; clear hn)
              | (go_at_call 12; refine (RQ.out _).mono ?_; rintro e0 vb ⟨rfl, hn⟩; have KC := Lib.hid (KB.out.next hn); have hs : (fun w' : World => w'.cell? ⟨g0, 0, none⟩ = some (.int .i64 a0_0) ∧ w'.cell? ⟨g0, 1, none⟩ = some (.int .i64 a0_1) ∧ w'.cell? ⟨g0, 2, none⟩ = some (.int .i64 a0_2) ∧ w'.cell? ⟨g0, 3, none⟩ = some (.int .i64 a0_3) ∧ w'.cell? ⟨g0, 4, none⟩ = some (.int .i64 a0_4) ∧ w'.cell? ⟨g1, 0, none⟩ = some (.int .i64 x.s) ∧ w'.cell? ⟨g1, 1, none⟩ = some (.int .i64 x.t) ∧ w'.cell? ⟨g1, 2, none⟩ = some (.int .i64 x.f) ∧ w'.cell? ⟨g1, 3, none⟩ = some (.int .i64 x.l) ∧ w'.cell? ⟨g1, 4, none⟩ = some (.int .i64 x.p) ∧ w'.cell? ⟨g1, 5, none⟩ = some (.int .i64 x.th) ∧ w'.cell? ⟨g1, 6, none⟩ = some (.int .i64 x.st) ∧ w'.cell? ⟨g1, 7, none⟩ = some (.int .i64 x.oc) ∧ w'.cell? ⟨g1, 8, none⟩ = some (.int .u64 x.ep) ∧ w'.cell? ⟨g1, 9, none⟩ = some (.int .i64 x.ot) ∧ w'.cell? ⟨g1, 10, none⟩ = some (.int .u64 x.wd) ∧ w'.cell? ⟨g1, 11, none⟩ = some (.int .u64 x.ev) ∧ w'.cell? ⟨g1, 12, none⟩ = some (.int .u64 x.ju) ∧ w'.cell? ⟨g2, 0, none⟩ = some (.int .i64 y.own) ∧ w'.cell? ⟨g2, 1, none⟩ = some (.int .i64 y.a) ∧ w'.cell? ⟨g2, 2, none⟩ = some (.int .i64 y.oc) ∧ w'.cell? ⟨g2, 3, none⟩ = some (.int .u64 y.ep) ∧ w'.cell? ⟨g2, 4, none⟩ = some (.int .i64 y.th) ∧ w'.cell? ⟨g2, 5, none⟩ = some (.int .u64 y.wd) ∧ w'.cell? ⟨g2, 6, none⟩ = some (.slice y.A y.L.length y.cap) ∧ w'.cell? ⟨g2, 7, none⟩ = some (.int .i64 y.ju) ∧ KY w g0 a0_0 a0_1 a0_2 a0_3 a0_4 g1 x g2 y w') _ := ⟨KC.out.b0, KC.out.b1, KC.out.b2, KC.out.b3, KC.out.b4, KC.out.c0, KC.out.c1, KC.out.c2, KC.out.c3, KC.out.c4, KC.out.c5, KC.out.c6, KC.out.c7, KC.out.c8, KC.out.c9, KC.out.c10, KC.out.c11, KC.out.c12, KC.out.d0, KC.out.d1, KC.out.d2, KC.out.d3, KC.out.d4, KC.out.d5, KC.out.d6, KC.out.d7, KC.out⟩; clear hn)
              | (go_at_call 13; refine (EP.out _).mono ?_; rintro e0 vc ⟨rfl, hn⟩; have KD := Lib.hid (KC.out.next hn); have hs : (fun w' : World => w'.cell? ⟨g0, 0, none⟩ = some (.int .i64 a0_0) ∧ w'.cell? ⟨g0, 1, none⟩ = some (.int .i64 a0_1) ∧ w'.cell? ⟨g0, 2, none⟩ = some (.int .i64 a0_2) ∧ w'.cell? ⟨g0, 3, none⟩ = some (.int .i64 a0_3) ∧ w'.cell? ⟨g0, 4, none⟩ = some (.int .i64 a0_4) ∧ w'.cell? ⟨g1, 0, none⟩ = some (.int .i64 x.s) ∧ w'.cell? ⟨g1, 1, none⟩ = some (.int .i64 x.t) ∧ w'.cell? ⟨g1, 2, none⟩ = some (.int .i64 x.f) ∧ w'.cell? ⟨g1, 3, none⟩ = some (.int .i64 x.l) ∧ w'.cell? ⟨g1, 4, none⟩ = some (.int .i64 x.p) ∧ w'.cell? ⟨g1, 5, none⟩ = some (.int .i64 x.th) ∧ w'.cell? ⟨g1, 6, none⟩ = some (.int .i64 x.st) ∧ w'.cell? ⟨g1, 7, none⟩ = some (.int .i64 x.oc) ∧ w'.cell? ⟨g1, 8, none⟩ = some (.int .u64 x.ep) ∧ w'.cell? ⟨g1, 9, none⟩ = some (.int .i64 x.ot) ∧ w'.cell? ⟨g1, 10, none⟩ = some (.int .u64 x.wd) ∧ w'.cell? ⟨g1, 11, none⟩ = some (.int .u64 x.ev) ∧ w'.cell? ⟨g1, 12, none⟩ = some (.int .u64 x.ju) ∧ w'.cell? ⟨g2, 0, none⟩ = some (.int .i64 y.own) ∧ w'.cell? ⟨g2, 1, none⟩ = some (.int .i64 y.a) ∧ w'.cell? ⟨g2, 2, none⟩ = some (.int .i64 y.oc) ∧ w'.cell? ⟨g2, 3, none⟩ = some (.int .u64 y.ep) ∧ w'.cell? ⟨g2, 4, none⟩ = some (.int .i64 y.th) ∧ w'.cell? ⟨g2, 5, none⟩ = some (.int .u64 y.wd) ∧ w'.cell? ⟨g2, 6, none⟩ = some (.slice y.A y.L.length y.cap) ∧ w'.cell? ⟨g2, 7, none⟩ = some (.int .i64 y.ju) ∧ KY w g0 a0_0 a0_1 a0_2 a0_3 a0_4 g1 x g2 y w') _ := ⟨KD.out.b0, KD.out.b1, KD.out.b2, KD.out.b3, KD.out.b4, KD.out.c0, KD.out.c1, KD.out.c2, KD.out.c3, KD.out.c4, KD.out.c5, KD.out.c6, KD.out.c7, KD.out.c8, KD.out.c9, KD.out.c10, KD.out.c11, KD.out.c12, KD.out.d0, KD.out.d1, KD.out.d2, KD.out.d3, KD.out.d4, KD.out.d5, KD.out.d6, KD.out.d7, KD.out⟩; clear hn)
              | (go_at_call 14; refine (JU.out _).mono ?_; rintro e0 vd ⟨rfl, hn⟩; have KE := Lib.hid (KD.out.next hn); have hs : (fun w' : World => w'.cell? ⟨g0, 0, none⟩ = some (.int .i64 a0_0) ∧ w'.cell? ⟨g0, 1, none⟩ = some (.int .i64 a0_1) ∧ w'.cell? ⟨g0, 2, none⟩ = some (.int .i64 a0_2) ∧ w'.cell? ⟨g0, 3, none⟩ = some (.int .i64 a0_3) ∧ w'.cell? ⟨g0, 4, none⟩ = some (.int .i64 a0_4) ∧ w'.cell? ⟨g1, 0, none⟩ = some (.int .i64 x.s) ∧ w'.cell? ⟨g1, 1, none⟩ = some (.int .i64 x.t) ∧ w'.cell? ⟨g1, 2, none⟩ = some (.int .i64 x.f) ∧ w'.cell? ⟨g1, 3, none⟩ = some (.int .i64 x.l) ∧ w'.cell? ⟨g1, 4, none⟩ = some (.int .i64 x.p) ∧ w'.cell? ⟨g1, 5, none⟩ = some (.int .i64 x.th) ∧ w'.cell? ⟨g1, 6, none⟩ = some (.int .i64 x.st) ∧ w'.cell? ⟨g1, 7, none⟩ = some (.int .i64 x.oc) ∧ w'.cell? ⟨g1, 8, none⟩ = some (.int .u64 x.ep) ∧ w'.cell? ⟨g1, 9, none⟩ = some (.int .i64 x.ot) ∧ w'.cell? ⟨g1, 10, none⟩ = some (.int .u64 x.wd) ∧ w'.cell? ⟨g1, 11, none⟩ = some (.int .u64 x.ev) ∧ w'.cell? ⟨g1, 12, none⟩ = some (.int .u64 x.ju) ∧ w'.cell? ⟨g2, 0, none⟩ = some (.int .i64 y.own) ∧ w'.cell? ⟨g2, 1, none⟩ = some (.int .i64 y.a) ∧ w'.cell? ⟨g2, 2, none⟩ = some (.int .i64 y.oc) ∧ w'.cell? ⟨g2, 3, none⟩ = some (.int .u64 y.ep) ∧ w'.cell? ⟨g2, 4, none⟩ = some (.int .i64 y.th) ∧ w'.cell? ⟨g2, 5, none⟩ = some (.int .u64 y.wd) ∧ w'.cell? ⟨g2, 6, none⟩ = some (.slice y.A y.L.length y.cap) ∧ w'.cell? ⟨g2, 7, none⟩ = some (.int .i64 y.ju) ∧ KY w g0 a0_0 a0_1 a0_2 a0_3 a0_4 g1 x g2 y w') _ := ⟨KE.out.b0, KE.out.b1, KE.out.b2, KE.out.b3, KE.out.b4, KE.out.c0, KE.out.c1, KE.out.c2, KE.out.c3, KE.out.c4, KE.out.c5, KE.out.c6, KE.out.c7, KE.out.c8, KE.out.c9, KE.out.c10, KE.out.c11, KE.out.c12, KE.out.d0, KE.out.d1, KE.out.d2, KE.out.d3, KE.out.d4, KE.out.d5, KE.out.d6, KE.out.d7, KE.out⟩; clear hn)
              | (go_at_call 16; refine (EV.out.2 _).mono ?_; rintro e0 ve ⟨A5, c5, rfl, hri, hn⟩; have HRI := Lib.hid hri; have KF := Lib.hid (KE.out.next hn); have hs : (fun w' : World => w'.cell? ⟨g0, 0, none⟩ = some (.int .i64 a0_0) ∧ w'.cell? ⟨g0, 1, none⟩ = some (.int .i64 a0_1) ∧ w'.cell? ⟨g0, 2, none⟩ = some (.int .i64 a0_2) ∧ w'.cell? ⟨g0, 3, none⟩ = some (.int .i64 a0_3) ∧ w'.cell? ⟨g0, 4, none⟩ = some (.int .i64 a0_4) ∧ w'.cell? ⟨g1, 0, none⟩ = some (.int .i64 x.s) ∧ w'.cell? ⟨g1, 1, none⟩ = some (.int .i64 x.t) ∧ w'.cell? ⟨g1, 2, none⟩ = some (.int .i64 x.f) ∧ w'.cell? ⟨g1, 3, none⟩ = some (.int .i64 x.l) ∧ w'.cell? ⟨g1, 4, none⟩ = some (.int .i64 x.p) ∧ w'.cell? ⟨g1, 5, none⟩ = some (.int .i64 x.th) ∧ w'.cell? ⟨g1, 6, none⟩ = some (.int .i64 x.st) ∧ w'.cell? ⟨g1, 7, none⟩ = some (.int .i64 x.oc) ∧ w'.cell? ⟨g1, 8, none⟩ = some (.int .u64 x.ep) ∧ w'.cell? ⟨g1, 9, none⟩ = some (.int .i64 x.ot) ∧ w'.cell? ⟨g1, 10, none⟩ = some (.int .u64 x.wd) ∧ w'.cell? ⟨g1, 11, none⟩ = some (.int .u64 x.ev) ∧ w'.cell? ⟨g1, 12, none⟩ = some (.int .u64 x.ju) ∧ w'.cell? ⟨g2, 0, none⟩ = some (.int .i64 y.own) ∧ w'.cell? ⟨g2, 1, none⟩ = some (.int .i64 y.a) ∧ w'.cell? ⟨g2, 2, none⟩ = some (.int .i64 y.oc) ∧ w'.cell? ⟨g2, 3, none⟩ = some (.int .u64 y.ep) ∧ w'.cell? ⟨g2, 4, none⟩ = some (.int .i64 y.th) ∧ w'.cell? ⟨g2, 5, none⟩ = some (.int .u64 y.wd) ∧ w'.cell? ⟨g2, 6, none⟩ = some (.slice y.A y.L.length y.cap) ∧ w'.cell? ⟨g2, 7, none⟩ = some (.int .i64 y.ju) ∧ KY w g0 a0_0 a0_1 a0_2 a0_3 a0_4 g1 x g2 y w') _ := ⟨KF.out.b0, KF.out.b1, KF.out.b2, KF.out.b3, KF.out.b4, KF.out.c0, KF.out.c1, KF.out.c2, KF.out.c3, KF.out.c4, KF.out.c5, KF.out.c6, KF.out.c7, KF.out.c8, KF.out.c9, KF.out.c10, KF.out.c11, KF.out.c12, KF.out.d0, KF.out.d1, KF.out.d2, KF.out.d3, KF.out.d4, KF.out.d5, KF.out.d6, KF.out.d7, KF.out⟩; clear hn hri)
              | (go_at_call 15; refine (ints_any y.L (by have := EV.out.1; omega) A5 y.A c5 y.cap _ HRI.out (RI.of_own KF.out.ro)).mono ?_; rintro e0 vf ⟨rfl, hn⟩; have KG := Lib.hid (KF.out.next hn); have hs : (fun w' : World => w'.cell? ⟨g0, 0, none⟩ = some (.int .i64 a0_0) ∧ w'.cell? ⟨g0, 1, none⟩ = some (.int .i64 a0_1) ∧ w'.cell? ⟨g0, 2, none⟩ = some (.int .i64 a0_2) ∧ w'.cell? ⟨g0, 3, none⟩ = some (.int .i64 a0_3) ∧ w'.cell? ⟨g0, 4, none⟩ = some (.int .i64 a0_4) ∧ w'.cell? ⟨g1, 0, none⟩ = some (.int .i64 x.s) ∧ w'.cell? ⟨g1, 1, none⟩ = some (.int .i64 x.t) ∧ w'.cell? ⟨g1, 2, none⟩ = some (.int .i64 x.f) ∧ w'.cell? ⟨g1, 3, none⟩ = some (.int .i64 x.l) ∧ w'.cell? ⟨g1, 4, none⟩ = some (.int .i64 x.p) ∧ w'.cell? ⟨g1, 5, none⟩ = some (.int .i64 x.th) ∧ w'.cell? ⟨g1, 6, none⟩ = some (.int .i64 x.st) ∧ w'.cell? ⟨g1, 7, none⟩ = some (.int .i64 x.oc) ∧ w'.cell? ⟨g1, 8, none⟩ = some (.int .u64 x.ep) ∧ w'.cell? ⟨g1, 9, none⟩ = some (.int .i64 x.ot) ∧ w'.cell? ⟨g1, 10, none⟩ = some (.int .u64 x.wd) ∧ w'.cell? ⟨g1, 11, none⟩ = some (.int .u64 x.ev) ∧ w'.cell? ⟨g1, 12, none⟩ = some (.int .u64 x.ju) ∧ w'.cell? ⟨g2, 0, none⟩ = some (.int .i64 y.own) ∧ w'.cell? ⟨g2, 1, none⟩ = some (.int .i64 y.a) ∧ w'.cell? ⟨g2, 2, none⟩ = some (.int .i64 y.oc) ∧ w'.cell? ⟨g2, 3, none⟩ = some (.int .u64 y.ep) ∧ w'.cell? ⟨g2, 4, none⟩ = some (.int .i64 y.th) ∧ w'.cell? ⟨g2, 5, none⟩ = some (.int .u64 y.wd) ∧ w'.cell? ⟨g2, 6, none⟩ = some (.slice y.A y.L.length y.cap) ∧ w'.cell? ⟨g2, 7, none⟩ = some (.int .i64 y.ju) ∧ KY w g0 a0_0 a0_1 a0_2 a0_3 a0_4 g1 x g2 y w') _ := ⟨KG.out.b0, KG.out.b1, KG.out.b2, KG.out.b3, KG.out.b4, KG.out.c0, KG.out.c1, KG.out.c2, KG.out.c3, KG.out.c4, KG.out.c5, KG.out.c6, KG.out.c7, KG.out.c8, KG.out.c9, KG.out.c10, KG.out.c11, KG.out.c12, KG.out.d0, KG.out.d1, KG.out.d2, KG.out.d3, KG.out.d4, KG.out.d5, KG.out.d6, KG.out.d7, KG.out⟩; clear hn)
              | fail)
            all_goals (
              clear hs
              have HS2 := Lib.hid KG.out
              clear KA KB KC KD KE KF KG HRI
              go_wp2
              go_roundg (j + 1 - (j + 1))
              case rel => exact ⟨j + 1, x, y, by omega, rfl, by go_num, HRL.out, HS2.out⟩
              case measure => omega)
      · have hgt : (len2 : Int) < j := by omega
        have BL := Lib.hid hr.k.bl
        clear hr hrl hle hg HA HC HZ
        go_wp2_with (go_at_call 6; refine (AW.out _ (HG.out.next BL.out)).mono ?_; rintro e v6 ⟨rfl, h6⟩)
        go_ret
        exact ⟨rfl, BL.out.trans (h6.mono BL.out.size)⟩
  · have h20 : 300 < (len2 : Int) := by omega
    have B1 := Lib.hid b1
    clear hlen hc2 hA2 hG hz63 b1
    go_enter Tryd.func3, Tryd.ntmps3
    go_wp2_with (go_at_call 6; refine (AW.out _ (HG.out.next B1.out)).mono ?_; rintro e un ⟨rfl, hn⟩)
    go_ret
    exact ⟨rfl, B1.out.trans (hn.mono B1.out.size)⟩

set_option maxRecDepth 100000 in
theorem lifted (os : Os) (started : os.Started) (H : Type) (enc : TypeId × Value → H) :
    ReturnsInHanded {} Tryd.checked os 3 .any (fun w args => (Rows.advancePlaysSpec.pre enc Tryd.prog Tryd.f3 [] false w args ∧ laidMetH Tryd.prog laidVars w) ∧ sizedMet enc Tryd.prog Tryd.f3 (OpenSpec.ofChange Rows.advancePlaysSpec) false w args)
      (Rows.advancePlaysSpec.post enc Tryd.prog Tryd.f3 false true false false) := by
  refine returnsInHanded_of_change_and (C := Tryd.checked) (X := fun w _ => laidMetH Tryd.prog laidVars w) (fun _ _ _ hh h => h.of_heap hh) own started (by kernel_rfl) Tryd.func3
    (ChangeSpec.witness_shaped (enc := enc) (C := Tryd.checked) (os := os) (X := fun w _ => laidMetH Tryd.prog laidVars w) false (World.doorLaid Tryd.prog 400 os) #[.agg #[.int .i64 0, .int .i64 0, .int .i64 0, .int .i64 0, .int .i64 0], .int .i64 0, .slice none 0 0] 8 rfl (World.shaped_of_RefB (by kernel_rfl) (by kernel_rfl)) (by kernel_rfl) (by kernel_rfl) (by kernel_rfl) (door_met os _)) ?_
  intro W base args ds gs before hval0 hW _ _ hL _
  have hval : ∀ (j : Nat) t v, Tryd.f3.params[j]? = some t → args[j]? = some v → Value.okWide Tryd.prog W .any base t v := hval0
  have hW' := hW
  obtain ⟨p, q, hA0, hV, rfl, hfz, hnd⟩ := hW
  have hA : DataW.TrodAll enc Tryd.prog W 0 (fun _ => true) true Tryd.f3.params.toList args.toList ds p := hA0
  rw [Tryd.params3] at hA hval
  obtain ⟨v0, vs0, d0, ds0, p0, q0, hargs, rfl, rfl, h0, r0⟩ := trodAll_cons hA
  obtain ⟨v1, vs1, d1, ds1, p1, q1, rfl, rfl, rfl, h1, r1⟩ := trodAll_cons r0
  obtain ⟨v2, vs2, d2, ds2, p2, q2, rfl, rfl, rfl, h2, r2⟩ := trodAll_cons r1
  obtain ⟨rfl, rfl, rfl⟩ := trodAll_nil r2
  obtain rfl : args = #[v0, v1, v2] := by cases args; simp_all
  obtain ⟨rfl, rfl⟩ := trodVars_none hV
  have k0 := h0
  obtain ⟨ns0, h0l, h0v, h0w⟩ := open_intStruct [.i64, .i64, .i64, .i64, .i64] Tryd.underlying23 (by kernel_rfl) (by kernel_rfl) rfl (hval 0 23 v0 rfl rfl) h0
  obtain ⟨a0_0, a0_1, a0_2, a0_3, a0_4, rfl⟩ := list5 h0l
  obtain rfl : v0 = .agg #[.int .i64 a0_0, .int .i64 a0_1, .int .i64 a0_2, .int .i64 a0_3, .int .i64 a0_4] := h0v
  obtain ⟨a1, rfl, rfl, rfl, w1⟩ := open_int Tryd.underlying3 (hval 1 3 v1 rfl rfl) h1
  obtain ⟨A2, len2, cap2, rfl⟩ := okWide_slice Tryd.underlying24 (hval 2 24 v2 rfl rfl)
  have k2 := h2
  obtain ⟨b2, off2, zs2, hl2, hm2, hA2, hc2, hw2⟩ := open_slice Tryd.underlying24 Tryd.underlying28 cells28 h2
  clear hA0 hval0
  simp only [List.append_nil] at hW'
  have hlt0 : ∀ x ∈ p0, x.block < W.heap.size := fun x hx => by simpa using hW'.lt x (by simp [hx])
  have hlt2 : ∀ x ∈ p2, x.block < W.heap.size := fun x hx => by simpa using hW'.lt x (by simp [hx])
  refine (walk W (of_laid hL) a0_0 (h0w 0 .i64 _ rfl rfl) a0_1 (h0w 1 .i64 _ rfl rfl) a0_2 (h0w 2 .i64 _ rfl rfl) a0_3 (h0w 3 .i64 _ rfl rfl) a0_4 (h0w 4 .i64 _ rfl rfl) a1 w1 A2 len2 cap2 b2 off2 zs2 hl2 hm2 hA2 hc2 hw2).mono fun e W' ⟨he, hg⟩ => ?_
  subst he
  exact ⟨_, rfl, post_of_below2 (pv := []) hW' (fun _ _ _ => (trodAll_cons_mk (shut_bool Tryd.underlying4 _) trodAll_mk0)) (trodAll_cons_mk (Below.trod laidOut (by kernel_rfl) (of_decide_eq_true (by kernel_rfl)) k0 hg hlt0) (trodAll_cons_mk (shut_int Tryd.underlying3 w1) (trodAll_cons_mk (Below.trod laidOut (by kernel_rfl) (of_decide_eq_true (by kernel_rfl)) k2 hg hlt2) trodAll_mk0))) rfl (by simp) (hg.frame _)⟩

theorem over : Rows.advancePlaysRow.holds Tryd.pinned (OpenSpec.ofChange Rows.advancePlaysSpec) :=
  OpenClaim.holds_of_wide 3 Tryd.f3 rfl rfl rfl rfl rfl rfl rfl ⟨rfl, rfl, rfl, rfl, rfl⟩ rfl rfl rfl rfl rfl (by kernel_rfl) Tryd.func3 (by kernel_rfl)
    (of_decide_eq_true (by kernel_rfl)) (by unfold Func.isWrapper; first | (rw [if_pos (by decide +kernel)]; kernel_rfl) | (rw [if_neg (by decide +kernel)]; exact ⟨rfl, rfl⟩))
    (fun os started H enc _ => lifted os started H enc)

theorem row : Rows.AdvancePlaysSaid := over

theorem proved : Rows.AdvancePlaysCardSaid :=
  Claim7.holds_tied_plain_at .later [] [.handle, .data] true (true, "cc01790792e77f20f5da0e447faa1435422f9e388540bf2ee809e29fab843e27") true
    row (fun _ h => by cases h) (by kernel_rfl) (fun _ h => by cases h) advancePlays_row_tie rfl ⟨rfl, rfl⟩ (by kernel_rfl) rfl
    (fun f fn hf hfn => by
      obtain rfl : f = 3 := Option.some.inj ((show Tryd.prog.funcNamed "gleaning/gleaninglaw18.AdvancePlays" = some 3 by kernel_rfl).symm.trans hf) |>.symm
      obtain rfl : fn = Tryd.f3 := (Option.some.inj (Tryd.func3.symm.trans hfn)).symm
      exact ⟨by kernel_rfl, fun j t ht => by
        rw [Tryd.params3] at ht
        have hm : t ∈ [23, 3, 24] := by simpa using Array.mem_of_getElem? ht
        have hall : ([23, 3, 24].all fun u => !Tryd.prog.wantsStandIn u) = true := by kernel_rfl
        exact (show Tryd.prog.wantsStandIn t = false by simpa using List.all_eq_true.1 hall t hm)⟩)
    (by kernel_rfl)

#print axioms proved
end Go.Proofs.YthcmgagmbioofaaDoor.advancePlays
