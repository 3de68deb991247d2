/- gleaninglaw04.VwordAfter: for every input the law returns true, and leaves its arguments as they were. No condition. -/
import Derived.Test.YtmpfajnieanfnaaRows
import Derived.WalkKit
import Derived.Deep.LoopGhost
import Derived.Deep.RegionHeld3
import Derived.Test.YtmpfajnieanfnaaVafter2
import Derived.Test.YtmpfajnieanfnaaFrame
import Derived.ProofKit
import Derived.OpenShut
namespace Go.Proofs.Ytmpfajnieanfnaa.vwordAfter
open Go.ChangeShapes Go.WideShapes Go.ChangeAt Go.RowKit
set_option linter.unusedVariables false

theorem own : ownKnob Try.prog.godebug = none := by kernel_rfl
theorem laidOut : laidOutB Try.prog = true := by kernel_rfl
theorem cells3 : Try.prog.cellsOf 3 = 1 := by kernel_rfl
/-- What the second loop's test reads. -/
def XS (w : World) (g m x j u : Nat) (v : Value) (us : List Nat) (W : World) : Prop := W.cell? ⟨g, m, none⟩ = some (.int .u64 (u : Nat)) ∧ VW w x j v us W
theorem XS.next {w W W' : World} {g m x j u : Nat} {v : Value} {us : List Nat} (h : XS w g m x j u v us W) (hn : Below W.heap.size W W') : XS w g m x j u v us W' :=
  ⟨((bcell hn).1 _ _ (World.block_lt_of_cell? W _ h.1)).trans h.1, h.2.next hn⟩
theorem XS.drew {w W : World} {g m x j u : Nat} {v : Value} {us : List Nat} (h : XS w g m x j u v us W) : XS w g m x j u v us W.drew :=
  ⟨h.1, ⟨h.2.lt, h.2.few, h.2.all, h.2.own.drew, h.2.below.drew⟩⟩

set_option maxHeartbeats 4000000 in
theorem walk (w : World) (a0 : Int) (w0 : (Lit.int .u64 a0).wf = true) (A1 : Option Addr) (len1 cap1 b1 off1 : Nat) (zs1 : List Int) (hl1 : zs1.length = len1) (hm1 : len1 ≤ cap1 ∧ len1 ≤ maxLen) (hA1 : 0 < len1 → A1 = some ⟨b1, off1, none⟩ ∧ b1 < w.heap.size) (hc1 : ∀ i, i < len1 → w.cell? ⟨b1, off1 + i, none⟩ = some (.int .i64 (zs1.getD i 0))) (hw1 : ∀ n ∈ zs1, (Lit.int .i64 n).wf = true) :
    Calls Try.prog 5 #[.int .u64 a0, .slice A1 len1 cap1] w fun e w' => e = .returned (.bool true) ∧ Below w.heap.size w w' := by
  obtain ⟨x0, rfl⟩ : ∃ x : Nat, a0 = x := ⟨a0.toNat, by have := u64_lo w0; omega⟩
  have hx0 := u64_hi w0
  by_cases hlen : (len1 : Int) ≤ 60
  · have hl60 : len1 ≤ 60 := by omega
    have HC := Lib.hid hc1
    have HA := Lib.hid hA1
    clear hc1 hA1
    have HV := Lib.hid (VW.start w x0 (by omega))
    obtain ⟨i0, hi, hz0, hz1, hz2⟩ := info_parts infoU
    have HI := Lib.hid (And.intro hi (And.intro hz0 (And.intro hz1 hz2)))
    clear hi hz0 hz1 hz2
    go_enter Try.func5, Try.ntmps5
    go_wp2
    go_loopg [5, 6, 7, 8] len1 (fun g got was y i wr => ∃ (j x : Nat) (us : List Nat), j ≤ len1 ∧ g = len1 - j ∧ i = .int .i64 j ∧ got = .int .u64 (x : Nat) ∧ y = .int .u64 (x : Nat) ∧ VW w x j was us wr)
    case atStart => exact ⟨0, x0, [], by omega, by omega, rfl, rfl, rfl, HV.out⟩
    case round =>
      clear HV
      obtain ⟨j, x, us, hj, hg, rfl, rfl, rfl, hr⟩ := hrel
      have hxl := hr.lt
      by_cases hlt : j < len1
      · obtain ⟨rfl, hbl⟩ := HA.out (by omega)
        have hx : Hid (wr.cell? ⟨b1, off1 + j, none⟩ = some (.int .i64 (zs1.getD j 0))) := Lib.hid (((bcell hr.below).1 _ _ hbl).trans (HC.out j (by omega)))
        have hzw := hw1 (zs1.getD j 0) (by rw [List.getD_eq_getElem?_getD, List.getElem?_eq_getElem (by omega)]; exact List.getElem_mem (by omega))
        generalize zs1.getD j 0 = z at hx hzw
        have z1 := i64_lo hzw
        have z2 := i64_hi hzw
        have t1 : -5 < z.tmod 5 := Int.lt_tmod_of_pos z (by omega)
        have t2 : z.tmod 5 < 5 := Int.tmod_lt_of_pos z (by omega)
        obtain ⟨r, hr5⟩ : ∃ r : Int, z.tmod 5 = r := ⟨_, rfl⟩
        rw [hr5] at t1 t2
        have HR := Lib.hid hr
        have hwl := hr.below.size
        have TU := Lib.hid (fun W => rundo_any x hxl W)
        clear hr hzw
        have H5 := Lib.hid hr5
        clear hr5
        by_cases hneg : r < 0
        · obtain ⟨s, hs, hs0, hs4⟩ : ∃ s : Int, r = -s ∧ 0 < s ∧ s ≤ 4 := ⟨-r, by omega, by omega, by omega⟩
          rw [hs] at H5
          clear t1 t2 hs
          clear hneg
          by_cases hs2 : 2 ≤ s
          · have T1 := Lib.hid (fun W => turn_any s x (by omega) hs4 hxl W)
            have T2 := Lib.hid (fun W => program_any s x (by omega) hs4 hxl W)
            have h5 := H5.out
            have hx := hx.out
            clear H5
            go_wp2_with (first | (go_at_call 23; refine (TU.out _).mono ?_; rintro e wk ⟨rfl, hn⟩; have HU := Lib.hid ((HR.out.next hn).alloc (.cells #[.int .u64 (undoN x : Nat)] 22)); clear hn) | (at_builtin; refine wpList_append_own_at _ rfl _ _ 35 rfl w.heap.size 22 i0 (.int .u64 0) 1 8 sliceU HI.out.1 HI.out.2.1 HI.out.2.2.1 HI.out.2.2.2 rfl (by decide) _ _ _ rfl HU.out.own ⟨wk.heap.size, 0, none⟩ 1 1 [.int .u64 (undoN x : Nat)] rfl rfl (cell_one_new _ _ _) (by simp [Value.oneCell']) (by have := HU.out.few; unfold maxLen; omega) (by have := HU.out.few; omega) HU.out.below.size ?_; intro v' w1 hown' hgrow hnil hloc; have HR1 := Lib.hid (VW.add HU.out s hs2 (by omega) hown' hgrow); clear hown' hgrow hnil hloc HU) | (go_at_call 32; refine (T1.out _).mono ?_; rintro e wt ⟨rfl, hn⟩; have HR2 := Lib.hid (HR1.out.next hn); clear hn) | (go_at_call 33; refine (T2.out _).mono ?_; rintro e wp ⟨rfl, hn⟩; have HR3 := Lib.hid (HR2.out.next hn); clear hn))
            go_roundg (len1 - (j + 1))
            case rel => exact ⟨j + 1, vStep s x, _, by omega, rfl, by go_num, rfl, rfl, HR3.out⟩
            case measure => omega
          · have hs3 : s < 2 := by omega
            clear hs2
            have T1 := Lib.hid (fun W => turn_any s x (by omega) hs4 hxl W)
            have T2 := Lib.hid (fun W => program_any s x (by omega) hs4 hxl W)
            have HR1 := Lib.hid (HR.out.keep s (by omega) (by omega))
            have h5 := H5.out
            have hx := hx.out
            clear H5
            go_wp2_with (first | (go_at_call 32; refine (T1.out _).mono ?_; rintro e wt ⟨rfl, hn⟩; have HR2 := Lib.hid (HR1.out.next hn); clear hn) | (go_at_call 33; refine (T2.out _).mono ?_; rintro e wp ⟨rfl, hn⟩; have HR3 := Lib.hid (HR2.out.next hn); clear hn))
            go_roundg (len1 - (j + 1))
            case rel => exact ⟨j + 1, vStep s x, _, by omega, rfl, by go_num, rfl, rfl, HR3.out⟩
            case measure => omega
        · obtain ⟨s, hs, hs0, hs4⟩ : ∃ s : Int, r = s ∧ 0 ≤ s ∧ s ≤ 4 := ⟨r, by omega, by omega, by omega⟩
          rw [hs] at H5
          clear t1 t2 hs
          clear hneg
          by_cases hs2 : 2 ≤ s
          · have T1 := Lib.hid (fun W => turn_any s x (by omega) hs4 hxl W)
            have T2 := Lib.hid (fun W => program_any s x (by omega) hs4 hxl W)
            have h5 := H5.out
            have hx := hx.out
            clear H5
            go_wp2_with (first | (go_at_call 23; refine (TU.out _).mono ?_; rintro e wk ⟨rfl, hn⟩; have HU := Lib.hid ((HR.out.next hn).alloc (.cells #[.int .u64 (undoN x : Nat)] 22)); clear hn) | (at_builtin; refine wpList_append_own_at _ rfl _ _ 35 rfl w.heap.size 22 i0 (.int .u64 0) 1 8 sliceU HI.out.1 HI.out.2.1 HI.out.2.2.1 HI.out.2.2.2 rfl (by decide) _ _ _ rfl HU.out.own ⟨wk.heap.size, 0, none⟩ 1 1 [.int .u64 (undoN x : Nat)] rfl rfl (cell_one_new _ _ _) (by simp [Value.oneCell']) (by have := HU.out.few; unfold maxLen; omega) (by have := HU.out.few; omega) HU.out.below.size ?_; intro v' w1 hown' hgrow hnil hloc; have HR1 := Lib.hid (VW.add HU.out s hs2 (by omega) hown' hgrow); clear hown' hgrow hnil hloc HU) | (go_at_call 32; refine (T1.out _).mono ?_; rintro e wt ⟨rfl, hn⟩; have HR2 := Lib.hid (HR1.out.next hn); clear hn) | (go_at_call 33; refine (T2.out _).mono ?_; rintro e wp ⟨rfl, hn⟩; have HR3 := Lib.hid (HR2.out.next hn); clear hn))
            go_roundg (len1 - (j + 1))
            case rel => exact ⟨j + 1, vStep s x, _, by omega, rfl, by go_num, rfl, rfl, HR3.out⟩
            case measure => omega
          · have hs3 : s < 2 := by omega
            clear hs2
            have T1 := Lib.hid (fun W => turn_any s x (by omega) hs4 hxl W)
            have T2 := Lib.hid (fun W => program_any s x (by omega) hs4 hxl W)
            have HR1 := Lib.hid (HR.out.keep s (by omega) (by omega))
            have h5 := H5.out
            have hx := hx.out
            clear H5
            go_wp2_with (first | (go_at_call 32; refine (T1.out _).mono ?_; rintro e wt ⟨rfl, hn⟩; have HR2 := Lib.hid (HR1.out.next hn); clear hn) | (go_at_call 33; refine (T2.out _).mono ?_; rintro e wp ⟨rfl, hn⟩; have HR3 := Lib.hid (HR2.out.next hn); clear hn))
            go_roundg (len1 - (j + 1))
            case rel => exact ⟨j + 1, vStep s x, _, by omega, rfl, by go_num, rfl, rfl, HR3.out⟩
            case measure => omega
      · obtain rfl : j = len1 := by omega
        have HR := Lib.hid hr
        clear HC HA
        rcases hr.own.2 with ⟨rfl, h0⟩ | ⟨g, cap, cur, rfl, hgb, hh, h4, h5, h6, h7⟩
        · clear hr
          go_wp2
          refine wp_loop_rounds 1 ?_
          rw [rounds_succ]
          go_wp2_with (go_at_call 19; refine (awake4_any _).mono ?_; rintro e wn ⟨rfl, hn⟩)
          go_ret
          exact ⟨rfl, (HR.out.next hn).below⟩
        · clear hr
          go_wp2
          go_loopg [10] us.length (fun gk i wr2 => ∃ m : Nat, m ≤ us.length ∧ gk = us.length - m ∧ i = .int .i64 m ∧ VW w x j (.slice (some ⟨g, 0, none⟩) us.length cap) us wr2)
          case atStart => exact ⟨0, by omega, by omega, rfl, HR.out⟩
          case round =>
            clear HR hh h6 h7
            obtain ⟨m, hm, hgm, rfl, hr⟩ := hrel
            by_cases hlt2 : m < us.length
            · obtain ⟨u, hu⟩ : ∃ u, us[m]? = some u := ⟨us[m], List.getElem?_eq_getElem hlt2⟩
              have hx : wr.cell? ⟨g, m, none⟩ = some (.int .u64 (u : Nat)) := by rw [hr.own.cellAt m (by omega)]; simp [u64s, hu]
              have hne : (((undoN x : Nat) : Int) == (u : Nat)) = false := by
                have := aft_ne (hr.all u (List.mem_of_getElem? hu))
                simp; omega
              have hm2 : (m : Int) < us.length := by omega
              have hlc : (us.length : Int) ≤ cap := by omega
              have hfew := hr.few
              have hfew2 : (us.length : Int) ≤ 60 := by omega
              clear hfew
              have TP := Lib.hid (fun W => undo_any x hxl W)
              have HS : Hid (XS w g m x j u (.slice (some ⟨g, 0, none⟩) us.length cap) us wr) := Lib.hid ⟨hx, hr⟩
              clear hu hr
              generalize undoN x = y at hne TP
              go_wp2
              go_region_held3 (fun w' => w'.cell? ⟨g, m, none⟩ = some (.int .u64 (u : Nat)) ∧ VW w x j (.slice (some ⟨g, 0, none⟩) us.length cap) us w') (first | exact hs | assumption | exact XS.drew HS.out)
                (first
                  | (go_at_call 22; refine (TP.out _).mono ?_; rintro e wk ⟨rfl, hn⟩; have hs := XS.next (g := g) (m := m) (u := u) (by assumption) hn; clear hn))
              have HS2 := Lib.hid hs.2
              clear hs
              go_wp2
              go_roundg (us.length - (m + 1))
              case rel => exact ⟨m + 1, by omega, rfl, by go_num, HS2.out⟩
              case measure => omega
            · obtain rfl : m = us.length := by omega
              have HR := Lib.hid hr
              clear hr
              go_wp2_with (go_at_call 19; refine (awake4_any _).mono ?_; rintro e wn ⟨rfl, hn⟩)
              go_ret
              exact ⟨rfl, (HR.out.next hn).below⟩
  · have h60 : 60 < (len1 : Int) := by omega
    have h61 : (60 : Int) ≤ cap1 := by omega
    clear hlen
    have HC := Lib.hid hc1
    have HA := Lib.hid hA1
    clear hc1 hA1
    have HV := Lib.hid (VW.start w x0 (by omega))
    obtain ⟨i0, hi, hz0, hz1, hz2⟩ := info_parts infoU
    have HI := Lib.hid (And.intro hi (And.intro hz0 (And.intro hz1 hz2)))
    clear hi hz0 hz1 hz2
    go_enter Try.func5, Try.ntmps5
    go_wp2
    go_loopg [5, 6, 7, 8] 60 (fun g got was y i wr => ∃ (j x : Nat) (us : List Nat), j ≤ 60 ∧ g = 60 - j ∧ i = .int .i64 j ∧ got = .int .u64 (x : Nat) ∧ y = .int .u64 (x : Nat) ∧ VW w x j was us wr)
    case atStart => exact ⟨0, x0, [], by omega, by omega, rfl, rfl, rfl, HV.out⟩
    case round =>
      clear HV
      obtain ⟨j, x, us, hj, hg, rfl, rfl, rfl, hr⟩ := hrel
      have hxl := hr.lt
      by_cases hlt : j < 60
      · obtain ⟨rfl, hbl⟩ := HA.out (by omega)
        have hx : Hid (wr.cell? ⟨b1, off1 + j, none⟩ = some (.int .i64 (zs1.getD j 0))) := Lib.hid (((bcell hr.below).1 _ _ hbl).trans (HC.out j (by omega)))
        have hzw := hw1 (zs1.getD j 0) (by rw [List.getD_eq_getElem?_getD, List.getElem?_eq_getElem (by omega)]; exact List.getElem_mem (by omega))
        generalize zs1.getD j 0 = z at hx hzw
        have z1 := i64_lo hzw
        have z2 := i64_hi hzw
        have t1 : -5 < z.tmod 5 := Int.lt_tmod_of_pos z (by omega)
        have t2 : z.tmod 5 < 5 := Int.tmod_lt_of_pos z (by omega)
        obtain ⟨r, hr5⟩ : ∃ r : Int, z.tmod 5 = r := ⟨_, rfl⟩
        rw [hr5] at t1 t2
        have HR := Lib.hid hr
        have hwl := hr.below.size
        have TU := Lib.hid (fun W => rundo_any x hxl W)
        clear hr hzw
        have H5 := Lib.hid hr5
        clear hr5
        by_cases hneg : r < 0
        · obtain ⟨s, hs, hs0, hs4⟩ : ∃ s : Int, r = -s ∧ 0 < s ∧ s ≤ 4 := ⟨-r, by omega, by omega, by omega⟩
          rw [hs] at H5
          clear t1 t2 hs
          clear hneg
          by_cases hs2 : 2 ≤ s
          · have T1 := Lib.hid (fun W => turn_any s x (by omega) hs4 hxl W)
            have T2 := Lib.hid (fun W => program_any s x (by omega) hs4 hxl W)
            have h5 := H5.out
            have hx := hx.out
            clear H5
            go_wp2_with (first | (go_at_call 23; refine (TU.out _).mono ?_; rintro e wk ⟨rfl, hn⟩; have HU := Lib.hid ((HR.out.next hn).alloc (.cells #[.int .u64 (undoN x : Nat)] 22)); clear hn) | (at_builtin; refine wpList_append_own_at _ rfl _ _ 35 rfl w.heap.size 22 i0 (.int .u64 0) 1 8 sliceU HI.out.1 HI.out.2.1 HI.out.2.2.1 HI.out.2.2.2 rfl (by decide) _ _ _ rfl HU.out.own ⟨wk.heap.size, 0, none⟩ 1 1 [.int .u64 (undoN x : Nat)] rfl rfl (cell_one_new _ _ _) (by simp [Value.oneCell']) (by have := HU.out.few; unfold maxLen; omega) (by have := HU.out.few; omega) HU.out.below.size ?_; intro v' w1 hown' hgrow hnil hloc; have HR1 := Lib.hid (VW.add HU.out s hs2 (by omega) hown' hgrow); clear hown' hgrow hnil hloc HU) | (go_at_call 32; refine (T1.out _).mono ?_; rintro e wt ⟨rfl, hn⟩; have HR2 := Lib.hid (HR1.out.next hn); clear hn) | (go_at_call 33; refine (T2.out _).mono ?_; rintro e wp ⟨rfl, hn⟩; have HR3 := Lib.hid (HR2.out.next hn); clear hn))
            go_roundg (60 - (j + 1))
            case rel => exact ⟨j + 1, vStep s x, _, by omega, rfl, by go_num, rfl, rfl, HR3.out⟩
            case measure => omega
          · have hs3 : s < 2 := by omega
            clear hs2
            have T1 := Lib.hid (fun W => turn_any s x (by omega) hs4 hxl W)
            have T2 := Lib.hid (fun W => program_any s x (by omega) hs4 hxl W)
            have HR1 := Lib.hid (HR.out.keep s (by omega) (by omega))
            have h5 := H5.out
            have hx := hx.out
            clear H5
            go_wp2_with (first | (go_at_call 32; refine (T1.out _).mono ?_; rintro e wt ⟨rfl, hn⟩; have HR2 := Lib.hid (HR1.out.next hn); clear hn) | (go_at_call 33; refine (T2.out _).mono ?_; rintro e wp ⟨rfl, hn⟩; have HR3 := Lib.hid (HR2.out.next hn); clear hn))
            go_roundg (60 - (j + 1))
            case rel => exact ⟨j + 1, vStep s x, _, by omega, rfl, by go_num, rfl, rfl, HR3.out⟩
            case measure => omega
        · obtain ⟨s, hs, hs0, hs4⟩ : ∃ s : Int, r = s ∧ 0 ≤ s ∧ s ≤ 4 := ⟨r, by omega, by omega, by omega⟩
          rw [hs] at H5
          clear t1 t2 hs
          clear hneg
          by_cases hs2 : 2 ≤ s
          · have T1 := Lib.hid (fun W => turn_any s x (by omega) hs4 hxl W)
            have T2 := Lib.hid (fun W => program_any s x (by omega) hs4 hxl W)
            have h5 := H5.out
            have hx := hx.out
            clear H5
            go_wp2_with (first | (go_at_call 23; refine (TU.out _).mono ?_; rintro e wk ⟨rfl, hn⟩; have HU := Lib.hid ((HR.out.next hn).alloc (.cells #[.int .u64 (undoN x : Nat)] 22)); clear hn) | (at_builtin; refine wpList_append_own_at _ rfl _ _ 35 rfl w.heap.size 22 i0 (.int .u64 0) 1 8 sliceU HI.out.1 HI.out.2.1 HI.out.2.2.1 HI.out.2.2.2 rfl (by decide) _ _ _ rfl HU.out.own ⟨wk.heap.size, 0, none⟩ 1 1 [.int .u64 (undoN x : Nat)] rfl rfl (cell_one_new _ _ _) (by simp [Value.oneCell']) (by have := HU.out.few; unfold maxLen; omega) (by have := HU.out.few; omega) HU.out.below.size ?_; intro v' w1 hown' hgrow hnil hloc; have HR1 := Lib.hid (VW.add HU.out s hs2 (by omega) hown' hgrow); clear hown' hgrow hnil hloc HU) | (go_at_call 32; refine (T1.out _).mono ?_; rintro e wt ⟨rfl, hn⟩; have HR2 := Lib.hid (HR1.out.next hn); clear hn) | (go_at_call 33; refine (T2.out _).mono ?_; rintro e wp ⟨rfl, hn⟩; have HR3 := Lib.hid (HR2.out.next hn); clear hn))
            go_roundg (60 - (j + 1))
            case rel => exact ⟨j + 1, vStep s x, _, by omega, rfl, by go_num, rfl, rfl, HR3.out⟩
            case measure => omega
          · have hs3 : s < 2 := by omega
            clear hs2
            have T1 := Lib.hid (fun W => turn_any s x (by omega) hs4 hxl W)
            have T2 := Lib.hid (fun W => program_any s x (by omega) hs4 hxl W)
            have HR1 := Lib.hid (HR.out.keep s (by omega) (by omega))
            have h5 := H5.out
            have hx := hx.out
            clear H5
            go_wp2_with (first | (go_at_call 32; refine (T1.out _).mono ?_; rintro e wt ⟨rfl, hn⟩; have HR2 := Lib.hid (HR1.out.next hn); clear hn) | (go_at_call 33; refine (T2.out _).mono ?_; rintro e wp ⟨rfl, hn⟩; have HR3 := Lib.hid (HR2.out.next hn); clear hn))
            go_roundg (60 - (j + 1))
            case rel => exact ⟨j + 1, vStep s x, _, by omega, rfl, by go_num, rfl, rfl, HR3.out⟩
            case measure => omega
      · obtain rfl : j = 60 := by omega
        have HR := Lib.hid hr
        clear HC HA
        rcases hr.own.2 with ⟨rfl, h0⟩ | ⟨g, cap, cur, rfl, hgb, hh, h4, h5, h6, h7⟩
        · clear hr
          go_wp2
          refine wp_loop_rounds 1 ?_
          rw [rounds_succ]
          go_wp2_with (go_at_call 19; refine (awake4_any _).mono ?_; rintro e wn ⟨rfl, hn⟩)
          go_ret
          exact ⟨rfl, (HR.out.next hn).below⟩
        · clear hr
          go_wp2
          go_loopg [10] us.length (fun gk i wr2 => ∃ m : Nat, m ≤ us.length ∧ gk = us.length - m ∧ i = .int .i64 m ∧ VW w x 60 (.slice (some ⟨g, 0, none⟩) us.length cap) us wr2)
          case atStart => exact ⟨0, by omega, by omega, rfl, HR.out⟩
          case round =>
            clear HR hh h6 h7
            obtain ⟨m, hm, hgm, rfl, hr⟩ := hrel
            by_cases hlt2 : m < us.length
            · obtain ⟨u, hu⟩ : ∃ u, us[m]? = some u := ⟨us[m], List.getElem?_eq_getElem hlt2⟩
              have hx : wr.cell? ⟨g, m, none⟩ = some (.int .u64 (u : Nat)) := by rw [hr.own.cellAt m (by omega)]; simp [u64s, hu]
              have hne : (((undoN x : Nat) : Int) == (u : Nat)) = false := by
                have := aft_ne (hr.all u (List.mem_of_getElem? hu))
                simp; omega
              have hm2 : (m : Int) < us.length := by omega
              have hlc : (us.length : Int) ≤ cap := by omega
              have hfew := hr.few
              have hfew2 : (us.length : Int) ≤ 60 := by omega
              clear hfew
              have TP := Lib.hid (fun W => undo_any x hxl W)
              have HS : Hid (XS w g m x 60 u (.slice (some ⟨g, 0, none⟩) us.length cap) us wr) := Lib.hid ⟨hx, hr⟩
              clear hu hr
              generalize undoN x = y at hne TP
              go_wp2
              go_region_held3 (fun w' => w'.cell? ⟨g, m, none⟩ = some (.int .u64 (u : Nat)) ∧ VW w x 60 (.slice (some ⟨g, 0, none⟩) us.length cap) us w') (first | exact hs | assumption | exact XS.drew HS.out)
                (first
                  | (go_at_call 22; refine (TP.out _).mono ?_; rintro e wk ⟨rfl, hn⟩; have hs := XS.next (g := g) (m := m) (u := u) (by assumption) hn; clear hn))
              have HS2 := Lib.hid hs.2
              clear hs
              go_wp2
              go_roundg (us.length - (m + 1))
              case rel => exact ⟨m + 1, by omega, rfl, by go_num, HS2.out⟩
              case measure => omega
            · obtain rfl : m = us.length := by omega
              have HR := Lib.hid hr
              clear hr
              go_wp2_with (go_at_call 19; refine (awake4_any _).mono ?_; rintro e wn ⟨rfl, hn⟩)
              go_ret
              exact ⟨rfl, (HR.out.next hn).below⟩

set_option maxRecDepth 100000 in
theorem lifted (os : Os) (started : os.Started) (H : Type) (enc : TypeId × Value → H) :
    ReturnsInHanded {} Try.checked os 5 .any (Rows.vwordAfterSpec.pre6 enc Try.prog Try.f5 Rows.vwordAfterRow.domain false) (Rows.vwordAfterSpec.post enc Try.prog Try.f5 false true false false) := by
  refine returnsInHanded_of_change (C := Try.checked) own started (by kernel_rfl) Try.func5
    (ChangeSpec.witness6 (enc := enc) (C := Try.checked) false ⟨#[], #[.int .u64 0, .slice none 0 0], []⟩ 8 (by kernel_rfl) (by kernel_rfl) (by kernel_rfl) (by kernel_rfl)) ?_
  intro W base args ds gs before hval0 hW hcnd _
  have hval : ∀ (j : Nat) t v, Try.f5.params[j]? = some t → args[j]? = some v → Value.okWide Try.prog W .any base t v := hval0
  have hW' := hW
  obtain ⟨p, q, hA0, hV, rfl, hfz, hnd⟩ := hW
  have hA : DataW.TrodAll enc Try.prog W 0 (fun _ => true) true Try.f5.params.toList args.toList ds p := hA0
  rw [Try.params5] at hA hval
  obtain ⟨v0, vs0, d0, ds0, p0, q0, hargs, rfl, rfl, h0, r0⟩ := trodAll_cons hA
  obtain ⟨v1, vs1, d1, ds1, p1, q1, rfl, rfl, rfl, h1, r1⟩ := trodAll_cons r0
  obtain ⟨rfl, rfl, rfl⟩ := trodAll_nil r1
  obtain rfl : args = #[v0, v1] := by cases args; simp_all
  obtain ⟨rfl, rfl⟩ := trodVars_none hV
  obtain ⟨a0, rfl, rfl, rfl, w0⟩ := open_int Try.underlying22 (hval 0 22 v0 rfl rfl) h0
  obtain ⟨A1, len1, cap1, rfl⟩ := okWide_slice Try.underlying34 (hval 1 34 v1 rfl rfl)
  have k1 := h1
  obtain ⟨b1, off1, zs1, hl1, hm1, hA1, hc1, hw1⟩ := open_slice Try.underlying34 Try.underlying3 cells3 h1
  clear hA0 hval0
  simp only [List.append_nil, List.nil_append] at hW'
  have hlt1 : ∀ x ∈ p1, x.block < W.heap.size := fun x hx => by simpa using hW'.lt x (by simp [hx])
  refine (walk W a0 w0 A1 len1 cap1 b1 off1 zs1 hl1 hm1 hA1 hc1 hw1).mono fun e W' ⟨he, hg⟩ => ?_
  subst he
  exact ⟨_, rfl, post_of_below2 (pv := []) hW' (fun _ _ _ => (trodAll_cons_mk (shut_bool Try.underlying4 _) trodAll_mk0)) (trodAll_cons_mk (shut_int Try.underlying22 w0) (trodAll_cons_mk (Below.trod laidOut (by kernel_rfl) (of_decide_eq_true (by kernel_rfl)) k1 hg hlt1) trodAll_mk0)) rfl (by simp) (hg.frame _)⟩

theorem over : Rows.vwordAfterRow.holds Try.pinned (OpenSpec.ofChange Rows.vwordAfterSpec) :=
  OpenClaim.holds_of_wide 5 Try.f5 rfl rfl rfl rfl rfl rfl rfl ⟨rfl, rfl, rfl, rfl, rfl⟩ rfl rfl rfl rfl rfl (by kernel_rfl) Try.func5 (by kernel_rfl)
    (of_decide_eq_true (by kernel_rfl)) (by unfold Func.isWrapper; first | (rw [if_pos (by decide +kernel)]; kernel_rfl) | (rw [if_neg (by decide +kernel)]; exact ⟨rfl, rfl⟩))
    (fun os started H enc _ => lifted os started H enc)

theorem proved : Rows.VwordAfterSaid :=
  over
#print axioms proved
end Go.Proofs.Ytmpfajnieanfnaa.vwordAfter
