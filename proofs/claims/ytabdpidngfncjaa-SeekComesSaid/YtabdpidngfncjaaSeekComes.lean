/- gleaninglaw11.SeekComes: for every input the law returns true, and leaves its arguments as they were. No condition. -/
import Derived.Test.YtabdpidngfncjaaRows
import Derived.WalkKit
import Derived.Deep.QuietTactic
import Derived.BigQuiet
import Derived.Deep.LoopGhost
import Derived.Test.YtabdpidngfncjaaSeekCount
import Derived.Test.YtabdpidngfncjaaFrame
import Derived.ProofKit
import Derived.OpenShut
namespace Go.Proofs.Ytabdpidngfncjaa.seekComes
open Go.ChangeShapes Go.WideShapes Go.ChangeAt Go.RowKit
set_option linter.unusedVariables false

theorem own : ownKnob Try.prog.godebug = none := by kernel_rfl
theorem laidOut : laidOutB Try.prog = true := by kernel_rfl
theorem cells22 : Try.prog.cellsOf 22 = 1 := by kernel_rfl

set_option maxHeartbeats 4000000 in
theorem walk (w : World) (a0 : Int) (w0 : (Lit.int .i64 a0).wf = true) (A1 : Option Addr) (len1 cap1 b1 off1 : Nat) (zs1 : List Int) (hl1 : zs1.length = len1) (hm1 : len1 ≤ cap1 ∧ len1 ≤ maxLen) (hA1 : 0 < len1 → A1 = some ⟨b1, off1, none⟩ ∧ b1 < w.heap.size) (hc1 : ∀ i, i < len1 → w.cell? ⟨b1, off1 + i, none⟩ = some (.int .u64 (zs1.getD i 0))) (hw1 : ∀ n ∈ zs1, (Lit.int .u64 n).wf = true) (a2 : Int) (w2 : (Lit.int .u64 a2).wf = true) :
    Calls Try.prog 4 #[.int .i64 a0, .slice A1 len1 cap1, .int .u64 a2] w fun e w' => e = .returned (.bool true) ∧ Below w.heap.size w w' := by
  subst hl1
  have A11 := Lib.hid (fun W => awake11_any W)
  by_cases hz : 0 < zs1.length
  · obtain ⟨rfl, hbl⟩ := hA1 hz
    have HC := Lib.hid hc1
    have hm := hm1.2
    have hcap := hm1.1
    unfold maxLen at hm
    clear hA1 hc1
    by_cases h200 : zs1.length ≤ 200
    · have hd : decide ((200 : Int) < (zs1.length : Int)) = false := by simp; omega
      go_enter Try.func4, Try.ntmps4
      go_wp2
      go_loopg [1, 7] zs1.length (fun g t i wr => ∃ n j : Nat, g + j = zs1.length ∧ 1 ≤ n ∧ n ≤ zs1.length ∧ j ≤ n ∧ t = .slice (some ⟨b1, off1, none⟩) n cap1 ∧ i = .int .i64 (j + 1 : Nat) ∧ Hid (rises zs1 (min (j + 1) n)) ∧ ∃ nd, wr = w.drewN nd)
      case atStart => exact ⟨zs1.length, 0, by omega, by omega, by omega, by omega, rfl, rfl, fun j hj => by omega, 0, rfl⟩
      case round =>
        obtain ⟨n, j, hgj, hn1, hnN, hjn, rfl, rfl, hri, nd, rfl⟩ := hrel
        by_cases hlt : j + 1 < n
        · have hx := HC.out (j + 1) (by omega)
          have hy := HC.out j (by omega)
          have c1 : IntKind.i64.wrap ((j : Int) + 1 - 1) = (j : Int) := by rw [IntWalk.i64_in _ (by omega)]; omega
          obtain ⟨x, hxe⟩ : ∃ x, x = zs1.getD (j + 1) 0 := ⟨_, rfl⟩
          obtain ⟨y, hye⟩ : ∃ y, y = zs1.getD j 0 := ⟨_, rfl⟩
          rw [← hxe] at hx
          rw [← hye] at hy
          have HX := Lib.hid hxe
          have HY := Lib.hid hye
          clear hxe hye
          by_cases hc : x < y
          · go_wp2
            go_quiet (fail)
            go_wp2
            go_roundg (gk - 1)
            case rel => exact ⟨j + 1, j + 1, by omega, by omega, by omega, by omega, rfl, by go_num, fun i hi => hri.out i (by omega), _, rfl⟩
            case measure => omega
          · go_wp2
            go_quiet (fail)
            go_wp2
            go_roundg (gk - 1)
            case rel => exact ⟨n, j + 1, by omega, by omega, by omega, by omega, rfl, by go_num, fun i hi => (by
                by_cases h : i + 1 < j + 1
                · exact hri.out i (by omega)
                · have : i = j := by omega
                  subst this
                  rw [← HX.out, ← HY.out]; omega), _, rfl⟩
            case measure => omega
        · have hrise : rises zs1 n := fun i hi => hri.out i (by omega)
          clear hri
          have HR := Lib.hid hrise
          by_cases hk : a0 = 1 ∨ a0 = 2
          · have E := of_counts a0 a2 zs1 n (by omega) hk hrise
            have CC := Lib.hid (count_any a0 a2 zs1 n b1 off1 cap1 hk (by unfold maxLen; omega) (w.drewN nd) (fun i hi => HC.out i (by omega)))
            have CO := sof_cut a0 a2 zs1 n b1 off1 cap1 (by omega) (by unfold maxLen; omega) (w.drewN nd) hbl (fun i hi => HC.out i (by omega))
            rw [E] at CO
            have CO := Lib.hid CO
            have hle := cntN_le a0 a2 zs1 n
            generalize cntN a0 a2 zs1 n = u at CC CO hle
            clear E hrise
            rcases hk with rfl | rfl
            all_goals
              go_wp2_with (first | (go_at_call 20; (with_reducible refine CC.out.mono ?_); rintro e w' ⟨rfl, rfl⟩) | (go_at_call 21; (with_reducible refine CO.out.mono ?_); rintro e un ⟨rfl, hn1⟩; have HB1 := Lib.hid hn1; clear hn1) | (go_at_call 11; refine (A11.out _).mono ?_; rintro e un2 ⟨rfl, hn2⟩; have HB2 := Lib.hid hn2; clear hn2))
              go_ret
              exact ⟨rfl, (below_drewN (Below.refl _ w) nd).trans ((HB1.out.trans (HB2.out.mono HB1.out.size)))⟩
          · have CO := sof_cut a0 a2 zs1 n b1 off1 cap1 (by omega) (by unfold maxLen; omega) (w.drewN nd) hbl (fun i hi => HC.out i (by omega))
            rw [of_none a0 a2 _ hk] at CO
            have CO := Lib.hid CO
            have k1 : (a0 == 1) = false := by simp; omega
            have k2 : (a0 == 2) = false := by simp; omega
            clear hrise hk
            go_wp2_with (first | (go_at_call 21; (with_reducible refine CO.out.mono ?_); rintro e un ⟨rfl, hn1⟩; have HB1 := Lib.hid hn1; clear hn1) | (go_at_call 11; refine (A11.out _).mono ?_; rintro e un2 ⟨rfl, hn2⟩; have HB2 := Lib.hid hn2; clear hn2))
            go_ret
            exact ⟨rfl, (below_drewN (Below.refl _ w) nd).trans ((HB1.out.trans (HB2.out.mono HB1.out.size)))⟩
    · have hd : decide ((200 : Int) < (zs1.length : Int)) = true := by simp; omega
      go_enter Try.func4, Try.ntmps4
      go_wp2
      go_loopg [1, 7] 200 (fun g t i wr => ∃ n j : Nat, g + j = 200 ∧ 1 ≤ n ∧ n ≤ 200 ∧ j ≤ n ∧ t = .slice (some ⟨b1, off1, none⟩) n cap1 ∧ i = .int .i64 (j + 1 : Nat) ∧ Hid (rises zs1 (min (j + 1) n)) ∧ ∃ nd, wr = w.drewN nd)
      case atStart => exact ⟨200, 0, by omega, by omega, by omega, by omega, rfl, rfl, fun j hj => by omega, 0, rfl⟩
      case round =>
        obtain ⟨n, j, hgj, hn1, hnN, hjn, rfl, rfl, hri, nd, rfl⟩ := hrel
        by_cases hlt : j + 1 < n
        · have hx := HC.out (j + 1) (by omega)
          have hy := HC.out j (by omega)
          have c1 : IntKind.i64.wrap ((j : Int) + 1 - 1) = (j : Int) := by rw [IntWalk.i64_in _ (by omega)]; omega
          obtain ⟨x, hxe⟩ : ∃ x, x = zs1.getD (j + 1) 0 := ⟨_, rfl⟩
          obtain ⟨y, hye⟩ : ∃ y, y = zs1.getD j 0 := ⟨_, rfl⟩
          rw [← hxe] at hx
          rw [← hye] at hy
          have HX := Lib.hid hxe
          have HY := Lib.hid hye
          clear hxe hye
          by_cases hc : x < y
          · go_wp2
            go_quiet (fail)
            go_wp2
            go_roundg (gk - 1)
            case rel => exact ⟨j + 1, j + 1, by omega, by omega, by omega, by omega, rfl, by go_num, fun i hi => hri.out i (by omega), _, rfl⟩
            case measure => omega
          · go_wp2
            go_quiet (fail)
            go_wp2
            go_roundg (gk - 1)
            case rel => exact ⟨n, j + 1, by omega, by omega, by omega, by omega, rfl, by go_num, fun i hi => (by
                by_cases h : i + 1 < j + 1
                · exact hri.out i (by omega)
                · have : i = j := by omega
                  subst this
                  rw [← HX.out, ← HY.out]; omega), _, rfl⟩
            case measure => omega
        · have hrise : rises zs1 n := fun i hi => hri.out i (by omega)
          clear hri
          have HR := Lib.hid hrise
          by_cases hk : a0 = 1 ∨ a0 = 2
          · have E := of_counts a0 a2 zs1 n (by omega) hk hrise
            have CC := Lib.hid (count_any a0 a2 zs1 n b1 off1 cap1 hk (by unfold maxLen; omega) (w.drewN nd) (fun i hi => HC.out i (by omega)))
            have CO := sof_cut a0 a2 zs1 n b1 off1 cap1 (by omega) (by unfold maxLen; omega) (w.drewN nd) hbl (fun i hi => HC.out i (by omega))
            rw [E] at CO
            have CO := Lib.hid CO
            have hle := cntN_le a0 a2 zs1 n
            generalize cntN a0 a2 zs1 n = u at CC CO hle
            clear E hrise
            rcases hk with rfl | rfl
            all_goals
              go_wp2_with (first | (go_at_call 20; (with_reducible refine CC.out.mono ?_); rintro e w' ⟨rfl, rfl⟩) | (go_at_call 21; (with_reducible refine CO.out.mono ?_); rintro e un ⟨rfl, hn1⟩; have HB1 := Lib.hid hn1; clear hn1) | (go_at_call 11; refine (A11.out _).mono ?_; rintro e un2 ⟨rfl, hn2⟩; have HB2 := Lib.hid hn2; clear hn2))
              go_ret
              exact ⟨rfl, (below_drewN (Below.refl _ w) nd).trans ((HB1.out.trans (HB2.out.mono HB1.out.size)))⟩
          · have CO := sof_cut a0 a2 zs1 n b1 off1 cap1 (by omega) (by unfold maxLen; omega) (w.drewN nd) hbl (fun i hi => HC.out i (by omega))
            rw [of_none a0 a2 _ hk] at CO
            have CO := Lib.hid CO
            have k1 : (a0 == 1) = false := by simp; omega
            have k2 : (a0 == 2) = false := by simp; omega
            clear hrise hk
            go_wp2_with (first | (go_at_call 21; (with_reducible refine CO.out.mono ?_); rintro e un ⟨rfl, hn1⟩; have HB1 := Lib.hid hn1; clear hn1) | (go_at_call 11; refine (A11.out _).mono ?_; rintro e un2 ⟨rfl, hn2⟩; have HB2 := Lib.hid hn2; clear hn2))
            go_ret
            exact ⟨rfl, (below_drewN (Below.refl _ w) nd).trans ((HB1.out.trans (HB2.out.mono HB1.out.size)))⟩
  · have hz0 : zs1.length = 0 := by omega
    rw [hz0]
    have CO := sof_any a0 a2 [] A1 0 0 cap1 (by simp) w (fun h => by simp at h) (fun i hi => by simp at hi)
    have e0 : ofN a0 [] a2 = 0 := by
      by_cases hk : a0 = 1 ∨ a0 = 2
      · exact of_counts a0 a2 [] 0 (by simp) hk (fun i hi => by omega)
      · exact of_none a0 a2 [] hk
    rw [e0] at CO
    simp only [List.length_nil] at CO
    have CO := Lib.hid CO
    have CC := Lib.hid (fun k W => count_zero k a2 A1 cap1 W)
    have hkk : a0 = 1 ∨ a0 = 2 ∨ ((a0 == 1) = false ∧ (a0 == 2) = false) := by
      by_cases h1 : a0 = 1
      · exact .inl h1
      · by_cases h2 : a0 = 2
        · exact .inr (.inl h2)
        · exact .inr (.inr ⟨by simp; omega, by simp; omega⟩)
    clear e0 hA1 hc1 hz
    rcases hkk with rfl | rfl | ⟨k1, k2⟩
    all_goals
      go_enter Try.func4, Try.ntmps4
      go_wp2
      refine wp_loop_rounds 1 ?_
      rw [rounds_succ]
      go_wp2_with (first | (go_at_call 20; (with_reducible refine (CC.out _ _).mono ?_); rintro e w' ⟨rfl, rfl⟩) | (go_at_call 21; (with_reducible refine CO.out.mono ?_); rintro e un ⟨rfl, hn1⟩; have HB1 := Lib.hid hn1; clear hn1) | (go_at_call 11; refine (A11.out _).mono ?_; rintro e un2 ⟨rfl, hn2⟩; have HB2 := Lib.hid hn2; clear hn2))
      go_ret
      exact ⟨rfl, HB1.out.trans (HB2.out.mono HB1.out.size)⟩

set_option maxRecDepth 100000 in
theorem lifted (os : Os) (started : os.Started) (H : Type) (enc : TypeId × Value → H) :
    ReturnsInHanded {} Try.checked os 4 .any (Rows.seekComesSpec.pre6 enc Try.prog Try.f4 Rows.seekComesRow.domain false) (Rows.seekComesSpec.post enc Try.prog Try.f4 false true false false) := by
  refine returnsInHanded_of_change (C := Try.checked) own started (by kernel_rfl) Try.func4
    (ChangeSpec.witness6 (enc := enc) (C := Try.checked) false ⟨#[], #[.int .i64 0, .slice none 0 0, .int .u64 0], []⟩ 8 (by kernel_rfl) (by kernel_rfl) (by kernel_rfl) (by kernel_rfl)) ?_
  intro W base args ds gs before hval0 hW hcnd _
  have hval : ∀ (j : Nat) t v, Try.f4.params[j]? = some t → args[j]? = some v → Value.okWide Try.prog W .any base t v := hval0
  have hW' := hW
  obtain ⟨p, q, hA0, hV, rfl, hfz, hnd⟩ := hW
  have hA : DataW.TrodAll enc Try.prog W 0 (fun _ => true) true Try.f4.params.toList args.toList ds p := hA0
  rw [Try.params4] at hA hval
  obtain ⟨v0, vs0, d0, ds0, p0, q0, hargs, rfl, rfl, h0, r0⟩ := trodAll_cons hA
  obtain ⟨v1, vs1, d1, ds1, p1, q1, rfl, rfl, rfl, h1, r1⟩ := trodAll_cons r0
  obtain ⟨v2, vs2, d2, ds2, p2, q2, rfl, rfl, rfl, h2, r2⟩ := trodAll_cons r1
  obtain ⟨rfl, rfl, rfl⟩ := trodAll_nil r2
  obtain rfl : args = #[v0, v1, v2] := by cases args; simp_all
  obtain ⟨rfl, rfl⟩ := trodVars_none hV
  obtain ⟨a0, rfl, rfl, rfl, w0⟩ := open_int Try.underlying3 (hval 0 3 v0 rfl rfl) h0
  obtain ⟨A1, len1, cap1, rfl⟩ := okWide_slice Try.underlying23 (hval 1 23 v1 rfl rfl)
  have k1 := h1
  obtain ⟨b1, off1, zs1, hl1, hm1, hA1, hc1, hw1⟩ := open_slice Try.underlying23 Try.underlying22 cells22 h1
  obtain ⟨a2, rfl, rfl, rfl, w2⟩ := open_int Try.underlying22 (hval 2 22 v2 rfl rfl) h2
  clear hA0 hval0
  simp only [List.append_nil, List.nil_append] at hW'
  have hlt1 : ∀ x ∈ p1, x.block < W.heap.size := fun x hx => by simpa using hW'.lt x (by simp [hx])
  refine (walk W a0 w0 A1 len1 cap1 b1 off1 zs1 hl1 hm1 hA1 hc1 hw1 a2 w2).mono fun e W' ⟨he, hg⟩ => ?_
  subst he
  exact ⟨_, rfl, post_of_below2 (pv := []) hW' (fun _ _ _ => (trodAll_cons_mk (shut_bool Try.underlying4 _) trodAll_mk0)) (trodAll_cons_mk (shut_int Try.underlying3 w0) (trodAll_cons_mk (Below.trod laidOut (by kernel_rfl) (of_decide_eq_true (by kernel_rfl)) k1 hg hlt1) (trodAll_cons_mk (shut_int Try.underlying22 w2) trodAll_mk0))) rfl (by simp) (hg.frame _)⟩

theorem over : Rows.seekComesRow.holds Try.pinned (OpenSpec.ofChange Rows.seekComesSpec) :=
  OpenClaim.holds_of_wide 4 Try.f4 rfl rfl rfl rfl rfl rfl rfl ⟨rfl, rfl, rfl, rfl, rfl⟩ rfl rfl rfl rfl rfl (by kernel_rfl) Try.func4 (by kernel_rfl)
    (of_decide_eq_true (by kernel_rfl)) (by unfold Func.isWrapper; first | (rw [if_pos (by decide +kernel)]; kernel_rfl) | (rw [if_neg (by decide +kernel)]; exact ⟨rfl, rfl⟩))
    (fun os started H enc _ => lifted os started H enc)

theorem proved : Rows.SeekComesSaid :=
  over
#print axioms proved
end Go.Proofs.Ytabdpidngfncjaa.seekComes
