/- gleaninglaw16.LimboCovers: for every input the law returns true, and leaves its arguments as they were. No condition. -/
import Derived.Test.YtdljnfioponegaaRows
import Derived.WalkKit
import Derived.Test.YtdljnfioponegaaLim6
import Derived.Test.YtdljnfioponegaaTail
import Derived.Test.YtdljnfioponegaaFrame
import Derived.ProofKit
import Derived.OpenShut
namespace Go.Proofs.Ytdljnfioponegaa.limboCovers
open Go.ChangeShapes Go.WideShapes Go.ChangeAt Go.RowKit
set_option linter.unusedVariables false

theorem own : ownKnob Try.prog.godebug = none := by kernel_rfl
theorem laidOut : laidOutB Try.prog = true := by kernel_rfl
theorem cells23 : Try.prog.cellsOf 23 = 1 := by kernel_rfl
theorem rdU_of {w : World} {A : Option Addr} {len b off : Nat} {zs : List Int} (hl : zs.length = len) (hA : 0 < len → A = some ⟨b, off, none⟩ ∧ b < w.heap.size) (hc : ∀ i, i < len → w.cell? ⟨b, off + i, none⟩ = some (.int .u64 (zs.getD i 0))) (hw : ∀ n ∈ zs, (Lit.int .u64 n).wf = true) :
    RdU w A b off (zs.map Int.toNat) ∧ (∀ r ∈ zs.map Int.toNat, r < 18446744073709551616) ∧ (zs.map Int.toNat).length = len := by
  have hlen : (zs.map Int.toNat).length = len := by simpa using hl
  refine ⟨⟨fun h => (hA (by omega)).1, fun h => (hA (by omega)).2, fun j hj => ?_⟩, fun r hr => ?_, hlen⟩
  · have hj' : j < zs.length := by simpa using hj
    rw [hc j (by omega)]
    have h1 : (zs.map Int.toNat).getD j 0 = (zs.getD j 0).toNat := by simp [List.getD, hj']
    have h2 : zs.getD j 0 ∈ zs := by rw [List.getD_eq_getElem?_getD, List.getElem?_eq_getElem hj']; exact List.getElem_mem hj'
    have h3 := u64_lo (hw _ h2)
    rw [h1, Int.toNat_of_nonneg h3]
  · obtain ⟨z, hz, rfl⟩ := List.mem_map.1 hr
    have h1 := u64_lo (hw z hz); have h2 := u64_hi (hw z hz)
    omega

set_option maxHeartbeats 4000000 in
theorem walk (w : World) (A0 : Option Addr) (len0 cap0 b0 off0 : Nat) (zs0 : List Int) (hl0 : zs0.length = len0) (hm0 : len0 ≤ cap0 ∧ len0 ≤ maxLen) (hA0 : 0 < len0 → A0 = some ⟨b0, off0, none⟩ ∧ b0 < w.heap.size) (hc0 : ∀ i, i < len0 → w.cell? ⟨b0, off0 + i, none⟩ = some (.int .u64 (zs0.getD i 0))) (hw0 : ∀ n ∈ zs0, (Lit.int .u64 n).wf = true) (A1 : Option Addr) (len1 cap1 b1 off1 : Nat) (zs1 : List Int) (hl1 : zs1.length = len1) (hm1 : len1 ≤ cap1 ∧ len1 ≤ maxLen) (hA1 : 0 < len1 → A1 = some ⟨b1, off1, none⟩ ∧ b1 < w.heap.size) (hc1 : ∀ i, i < len1 → w.cell? ⟨b1, off1 + i, none⟩ = some (.int .u64 (zs1.getD i 0))) (hw1 : ∀ n ∈ zs1, (Lit.int .u64 n).wf = true) :
    Calls Try.prog 4 #[.slice A0 len0 cap0, .slice A1 len1 cap1] w fun e w' => e = .returned (.bool true) ∧ Below w.heap.size w w' := by
  have AW := Lib.hid awake16_any
  obtain ⟨hU0, hB0, hn0⟩ := rdU_of hl0 hA0 hc0 hw0
  obtain ⟨hU1, hB1, hn1⟩ := rdU_of hl1 hA1 hc1 hw1
  clear hl0 hA0 hc0 hw0 hl1 hA1 hc1 hw1
  generalize zs0.map Int.toNat = us at hU0 hB0 hn0
  generalize zs1.map Int.toNat = hs at hU1 hB1 hn1
  by_cases hlen : (len0 : Int) ≤ 100
  · by_cases hlen1 : (len1 : Int) ≤ 100
    · have hln : len0 ≤ 100 := by omega
      have hln1 : len1 ≤ 100 := by omega
      subst hn0
      subst hn1
      have C := Lib.hid (covered_any us hs (by omega) hB0 (by omega) hB1 A0 b0 off0 cap0 A1 b1 off1 cap1 w hU0 hU1)
      have e1 : (fun u : Nat => cov u hs == true) = fun u => cov u hs := by funext u; simp
      have e2 : (fun u : Nat => cov u hs == false) = fun u => !(cov u hs) := by funext u; cases cov u hs <;> rfl
      have T1 : RowKit.Hid (∀ W : World, RdU W A0 b0 off0 us → RdU W A1 b1 off1 hs → Calls Try.prog 19 #[.slice A0 us.length cap0, .slice A1 hs.length cap1, .bool true] W fun x w' => ∃ v, x = .returned v ∧ OW W.heap.size W v (us.filter fun u => cov u hs) w') := Lib.hid (fun W h k => by have := rcovered_any us hs (by omega) hB0 (by omega) true A0 b0 off0 cap0 A1 b1 off1 cap1 W h k; rw [e1] at this; exact this)
      have T2 : RowKit.Hid (∀ W : World, RdU W A0 b0 off0 us → RdU W A1 b1 off1 hs → Calls Try.prog 19 #[.slice A0 us.length cap0, .slice A1 hs.length cap1, .bool false] W fun x w' => ∃ v, x = .returned v ∧ OW W.heap.size W v (us.filter fun u => !(cov u hs)) w') := Lib.hid (fun W h k => by have := rcovered_any us hs (by omega) hB0 (by omega) false A0 b0 off0 cap0 A1 b1 off1 cap1 W h k; rw [e2] at this; exact this)
      have F1 := Lib.hid (show (us.filter fun u => cov u hs).length ≤ 100000 by have := List.length_filter_le (fun u : Nat => cov u hs) us; omega)
      have F2 := Lib.hid (show (us.filter fun u => !(cov u hs)).length ≤ 100000 by have := List.length_filter_le (fun u : Nat => !(cov u hs)) us; omega)
      have H0 := Lib.hid hU0
      have H1 := Lib.hid hU1
      clear hU0 hU1 hB0 hB1 e1 e2
      obtain ⟨len0, hN0⟩ : ∃ n, n = us.length := ⟨_, rfl⟩
      obtain ⟨len1, hN1⟩ : ∃ n, n = hs.length := ⟨_, rfl⟩
      rw [← hN0] at hlen hln hm0 C T1 T2 ⊢
      rw [← hN1] at hlen1 hln1 hm1 C T1 T2 ⊢
      clear hN0 hN1
      have t1 : True := trivial
      have t2 : True := trivial
      have s1 : True := trivial
      have s2 : True := trivial
      go_enter Try.func4, Try.ntmps4
      go_wp2_with (first
        | (go_at_call 17; refine C.out.mono ?_; rintro e u1 ⟨v1, v2, rfl, ho⟩; obtain ⟨A3, p3, b3, rfl, R3⟩ := RdU.of_own ho.o1; obtain ⟨A4, p4, b4, rfl, R4⟩ := RdU.of_own ho.o2; have Q3 := Lib.hid R3; have Q4 := Lib.hid R4; have K1 := Lib.hid ho.bl; clear ho R3 R4)
        | (go_at_call 19; have _t := t1; refine (T1.out _ (H0.out.next K1.out) (H1.out.next K1.out)).mono ?_; rintro e u2 ⟨v, rfl, ho⟩; clear t1; obtain ⟨A5, p5, b5, rfl, R5⟩ := RdU.of_own ho.own; have Q5 := Lib.hid R5; have Q3' := Lib.hid (Q3.out.next ho.bl); have Q4' := Lib.hid (Q4.out.next ho.bl); have K2 := Lib.hid (K1.out.trans (ho.bl.mono K1.out.size)); clear ho R5 Q3 Q4)
        | (go_at_call 18; have _t := s1; refine (rwords_any _ F1.out _ _ _ _ _ _ _ _ _ Q3'.out Q5.out).mono ?_; rintro e u3 ⟨rfl, hn⟩; clear s1; have Q4'' := Lib.hid (Q4'.out.next hn); have K3 := Lib.hid (K2.out.trans (hn.mono K2.out.size)); clear hn Q4')
        | (go_at_call 19; have _t := t2; refine (T2.out _ (H0.out.next K3.out) (H1.out.next K3.out)).mono ?_; rintro e u4 ⟨v, rfl, ho⟩; clear t2; obtain ⟨A6, p6, b6, rfl, R6⟩ := RdU.of_own ho.own; have Q6 := Lib.hid R6; have Q7 := Lib.hid (Q4''.out.next ho.bl); have K4 := Lib.hid (K3.out.trans (ho.bl.mono K3.out.size)); clear ho R6 Q4'')
        | (go_at_call 18; have _t := s2; refine (rwords_any _ F2.out _ _ _ _ _ _ _ _ _ Q7.out Q6.out).mono ?_; rintro e u5 ⟨rfl, hn⟩; clear s2; have K5 := Lib.hid (K4.out.trans (hn.mono K4.out.size)); clear hn)
        | (go_at_call 7; refine (AW.out _).mono ?_; rintro e u6 ⟨rfl, hn⟩))
      go_ret
      exact ⟨rfl, K5.out.trans (hn.mono K5.out.size)⟩
    · have h20 : 100 < (len1 : Int) := by omega
      clear hU0 hU1 hB0 hB1 hn0 hn1
      go_enter Try.func4, Try.ntmps4
      go_wp2_with (go_at_call 7; refine (AW.out _).mono ?_; rintro e un ⟨rfl, hn⟩)
      go_ret
      exact ⟨rfl, hn⟩
  · have h20 : 100 < (len0 : Int) := by omega
    clear hU0 hU1 hB0 hB1 hn0 hn1
    go_enter Try.func4, Try.ntmps4
    go_wp2_with (go_at_call 7; refine (AW.out _).mono ?_; rintro e un ⟨rfl, hn⟩)
    go_ret
    exact ⟨rfl, hn⟩

set_option maxRecDepth 100000 in
theorem lifted (os : Os) (started : os.Started) (H : Type) (enc : TypeId × Value → H) :
    ReturnsInHanded {} Try.checked os 4 .any (Rows.limboCoversSpec.pre6 enc Try.prog Try.f4 Rows.limboCoversRow.domain false) (Rows.limboCoversSpec.post enc Try.prog Try.f4 false true false false) := by
  refine returnsInHanded_of_change (C := Try.checked) own started (by kernel_rfl) Try.func4
    (ChangeSpec.witness6 (enc := enc) (C := Try.checked) false ⟨#[], #[.slice none 0 0, .slice none 0 0], []⟩ 8 (by kernel_rfl) (by kernel_rfl) (by kernel_rfl) (by kernel_rfl)) ?_
  intro W base args ds gs before hval0 hW hcnd _
  have hval : ∀ (j : Nat) t v, Try.f4.params[j]? = some t → args[j]? = some v → Value.okWide Try.prog W .any base t v := hval0
  have hW' := hW
  obtain ⟨p, q, hA0, hV, rfl, hfz, hnd⟩ := hW
  have hA : DataW.TrodAll enc Try.prog W 0 (fun _ => true) true Try.f4.params.toList args.toList ds p := hA0
  rw [Try.params4] at hA hval
  obtain ⟨v0, vs0, d0, ds0, p0, q0, hargs, rfl, rfl, h0, r0⟩ := trodAll_cons hA
  obtain ⟨v1, vs1, d1, ds1, p1, q1, rfl, rfl, rfl, h1, r1⟩ := trodAll_cons r0
  obtain ⟨rfl, rfl, rfl⟩ := trodAll_nil r1
  obtain rfl : args = #[v0, v1] := by cases args; simp_all
  obtain ⟨rfl, rfl⟩ := trodVars_none hV
  obtain ⟨A0, len0, cap0, rfl⟩ := okWide_slice Try.underlying29 (hval 0 29 v0 rfl rfl)
  have k0 := h0
  obtain ⟨b0, off0, zs0, hl0, hm0, hA0, hc0, hw0⟩ := open_slice Try.underlying29 Try.underlying23 cells23 h0
  obtain ⟨A1, len1, cap1, rfl⟩ := okWide_slice Try.underlying29 (hval 1 29 v1 rfl rfl)
  have k1 := h1
  obtain ⟨b1, off1, zs1, hl1, hm1, hA1, hc1, hw1⟩ := open_slice Try.underlying29 Try.underlying23 cells23 h1
  clear hA0 hval0
  simp only [List.append_nil] at hW'
  have hlt0 : ∀ x ∈ p0, x.block < W.heap.size := fun x hx => by simpa using hW'.lt x (by simp [hx])
  have hlt1 : ∀ x ∈ p1, x.block < W.heap.size := fun x hx => by simpa using hW'.lt x (by simp [hx])
  refine (walk W A0 len0 cap0 b0 off0 zs0 hl0 hm0 hA0 hc0 hw0 A1 len1 cap1 b1 off1 zs1 hl1 hm1 hA1 hc1 hw1).mono fun e W' ⟨he, hg⟩ => ?_
  subst he
  exact ⟨_, rfl, post_of_below2 (pv := []) hW' (fun _ _ _ => (trodAll_cons_mk (shut_bool Try.underlying4 _) trodAll_mk0)) (trodAll_cons_mk (Below.trod laidOut (by kernel_rfl) (of_decide_eq_true (by kernel_rfl)) k0 hg hlt0) (trodAll_cons_mk (Below.trod laidOut (by kernel_rfl) (of_decide_eq_true (by kernel_rfl)) k1 hg hlt1) trodAll_mk0)) rfl (by simp) (hg.frame _)⟩

theorem over : Rows.limboCoversRow.holds Try.pinned (OpenSpec.ofChange Rows.limboCoversSpec) :=
  OpenClaim.holds_of_wide 4 Try.f4 rfl rfl rfl rfl rfl rfl rfl ⟨rfl, rfl, rfl, rfl, rfl⟩ rfl rfl rfl rfl rfl (by kernel_rfl) Try.func4 (by kernel_rfl)
    (of_decide_eq_true (by kernel_rfl)) (by unfold Func.isWrapper; first | (rw [if_pos (by decide +kernel)]; kernel_rfl) | (rw [if_neg (by decide +kernel)]; exact ⟨rfl, rfl⟩))
    (fun os started H enc _ => lifted os started H enc)

theorem proved : Rows.LimboCoversSaid :=
  over

#print axioms proved
end Go.Proofs.Ytdljnfioponegaa.limboCovers
