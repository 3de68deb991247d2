/- gleaningref16.Ripe, Part. -/
import Derived.Test.YtdljnfioponegaaLim
import Derived.Maps.AppendAt
import Derived.OwnWalk
namespace Go.Proofs.Ytdljnfioponegaa
set_option linter.unusedVariables false
open Go.RowKit
theorem infoR : (Try.prog.info? 32).map (fun i => (i.zero, i.size, i.bytes)) = some (some (.agg #[.int .u64 0, .int .u64 0]), 2, 16) := by kernel_rfl
theorem sliceR : Try.prog.underlying 22 = some (.slice 32) := by kernel_rfl
theorem rripe_any (h e ep : Nat) (he : e < 18446744073709551616) (hp : ep < 18446744073709551616) (W : World) :
    Calls Try.prog 11 #[.agg #[.int .u64 (h : Nat), .int .u64 (e : Nat)], .int .u64 (ep : Nat)] W fun x w' => x = .returned (.bool (ripeB e ep)) ∧ Below W.heap.size W w' := by
  have hB := Lib.hid (bel1 W)
  by_cases h1 : e ≤ ep
  · have g1 : (e : Int) ≤ ep := by omega
    have g3 : (0 : Int) ≤ (ep : Int) - e := by omega
    have hr : ripeB e ep = decide ((1 : Int) < (ep : Int) - e) := by unfold ripeB; exact decide_eq_decide.2 (by constructor <;> intro <;> omega)
    rw [hr]; clear hr
    clear h1
    go_enter Try.func11, Try.ntmps11
    go_wp2
    go_ret
    exact ⟨rfl, hB.out _⟩
  · have hr : ripeB e ep = false := by unfold ripeB; simp; omega
    rw [hr]; clear hr
    have g1 : (ep : Int) < e := by omega
    clear h1
    go_enter Try.func11, Try.ntmps11
    go_wp2
    go_ret
    exact ⟨rfl, hB.out _⟩
theorem take_filter_yes (q : Nat × Nat → Bool) (rs : List (Nat × Nat)) (j : Nat) (hj : j < rs.length) (h : q (rs.getD j (0, 0)) = true) : (rs.take (j + 1)).filter q = (rs.take j).filter q ++ [rs.getD j (0, 0)] := by
  have e : rs.getD j (0, 0) = rs[j] := by simp [List.getD, hj]
  rw [e] at h ⊢
  rw [List.take_succ_eq_append_getElem hj, List.filter_append]
  simp [h]
theorem take_filter_no (q : Nat × Nat → Bool) (rs : List (Nat × Nat)) (j : Nat) (hj : j < rs.length) (h : q (rs.getD j (0, 0)) = false) : (rs.take (j + 1)).filter q = (rs.take j).filter q := by
  have e : rs.getD j (0, 0) = rs[j] := by simp [List.getD, hj]
  rw [e] at h
  rw [List.take_succ_eq_append_getElem hj, List.filter_append]
  simp [h]
theorem filter_le (q : Nat × Nat → Bool) (rs : List (Nat × Nat)) (j : Nat) : ((rs.take j).filter q).length ≤ j := Nat.le_trans (List.length_filter_le _ _) (by simp; omega)
/-- A slice of the call's own that holds records. -/
structure OR (B : Nat) (w0 : World) (v : Value) (us : List (Nat × Nat)) (W : World) : Prop where
  own : W.ownsRow B 32 2 v us.length (recs us)
  bl : Below B w0 W
theorem OR.start (w : World) : OR w.heap.size w (.slice none 0 0) [] w := ⟨World.ownsRow_nil _ _ _ _, Below.refl _ _⟩
theorem OR.next {B : Nat} {w0 : World} {v : Value} {us : List (Nat × Nat)} {W W' : World} (h : OR B w0 v us W) (hB : B ≤ W.heap.size) (hn : Below W.heap.size W W') : OR B w0 v us W' := ⟨ownN h.own hn, h.bl.trans (hn.mono hB)⟩
theorem OR.alloc {B : Nat} {w0 : World} {v : Value} {us : List (Nat × Nat)} {W : World} (h : OR B w0 v us W) (hB : B ≤ W.heap.size) (o : Obj) : OR B w0 v us (W.alloc o) := h.next hB (bel1 W o)
theorem OR.add {B : Nat} {w0 : World} {v v' : Value} {us : List (Nat × Nat)} {W W' : World} (h : OR B w0 v us W) (hB : B ≤ W.heap.size) (r : Nat × Nat) (ho : W'.ownsRow B 32 2 v' (us.length + 1) (recs us ++ recL r)) (hg : W.grownBy W' v.ownBlock) : OR B w0 v' (us ++ [r]) W' := by
  refine ⟨?_, h.bl.grown hg hB (fun k e => (h.own.lt k e).1)⟩
  rw [recs_snoc] at ho
  simpa using ho
theorem OR.size {B : Nat} {w0 : World} {v : Value} {us : List (Nat × Nat)} {W : World} (h : OR B w0 v us W) : w0.heap.size ≤ W.heap.size := h.bl.size
set_option maxHeartbeats 1000000 in
theorem rpart_any (rs : List (Nat × Nat)) (hl : rs.length ≤ 1000) (hbd : ∀ r ∈ rs, r.1 < 18446744073709551616 ∧ r.2 < 18446744073709551616) (ep : Nat) (hp : ep < 18446744073709551616) (yes : Bool) (A1 : Option Addr) (b1 o1 c1 : Nat) (W : World) (h1 : RdR W A1 b1 o1 rs) :
    Calls Try.prog 13 #[.slice A1 rs.length c1, .int .u64 ep, .bool yes] W fun x w' => ∃ v, x = .returned v ∧ OR W.heap.size W v (rs.filter fun r => ripeB r.2 ep == yes) w' := by
  have H1 := Lib.hid h1
  have BD := Lib.hid hbd
  obtain ⟨i0, hi, hz0, hz1, hz2⟩ := info_parts infoR
  have HI := Lib.hid (And.intro hi (And.intro hz0 (And.intro hz1 hz2)))
  clear h1 hbd hi hz0 hz1 hz2
  obtain ⟨Q, hQ⟩ : ∃ Q : Nat × Nat → Bool, Q = fun r => ripeB r.2 ep == yes := ⟨_, rfl⟩
  rw [← hQ]
  have HQ := Lib.hid hQ
  clear hQ
  generalize hn : rs.length = n at hl ⊢
  have HN := Lib.hid hn
  clear hn
  go_enter Try.func13, Try.ntmps13
  go_wp2
  go_loopg [7, 8] n (fun g v i wr => ∃ j : Nat, j ≤ n ∧ g = n - j ∧ i = .int .i64 j ∧ OR W.heap.size W v ((rs.take j).filter Q) wr)
  case atStart => exact ⟨0, by omega, by omega, rfl, OR.start W⟩
  case round =>
    obtain ⟨j, hj, hg, rfl, hr⟩ := hrel
    by_cases hlt : j < n
    · have hjl : j < rs.length := by rw [HN.out]; exact hlt
      obtain rfl := H1.out.a (by omega)
      have k1 := H1.out.next hr.bl
      have hc0 := k1.c0 j hjl
      have hc1 := k1.c1 j hjl
      have hm : rs.getD j (0, 0) ∈ rs := by
        rw [List.getD_eq_getElem?_getD, List.getElem?_eq_getElem hjl]; exact List.getElem_mem hjl
      have hb2 := (BD.out _ hm).2
      have hblt := H1.out.lt (by omega)
      have hfl := filter_le Q rs j
      have HY := Lib.hid (take_filter_yes Q rs j hjl)
      have HNo := Lib.hid (take_filter_no Q rs j hjl)
      clear hm k1 hjl
      generalize hx : rs.getD j (0, 0) = r at hc0 hc1 hb2 HY HNo
      have R := Lib.hid (rripe_any r.1 r.2 ep hb2 hp)
      have HR := Lib.hid hr
      have HF := Lib.hid hfl
      clear hr hfl hx
      cases hq : Q r with
      | true =>
        have hyes : (ripeB r.2 ep == yes) = true := by rw [← hq, HQ.out]
        have HT := Lib.hid (HY.out hq)
        clear HY HNo hq
        go_wp2_with (first
          | (go_at_call 11; refine (R.out _).mono ?_; rintro e w1 ⟨rfl, hb⟩; have d0 : w1.cell? ⟨b1, o1 + j * 2, none⟩ = some (.int .u64 (r.1 : Nat)) := (hb.cell (p := ⟨b1, o1 + j * 2, none⟩) (Nat.lt_of_lt_of_le hblt HR.out.size)).trans hc0; have d1 : w1.cell? ⟨b1, o1 + j * 2 + 1, none⟩ = some (.int .u64 (r.2 : Nat)) := (hb.cell (p := ⟨b1, o1 + j * 2 + 1, none⟩) (Nat.lt_of_lt_of_le hblt HR.out.size)).trans hc1; have HR1 := Lib.hid (HR.out.next HR.out.size hb); clear hb hc0 hc1; have HU := Lib.hid (HR1.out.alloc HR1.out.size (.cells #[.int .u64 (r.1 : Nat), .int .u64 (r.2 : Nat)] 32)))
          | (at_builtin; refine wpList_append_own_at _ rfl _ _ 22 rfl W.heap.size 32 i0 (.agg #[.int .u64 0, .int .u64 0]) 2 16 sliceR HI.out.1 HI.out.2.1 HI.out.2.2.1 HI.out.2.2.2 rfl (by decide) _ _ _ rfl HU.out.own ⟨w1.heap.size, 0, none⟩ 1 1 (recL r) rfl rfl (World.news_of_block (heap_alloc_new w1 _)) (by simp [Value.oneCell']) (by have := HF.out; unfold maxLen; omega) (by have := HF.out; omega) HU.out.size ?_; intro v' w2 hown' hgrow hnil hloc; have HR2 := Lib.hid (OR.add HU.out HU.out.size r hown' hgrow); clear hown' hgrow hnil hloc HU))
        go_roundg (n - (j + 1))
        case rel => exact ⟨j + 1, by omega, rfl, by go_num, by rw [HT.out]; exact HR2.out⟩
        case measure => omega
      | false =>
        have hyes : (ripeB r.2 ep == yes) = false := by rw [← hq, HQ.out]
        have HT := Lib.hid (HNo.out hq)
        clear HY HNo hq
        go_wp2_with (go_at_call 11; refine (R.out _).mono ?_; rintro e w1 ⟨rfl, hb⟩; have HR1 := Lib.hid (HR.out.next HR.out.size hb); clear hb hc0 hc1)
        go_roundg (n - (j + 1))
        case rel => exact ⟨j + 1, by omega, rfl, by go_num, by rw [HT.out]; exact HR1.out⟩
        case measure => omega
    · obtain rfl : j = n := by omega
      rw [← HN.out, List.take_length] at hr
      have HR := Lib.hid hr
      clear hr
      go_wp2
      go_ret
      exact ⟨_, rfl, HR.out⟩
end Go.Proofs.Ytdljnfioponegaa
