/- handle.Slot, gleaningref16.Without, limbo.parted, Part, Without, Handles. -/
import Derived.Test.YtdljnfioponegaaLim2
import Derived.Test.YtdljnfioponegaaField
namespace Go.Proofs.Ytdljnfioponegaa
set_option linter.unusedVariables false
open Go.RowKit
theorem ha_slot (w : Nat) : M.fget w 0 16 = w % 65536 := by simp [M.fget, M.get, M.sz]
theorem hdslot_any (w : Nat) (h : w < 18446744073709551616) (W : World) :
    Calls Try.prog 24 #[.int .u64 w] W fun e w' => e = .returned (.int .i64 (w % 65536 : Nat)) ∧ ∃ n, w' = W.drewN n := by
  have c : ∀ W : World, Calls Try.prog 29 #[.int .u64 w, .int .i64 0, .int .i64 16] W fun e w' => e = .returned (.int .u64 (w % 65536 : Nat)) ∧ ∃ n, w' = W.drewN n := fun W => by
    have := get_any w h 0 16 W; rw [ha_slot] at this; exact this
  have C := Lib.hid c
  clear c
  go_enter Try.func24, Try.ntmps24
  go_wp2_with (go_at_call 29; refine (C.out _).mono ?_; rintro e w' ⟨rfl, n, rfl⟩)
  go_ret
  exact ⟨ret_i (by omega), _, rfl⟩
theorem rhdslot_any (w : Nat) (h : w < 18446744073709551616) (W : World) :
    Calls Try.prog 25 #[.int .u64 w] W fun e w' => e = .returned (.int .i64 (w % 65536 : Nat)) ∧ Below W.heap.size W w' := by
  go_enter Try.func25, Try.ntmps25
  go_wp2
  go_ret
  exact ⟨ret_i (by omega), Below.refl _ _⟩
theorem below_drN {B : Nat} {a w : World} (h : Below B a w) (n : Nat) : Below B a (w.drewN n) := ⟨h.os, h.tape, h.output, h.size, h.block⟩
abbrev nsl (sl : Int) (r : Nat × Nat) : Bool := decide (((r.1 % 65536 : Nat) : Int) ≠ sl)
set_option maxHeartbeats 1000000 in
theorem rwithout_any (rs : List (Nat × Nat)) (hl : rs.length ≤ 1000) (hbd : ∀ r ∈ rs, r.1 < 18446744073709551616 ∧ r.2 < 18446744073709551616) (sl : Int) (A1 : Option Addr) (b1 o1 c1 : Nat) (W : World) (h1 : RdR W A1 b1 o1 rs) :
    Calls Try.prog 15 #[.slice A1 rs.length c1, .int .i64 sl] W fun x w' => ∃ v, x = .returned v ∧ OR W.heap.size W v (rs.filter (nsl sl)) w' := by
  have H1 := Lib.hid h1
  have BD := Lib.hid hbd
  obtain ⟨i0, hi, hz0, hz1, hz2⟩ := info_parts infoR
  have HI := Lib.hid (And.intro hi (And.intro hz0 (And.intro hz1 hz2)))
  clear h1 hbd hi hz0 hz1 hz2
  obtain ⟨Q, hQ⟩ : ∃ Q : Nat × Nat → Bool, Q = nsl sl := ⟨_, rfl⟩
  rw [← hQ]
  have HQ := Lib.hid hQ
  clear hQ
  generalize hn : rs.length = n at hl ⊢
  have HN := Lib.hid hn
  clear hn
  go_enter Try.func15, Try.ntmps15
  go_wp2
  go_loopg [5, 6] n (fun g v i wr => ∃ j : Nat, j ≤ n ∧ g = n - j ∧ i = .int .i64 j ∧ OR W.heap.size W v ((rs.take j).filter Q) wr)
  case atStart => exact ⟨0, by omega, by omega, rfl, OR.start W⟩
  case round =>
    obtain ⟨j, hj, hg, rfl, hr⟩ := hrel
    by_cases hlt : j < n
    · have hjl : j < rs.length := by rw [HN.out]; exact hlt
      obtain rfl := H1.out.a (by omega)
      have k1 := H1.out.next hr.bl
      have hc0 := k1.c0 j hjl
      have hc1 := k1.c1 j hjl
      have hm : rs.getD j (0, 0) ∈ rs := by
        rw [List.getD_eq_getElem?_getD, List.getElem?_eq_getElem hjl]; exact List.getElem_mem hjl
      have hb1 := (BD.out _ hm).1
      have hblt := H1.out.lt (by omega)
      have hfl := filter_le Q rs j
      have HY := Lib.hid (take_filter_yes Q rs j hjl)
      have HNo := Lib.hid (take_filter_no Q rs j hjl)
      clear hm k1 hjl
      generalize hx : rs.getD j (0, 0) = r at hc0 hc1 hb1 HY HNo
      have R := Lib.hid (rhdslot_any r.1 hb1)
      have HR := Lib.hid hr
      have HF := Lib.hid hfl
      clear hr hfl hx
      cases hq : Q r with
      | true =>
        have hyes : (((r.1 % 65536 : Nat) : Int) == sl) = false := by rw [HQ.out] at hq; simpa using hq
        have HT := Lib.hid (HY.out hq)
        clear HY HNo hq
        generalize r.1 % 65536 = q at R hyes
        go_wp2_with (first
          | (go_at_call 25; refine (R.out _).mono ?_; rintro e w1 ⟨rfl, hb⟩; have d0 : w1.cell? ⟨b1, o1 + j * 2, none⟩ = some (.int .u64 (r.1 : Nat)) := (hb.cell (p := ⟨b1, o1 + j * 2, none⟩) (Nat.lt_of_lt_of_le hblt HR.out.size)).trans hc0; have d1 : w1.cell? ⟨b1, o1 + j * 2 + 1, none⟩ = some (.int .u64 (r.2 : Nat)) := (hb.cell (p := ⟨b1, o1 + j * 2 + 1, none⟩) (Nat.lt_of_lt_of_le hblt HR.out.size)).trans hc1; have HR1 := Lib.hid (HR.out.next HR.out.size hb); clear hb hc0 hc1; have HU := Lib.hid (HR1.out.alloc HR1.out.size (.cells #[.int .u64 (r.1 : Nat), .int .u64 (r.2 : Nat)] 32)))
          | (at_builtin; refine wpList_append_own_at _ rfl _ _ 22 rfl W.heap.size 32 i0 (.agg #[.int .u64 0, .int .u64 0]) 2 16 sliceR HI.out.1 HI.out.2.1 HI.out.2.2.1 HI.out.2.2.2 rfl (by decide) _ _ _ rfl HU.out.own ⟨w1.heap.size, 0, none⟩ 1 1 (recL r) rfl rfl (World.news_of_block (heap_alloc_new w1 _)) (by simp [Value.oneCell']) (by have := HF.out; unfold maxLen; omega) (by have := HF.out; omega) HU.out.size ?_; intro v' w2 hown' hgrow hnil hloc; have HR2 := Lib.hid (OR.add HU.out HU.out.size r hown' hgrow); clear hown' hgrow hnil hloc HU))
        go_roundg (n - (j + 1))
        case rel => exact ⟨j + 1, by omega, rfl, by go_num, by rw [HT.out]; exact HR2.out⟩
        case measure => omega
      | false =>
        have hyes : (((r.1 % 65536 : Nat) : Int) == sl) = true := by rw [HQ.out] at hq; simpa using hq
        have HT := Lib.hid (HNo.out hq)
        clear HY HNo hq
        generalize r.1 % 65536 = q at R hyes
        go_wp2_with (go_at_call 25; refine (R.out _).mono ?_; rintro e w1 ⟨rfl, hb⟩; have HR1 := Lib.hid (HR.out.next HR.out.size hb); clear hb hc0 hc1)
        go_roundg (n - (j + 1))
        case rel => exact ⟨j + 1, by omega, rfl, by go_num, by rw [HT.out]; exact HR1.out⟩
        case measure => omega
    · obtain rfl : j = n := by omega
      rw [← HN.out, List.take_length] at hr
      have HR := Lib.hid hr
      clear hr
      go_wp2
      go_ret
      exact ⟨_, rfl, HR.out⟩
/-- Two slices of the call's own that hold records, in rows of their own. -/
structure OR2 (B : Nat) (w0 : World) (v1 : Value) (us1 : List (Nat × Nat)) (v2 : Value) (us2 : List (Nat × Nat)) (W : World) : Prop where
  o1 : W.ownsRow B 32 2 v1 us1.length (recs us1)
  o2 : W.ownsRow B 32 2 v2 us2.length (recs us2)
  bl : Below B w0 W
  ne : ∀ k, v1.ownBlock = some k → v2.ownBlock ≠ some k
section
variable {B : Nat} {w0 : World} {v1 : Value} {us1 : List (Nat × Nat)} {v2 : Value} {us2 : List (Nat × Nat)} {W W' : World}
theorem OR2.start (w : World) : OR2 w.heap.size w (.slice none 0 0) [] (.slice none 0 0) [] w := ⟨World.ownsRow_nil _ _ _ _, World.ownsRow_nil _ _ _ _, Below.refl _ _, fun k e => by simp [Value.ownBlock] at e⟩
theorem OR2.next (h : OR2 B w0 v1 us1 v2 us2 W) (hB : B ≤ W.heap.size) (hn : Below W.heap.size W W') : OR2 B w0 v1 us1 v2 us2 W' := ⟨ownN h.o1 hn, ownN h.o2 hn, h.bl.trans (hn.mono hB), h.ne⟩
theorem OR2.size (h : OR2 B w0 v1 us1 v2 us2 W) : w0.heap.size ≤ W.heap.size := h.bl.size
theorem OR2.alloc (h : OR2 B w0 v1 us1 v2 us2 W) (hB : B ≤ W.heap.size) (o : Obj) : OR2 B w0 v1 us1 v2 us2 (W.alloc o) := h.next hB (bel1 W o)
theorem OR2.add1 {v' : Value} (h : OR2 B w0 v1 us1 v2 us2 W) (hB : B ≤ W.heap.size) (r : Nat × Nat) (ho : W'.ownsRow B 32 2 v' (us1.length + 1) (recs us1 ++ recL r)) (hg : W.grownBy W' v1.ownBlock) (hl : v'.ownBlock = v1.ownBlock ∨ v'.ownBlock = some W.heap.size) : OR2 B w0 v' (us1 ++ [r]) v2 us2 W' := by
  refine ⟨?_, h.o2.kept hg ?_, h.bl.grown hg hB (fun k e => (h.o1.lt k e).1), ?_⟩
  · rw [recs_snoc] at ho; simpa using ho
  · cases he : v1.ownBlock with
    | none => cases hv : v2.ownBlock <;> simp
    | some k => exact .inr (fun e => h.ne k he (e.trans rfl))
  · intro k hk
    rcases hl with e | e
    · exact h.ne k (e ▸ hk)
    · intro hv
      have := (h.o2.lt k hv).2
      rw [e] at hk
      have : W.heap.size = k := by simpa using hk
      omega
theorem OR2.add2 {v' : Value} (h : OR2 B w0 v1 us1 v2 us2 W) (hB : B ≤ W.heap.size) (r : Nat × Nat) (ho : W'.ownsRow B 32 2 v' (us2.length + 1) (recs us2 ++ recL r)) (hg : W.grownBy W' v2.ownBlock) (hl : v'.ownBlock = v2.ownBlock ∨ v'.ownBlock = some W.heap.size) : OR2 B w0 v1 us1 v' (us2 ++ [r]) W' := by
  refine ⟨h.o1.kept hg ?_, ?_, h.bl.grown hg hB (fun k e => (h.o2.lt k e).1), ?_⟩
  · cases he : v1.ownBlock with
    | none => exact .inl rfl
    | some k => exact .inr (fun e => h.ne k he e.symm)
  · rw [recs_snoc] at ho; simpa using ho
  · intro k hk
    rcases hl with e | e
    · rw [e]; exact h.ne k hk
    · intro hv
      have := (h.o1.lt k hk).2
      rw [e] at hv
      have : W.heap.size = k := by simpa using hv
      omega
end
theorem partL_any (g : Nat) (r : Nat × Nat) (ep : Nat) (he : r.2 < 18446744073709551616) (hp : ep < 18446744073709551616) (W : World) (hc : W.cell? ⟨g, 0, none⟩ = some (.int .u64 ep)) :
    Calls Try.prog 22 #[recV r, .pointer (some ⟨g, 0, none⟩)] W fun x w' => x = .returned (.bool (ripeB r.2 ep)) ∧ Below W.heap.size W w' := by
  have R := Lib.hid (ripe_any r.1 r.2 ep he hp)
  have hB := Lib.hid (bel1 W)
  have hlt : g < W.heap.size := World.block_lt_of_cell? W _ hc
  generalize ripeB r.2 ep = b at R ⊢
  go_enter Try.func22, Try.ntmps22
  go_wp2_with (go_at_call 10; refine (R.out _).mono ?_; rintro e w1 ⟨rfl, hb⟩)
  go_ret
  exact ⟨rfl, (hB.out _).trans (hb.mono (by simp))⟩
structure WL (B : Nat) (w0 : World) (g h : Nat) (sl : Int) (x y : Nat) (W : World) : Prop where
  c : W.cell? ⟨g, 0, none⟩ = some (.int .i64 sl)
  d0 : W.cell? ⟨h, 0, none⟩ = some (.int .u64 x)
  d1 : W.cell? ⟨h, 1, none⟩ = some (.int .u64 y)
  bl : Below B w0 W
theorem WL.drewN {B : Nat} {w0 : World} {g h : Nat} {sl : Int} {x y : Nat} {W : World} (k : WL B w0 g h sl x y W) (n : Nat) : WL B w0 g h sl x y (W.drewN n) := ⟨k.c, k.d0, k.d1, below_drN k.bl n⟩
theorem WL.drew {B : Nat} {w0 : World} {g h : Nat} {sl : Int} {x y : Nat} {W : World} (k : WL B w0 g h sl x y W) : WL B w0 g h sl x y W.drew := ⟨k.c, k.d0, k.d1, k.bl.drew⟩
set_option maxHeartbeats 1000000 in
theorem withoutL_any (g : Nat) (r : Nat × Nat) (sl : Int) (he : r.1 < 18446744073709551616) (W : World) (hc : W.cell? ⟨g, 0, none⟩ = some (.int .i64 sl)) :
    Calls Try.prog 23 #[recV r, .pointer (some ⟨g, 0, none⟩)] W fun x w' => x = .returned (.bool (((r.1 % 65536 : Nat) : Int) == sl)) ∧ Below W.heap.size W w' := by
  have S := Lib.hid (hdslot_any r.1 he)
  have hlt : g < W.heap.size := World.block_lt_of_cell? W _ hc
  have HK := Lib.hid (show WL W.heap.size W g W.heap.size sl r.1 r.2 (W.alloc (.cells #[.int .u64 (r.1 : Nat), .int .u64 (r.2 : Nat)] 32)) from ⟨((bel1 W _).cell (p := ⟨g, 0, none⟩) hlt).trans hc, by simp, by simp, bel1 _ _⟩)
  have HK1 := Lib.hid HK.out.drew
  generalize r.1 % 65536 = q at S ⊢
  clear hc HK
  go_enter Try.func23, Try.ntmps23
  go_wp2
  refine wp_region_class (C := WL W.heap.size W g W.heap.size sl r.1 r.2) (by kernel_rfl) (by kernel_rfl) (HK1.out) ?_
  repeat (first
    | go_big_quiet_skip
    | (go_big_quiet_want; go_big_quiet_op; go_big_quiet_on)
    | (go_big_quiet_want; go_big_quiet_op; refine ⟨_, fun _ _ => rfl, ?_⟩; go_big_quiet_on)
    | (go_big_quiet_want
       apply quiet_mk
       · intro u hu
         have c := hu.c; have d0 := hu.d0; have d1 := hu.d1
         have HU := Lib.hid hu
         clear hu
         go_simp
         first
           | with_reducible rfl
           | (go_at_call 24; refine (S.out _).mono ?_; rintro e w' ⟨rfl, q, rfl⟩; exact ⟨rfl, HU.out.drewN _⟩)
       simp only [Act.put, List.setIfInBounds_toArray, List.set_cons_zero, List.set_cons_succ]
       go_big_quiet_on))
  refine wpQuiet_nil ?_
  intro u hu
  have BL := Lib.hid hu.bl
  clear hu HK1
  go_wp2
  go_ret
  exact ⟨rfl, BL.out⟩
set_option maxHeartbeats 1000000 in
theorem parted_part (rs : List (Nat × Nat)) (hl : rs.length ≤ 1000) (hbd : ∀ r ∈ rs, r.1 < 18446744073709551616 ∧ r.2 < 18446744073709551616) (ep : Nat) (hp : ep < 18446744073709551616) (A1 : Option Addr) (b1 o1 c1 g : Nat) (W : World) (h1 : RdR W A1 b1 o1 rs) (hcv : W.cell? ⟨g, 0, none⟩ = some (.int .u64 ep)) :
    Calls Try.prog 21 #[.slice A1 rs.length c1, .func (.func 22) #[] #[.pointer (some ⟨g, 0, none⟩)]] W fun x w' => ∃ v1 v2, x = .returned (.tuple #[v1, v2]) ∧ OR2 W.heap.size W v1 (rs.filter (fun r : Nat × Nat => ripeB r.2 ep)) v2 (rs.filter fun r => !((fun r : Nat × Nat => ripeB r.2 ep) r)) w' := by
  have H1 := Lib.hid h1
  have BD := Lib.hid hbd
  have CV := Lib.hid hcv
  have hglt : g < W.heap.size := World.block_lt_of_cell? W _ hcv
  obtain ⟨i0, hi, hz0, hz1, hz2⟩ := info_parts infoR
  have HI := Lib.hid (And.intro hi (And.intro hz0 (And.intro hz1 hz2)))
  clear h1 hbd hi hz0 hz1 hz2 hcv
  obtain ⟨Q, hQ⟩ : ∃ Q : Nat × Nat → Bool, Q = (fun r : Nat × Nat => ripeB r.2 ep) := ⟨_, rfl⟩
  rw [← hQ]
  have HQ := Lib.hid hQ
  clear hQ
  generalize hn : rs.length = n at hl ⊢
  have HN := Lib.hid hn
  clear hn
  go_enter Try.func21, Try.ntmps21
  go_wp2
  go_loopg [4, 5, 10] n (fun g v1 v2 i wr => ∃ j : Nat, j ≤ n ∧ g = n - j ∧ i = .int .i64 j ∧ OR2 W.heap.size W v1 ((rs.take j).filter Q) v2 ((rs.take j).filter fun r => !(Q r)) wr)
  case atStart => exact ⟨0, by omega, by omega, rfl, OR2.start W⟩
  case round =>
    obtain ⟨j, hj, hg, rfl, hr⟩ := hrel
    by_cases hlt : j < n
    · have hjl : j < rs.length := by rw [HN.out]; exact hlt
      obtain rfl := H1.out.a (by omega)
      have k1 := H1.out.next hr.bl
      have hc0 := k1.c0 j hjl
      have hc1 := k1.c1 j hjl
      have hm : rs.getD j (0, 0) ∈ rs := by
        rw [List.getD_eq_getElem?_getD, List.getElem?_eq_getElem hjl]; exact List.getElem_mem hjl
      have hb1 := (BD.out _ hm).1
      have hb2 := (BD.out _ hm).2
      have hfl := filter_le Q rs j
      have hfl2 := filter_le (fun r => !(Q r)) rs j
      have HY := Lib.hid (take_filter_yes Q rs j hjl)
      have HNo := Lib.hid (take_filter_no Q rs j hjl)
      have HY2 := Lib.hid (take_filter_yes (fun r => !(Q r)) rs j hjl)
      have HNo2 := Lib.hid (take_filter_no (fun r => !(Q r)) rs j hjl)
      clear hm k1 hjl
      generalize hx : rs.getD j (0, 0) = r at hc0 hc1 hb1 hb2 HY HNo HY2 HNo2
      have HR := Lib.hid (hr.alloc hr.size (.cells #[.int .u64 (r.1 : Nat), .int .u64 (r.2 : Nat)] 32))
      have R := Lib.hid (show ∀ (q : Bool), (fun r : Nat × Nat => ripeB r.2 ep) r = q → ∀ W' : World, W'.cell? ⟨g, 0, none⟩ = some (.int .u64 ep) → Calls Try.prog 22 #[recV r, .pointer (some ⟨g, 0, none⟩)] W' fun x w' => x = .returned (.bool q) ∧ Below W'.heap.size W' w' from fun q e W' hc => e ▸ partL_any g r ep hb2 hp W' hc)
      have cvr : (wr.alloc (.cells #[.int .u64 (r.1 : Nat), .int .u64 (r.2 : Nat)] 32)).cell? ⟨g, 0, none⟩ = some (.int .u64 ep) := ((hr.bl.trans ((bel1 wr _).mono hr.size)).cell (p := ⟨g, 0, none⟩) hglt).trans CV.out
      have CVR := Lib.hid cvr
      have HF := Lib.hid hfl
      have HF2 := Lib.hid hfl2
      clear hr hfl hfl2 hx cvr
      cases hq : Q r with
      | true =>
        have hyes : (fun r : Nat × Nat => ripeB r.2 ep) r = true := by rw [← hq, HQ.out]
        have HT := Lib.hid (HY.out hq)
        have HT2 := Lib.hid (HNo2.out (by simp [hq]))
        have R' := R.out _ hyes
        clear HY HNo hq HY2 HNo2 hyes R
        have R := Lib.hid R'
        clear R'
        go_wp2_with (first
          | (go_at_call 22; refine (R.out _ CVR.out).mono ?_; rintro e w1 ⟨rfl, hb⟩; have d0 : w1.cell? ⟨wr.heap.size, 0, none⟩ = some (.int .u64 (r.1 : Nat)) := (hb.cell (p := ⟨wr.heap.size, 0, none⟩) (by simp)).trans (by simp); have d1 : w1.cell? ⟨wr.heap.size, 1, none⟩ = some (.int .u64 (r.2 : Nat)) := (hb.cell (p := ⟨wr.heap.size, 1, none⟩) (by simp)).trans (by simp); have HR1 := Lib.hid (HR.out.next HR.out.size hb); clear hb hc0 hc1; have HU := Lib.hid (HR1.out.alloc HR1.out.size (.cells #[.int .u64 (r.1 : Nat), .int .u64 (r.2 : Nat)] 32)))
          | (at_builtin; refine wpList_append_own_at _ rfl _ _ 22 rfl W.heap.size 32 i0 (.agg #[.int .u64 0, .int .u64 0]) 2 16 sliceR HI.out.1 HI.out.2.1 HI.out.2.2.1 HI.out.2.2.2 rfl (by decide) _ _ _ rfl HU.out.o1 ⟨w1.heap.size, 0, none⟩ 1 1 (recL r) rfl rfl (World.news_of_block (heap_alloc_new w1 _)) (by simp [Value.oneCell']) (by have := HF.out; unfold maxLen; omega) (by have := HF.out; omega) HU.out.size ?_; intro v' w2 hown' hgrow hnil hloc; have HR2 := Lib.hid (OR2.add1 HU.out HU.out.size r hown' hgrow hloc); clear hown' hgrow hnil hloc HU))
        go_roundg (n - (j + 1))
        case rel => exact ⟨j + 1, by omega, rfl, by go_num, by rw [HT.out, HT2.out]; exact HR2.out⟩
        case measure => omega
      | false =>
        have hyes : (fun r : Nat × Nat => ripeB r.2 ep) r = false := by rw [← hq, HQ.out]
        have HT := Lib.hid (HNo.out hq)
        have HT2 := Lib.hid (HY2.out (by simp [hq]))
        have R' := R.out _ hyes
        clear HY HNo hq HY2 HNo2 hyes R
        have R := Lib.hid R'
        clear R'
        go_wp2_with (first
          | (go_at_call 22; refine (R.out _ CVR.out).mono ?_; rintro e w1 ⟨rfl, hb⟩; have d0 : w1.cell? ⟨wr.heap.size, 0, none⟩ = some (.int .u64 (r.1 : Nat)) := (hb.cell (p := ⟨wr.heap.size, 0, none⟩) (by simp)).trans (by simp); have d1 : w1.cell? ⟨wr.heap.size, 1, none⟩ = some (.int .u64 (r.2 : Nat)) := (hb.cell (p := ⟨wr.heap.size, 1, none⟩) (by simp)).trans (by simp); have HR1 := Lib.hid (HR.out.next HR.out.size hb); clear hb hc0 hc1; have HU := Lib.hid (HR1.out.alloc HR1.out.size (.cells #[.int .u64 (r.1 : Nat), .int .u64 (r.2 : Nat)] 32)))
          | (at_builtin; refine wpList_append_own_at _ rfl _ _ 22 rfl W.heap.size 32 i0 (.agg #[.int .u64 0, .int .u64 0]) 2 16 sliceR HI.out.1 HI.out.2.1 HI.out.2.2.1 HI.out.2.2.2 rfl (by decide) _ _ _ rfl HU.out.o2 ⟨w1.heap.size, 0, none⟩ 1 1 (recL r) rfl rfl (World.news_of_block (heap_alloc_new w1 _)) (by simp [Value.oneCell']) (by have := HF2.out; unfold maxLen; omega) (by have := HF2.out; omega) HU.out.size ?_; intro v' w2 hown' hgrow hnil hloc; have HR2 := Lib.hid (OR2.add2 HU.out HU.out.size r hown' hgrow hloc); clear hown' hgrow hnil hloc HU))
        go_roundg (n - (j + 1))
        case rel => exact ⟨j + 1, by omega, rfl, by go_num, by rw [HT.out, HT2.out]; exact HR2.out⟩
        case measure => omega
    · obtain rfl : j = n := by omega
      rw [← HN.out, List.take_length] at hr
      have HR := Lib.hid hr
      clear hr
      go_wp2
      go_ret2
      exact ⟨_, _, rfl, HR.out⟩
set_option maxHeartbeats 1000000 in
theorem parted_without (rs : List (Nat × Nat)) (hl : rs.length ≤ 1000) (hbd : ∀ r ∈ rs, r.1 < 18446744073709551616 ∧ r.2 < 18446744073709551616) (sl : Int) (A1 : Option Addr) (b1 o1 c1 g : Nat) (W : World) (h1 : RdR W A1 b1 o1 rs) (hcv : W.cell? ⟨g, 0, none⟩ = some (.int .i64 sl)) :
    Calls Try.prog 21 #[.slice A1 rs.length c1, .func (.func 23) #[] #[.pointer (some ⟨g, 0, none⟩)]] W fun x w' => ∃ v1 v2, x = .returned (.tuple #[v1, v2]) ∧ OR2 W.heap.size W v1 (rs.filter (fun r : Nat × Nat => ((r.1 % 65536 : Nat) : Int) == sl)) v2 (rs.filter fun r => !((fun r : Nat × Nat => ((r.1 % 65536 : Nat) : Int) == sl) r)) w' := by
  have H1 := Lib.hid h1
  have BD := Lib.hid hbd
  have CV := Lib.hid hcv
  have hglt : g < W.heap.size := World.block_lt_of_cell? W _ hcv
  obtain ⟨i0, hi, hz0, hz1, hz2⟩ := info_parts infoR
  have HI := Lib.hid (And.intro hi (And.intro hz0 (And.intro hz1 hz2)))
  clear h1 hbd hi hz0 hz1 hz2 hcv
  obtain ⟨Q, hQ⟩ : ∃ Q : Nat × Nat → Bool, Q = (fun r : Nat × Nat => ((r.1 % 65536 : Nat) : Int) == sl) := ⟨_, rfl⟩
  rw [← hQ]
  have HQ := Lib.hid hQ
  clear hQ
  generalize hn : rs.length = n at hl ⊢
  have HN := Lib.hid hn
  clear hn
  go_enter Try.func21, Try.ntmps21
  go_wp2
  go_loopg [4, 5, 10] n (fun g v1 v2 i wr => ∃ j : Nat, j ≤ n ∧ g = n - j ∧ i = .int .i64 j ∧ OR2 W.heap.size W v1 ((rs.take j).filter Q) v2 ((rs.take j).filter fun r => !(Q r)) wr)
  case atStart => exact ⟨0, by omega, by omega, rfl, OR2.start W⟩
  case round =>
    obtain ⟨j, hj, hg, rfl, hr⟩ := hrel
    by_cases hlt : j < n
    · have hjl : j < rs.length := by rw [HN.out]; exact hlt
      obtain rfl := H1.out.a (by omega)
      have k1 := H1.out.next hr.bl
      have hc0 := k1.c0 j hjl
      have hc1 := k1.c1 j hjl
      have hm : rs.getD j (0, 0) ∈ rs := by
        rw [List.getD_eq_getElem?_getD, List.getElem?_eq_getElem hjl]; exact List.getElem_mem hjl
      have hb1 := (BD.out _ hm).1
      have hb2 := (BD.out _ hm).2
      have hfl := filter_le Q rs j
      have hfl2 := filter_le (fun r => !(Q r)) rs j
      have HY := Lib.hid (take_filter_yes Q rs j hjl)
      have HNo := Lib.hid (take_filter_no Q rs j hjl)
      have HY2 := Lib.hid (take_filter_yes (fun r => !(Q r)) rs j hjl)
      have HNo2 := Lib.hid (take_filter_no (fun r => !(Q r)) rs j hjl)
      clear hm k1 hjl
      generalize hx : rs.getD j (0, 0) = r at hc0 hc1 hb1 hb2 HY HNo HY2 HNo2
      have HR := Lib.hid (hr.alloc hr.size (.cells #[.int .u64 (r.1 : Nat), .int .u64 (r.2 : Nat)] 32))
      have R := Lib.hid (show ∀ (q : Bool), (fun r : Nat × Nat => ((r.1 % 65536 : Nat) : Int) == sl) r = q → ∀ W' : World, W'.cell? ⟨g, 0, none⟩ = some (.int .i64 sl) → Calls Try.prog 23 #[recV r, .pointer (some ⟨g, 0, none⟩)] W' fun x w' => x = .returned (.bool q) ∧ Below W'.heap.size W' w' from fun q e W' hc => e ▸ withoutL_any g r sl hb1 W' hc)
      have cvr : (wr.alloc (.cells #[.int .u64 (r.1 : Nat), .int .u64 (r.2 : Nat)] 32)).cell? ⟨g, 0, none⟩ = some (.int .i64 sl) := ((hr.bl.trans ((bel1 wr _).mono hr.size)).cell (p := ⟨g, 0, none⟩) hglt).trans CV.out
      have CVR := Lib.hid cvr
      have HF := Lib.hid hfl
      have HF2 := Lib.hid hfl2
      clear hr hfl hfl2 hx cvr
      cases hq : Q r with
      | true =>
        have hyes : (fun r : Nat × Nat => ((r.1 % 65536 : Nat) : Int) == sl) r = true := by rw [← hq, HQ.out]
        have HT := Lib.hid (HY.out hq)
        have HT2 := Lib.hid (HNo2.out (by simp [hq]))
        have R' := R.out _ hyes
        clear HY HNo hq HY2 HNo2 hyes R
        have R := Lib.hid R'
        clear R'
        go_wp2_with (first
          | (go_at_call 23; refine (R.out _ CVR.out).mono ?_; rintro e w1 ⟨rfl, hb⟩; have d0 : w1.cell? ⟨wr.heap.size, 0, none⟩ = some (.int .u64 (r.1 : Nat)) := (hb.cell (p := ⟨wr.heap.size, 0, none⟩) (by simp)).trans (by simp); have d1 : w1.cell? ⟨wr.heap.size, 1, none⟩ = some (.int .u64 (r.2 : Nat)) := (hb.cell (p := ⟨wr.heap.size, 1, none⟩) (by simp)).trans (by simp); have HR1 := Lib.hid (HR.out.next HR.out.size hb); clear hb hc0 hc1; have HU := Lib.hid (HR1.out.alloc HR1.out.size (.cells #[.int .u64 (r.1 : Nat), .int .u64 (r.2 : Nat)] 32)))
          | (at_builtin; refine wpList_append_own_at _ rfl _ _ 22 rfl W.heap.size 32 i0 (.agg #[.int .u64 0, .int .u64 0]) 2 16 sliceR HI.out.1 HI.out.2.1 HI.out.2.2.1 HI.out.2.2.2 rfl (by decide) _ _ _ rfl HU.out.o1 ⟨w1.heap.size, 0, none⟩ 1 1 (recL r) rfl rfl (World.news_of_block (heap_alloc_new w1 _)) (by simp [Value.oneCell']) (by have := HF.out; unfold maxLen; omega) (by have := HF.out; omega) HU.out.size ?_; intro v' w2 hown' hgrow hnil hloc; have HR2 := Lib.hid (OR2.add1 HU.out HU.out.size r hown' hgrow hloc); clear hown' hgrow hnil hloc HU))
        go_roundg (n - (j + 1))
        case rel => exact ⟨j + 1, by omega, rfl, by go_num, by rw [HT.out, HT2.out]; exact HR2.out⟩
        case measure => omega
      | false =>
        have hyes : (fun r : Nat × Nat => ((r.1 % 65536 : Nat) : Int) == sl) r = false := by rw [← hq, HQ.out]
        have HT := Lib.hid (HNo.out hq)
        have HT2 := Lib.hid (HY2.out (by simp [hq]))
        have R' := R.out _ hyes
        clear HY HNo hq HY2 HNo2 hyes R
        have R := Lib.hid R'
        clear R'
        go_wp2_with (first
          | (go_at_call 23; refine (R.out _ CVR.out).mono ?_; rintro e w1 ⟨rfl, hb⟩; have d0 : w1.cell? ⟨wr.heap.size, 0, none⟩ = some (.int .u64 (r.1 : Nat)) := (hb.cell (p := ⟨wr.heap.size, 0, none⟩) (by simp)).trans (by simp); have d1 : w1.cell? ⟨wr.heap.size, 1, none⟩ = some (.int .u64 (r.2 : Nat)) := (hb.cell (p := ⟨wr.heap.size, 1, none⟩) (by simp)).trans (by simp); have HR1 := Lib.hid (HR.out.next HR.out.size hb); clear hb hc0 hc1; have HU := Lib.hid (HR1.out.alloc HR1.out.size (.cells #[.int .u64 (r.1 : Nat), .int .u64 (r.2 : Nat)] 32)))
          | (at_builtin; refine wpList_append_own_at _ rfl _ _ 22 rfl W.heap.size 32 i0 (.agg #[.int .u64 0, .int .u64 0]) 2 16 sliceR HI.out.1 HI.out.2.1 HI.out.2.2.1 HI.out.2.2.2 rfl (by decide) _ _ _ rfl HU.out.o2 ⟨w1.heap.size, 0, none⟩ 1 1 (recL r) rfl rfl (World.news_of_block (heap_alloc_new w1 _)) (by simp [Value.oneCell']) (by have := HF2.out; unfold maxLen; omega) (by have := HF2.out; omega) HU.out.size ?_; intro v' w2 hown' hgrow hnil hloc; have HR2 := Lib.hid (OR2.add2 HU.out HU.out.size r hown' hgrow hloc); clear hown' hgrow hnil hloc HU))
        go_roundg (n - (j + 1))
        case rel => exact ⟨j + 1, by omega, rfl, by go_num, by rw [HT.out, HT2.out]; exact HR2.out⟩
        case measure => omega
    · obtain rfl : j = n := by omega
      rw [← HN.out, List.take_length] at hr
      have HR := Lib.hid hr
      clear hr
      go_wp2
      go_ret2
      exact ⟨_, _, rfl, HR.out⟩
theorem OR2.mono {B : Nat} {w0 w1 : World} {v1 : Value} {us1 : List (Nat × Nat)} {v2 : Value} {us2 : List (Nat × Nat)} {W : World} (h : OR2 w1.heap.size w1 v1 us1 v2 us2 W) (hb : Below B w0 w1) (hB : B ≤ w1.heap.size) : OR2 B w0 v1 us1 v2 us2 W :=
  ⟨ownLe h.o1 hB, ownLe h.o2 hB, hb.trans (h.bl.mono hB), h.ne⟩
theorem part_any (rs : List (Nat × Nat)) (hl : rs.length ≤ 1000) (hbd : ∀ r ∈ rs, r.1 < 18446744073709551616 ∧ r.2 < 18446744073709551616) (ep : Nat) (hp : ep < 18446744073709551616) (A1 : Option Addr) (b1 o1 c1 : Nat) (W : World) (h1 : RdR W A1 b1 o1 rs) :
    Calls Try.prog 8 #[.slice A1 rs.length c1, .int .u64 ep] W fun x w' => ∃ v1 v2, x = .returned (.tuple #[v1, v2]) ∧ OR2 W.heap.size W v1 (rs.filter fun r => ripeB r.2 ep) v2 (rs.filter fun r => !(ripeB r.2 ep)) w' := by
  have hB := bel1 W (.cells #[.int .u64 ep] 23)
  have C := Lib.hid (parted_part rs hl hbd ep hp A1 b1 o1 c1 W.heap.size _ (h1.next hB) (by simp))
  have HB := Lib.hid hB
  clear h1 hbd hB
  go_enter Try.func8, Try.ntmps8
  go_wp2_with (go_at_call 21; refine C.out.mono ?_; rintro e w1 ⟨v1, v2, rfl, hb⟩)
  go_ret2
  exact ⟨_, _, rfl, hb.mono HB.out (by simp)⟩
theorem without_any (rs : List (Nat × Nat)) (hl : rs.length ≤ 1000) (hbd : ∀ r ∈ rs, r.1 < 18446744073709551616 ∧ r.2 < 18446744073709551616) (sl : Int) (A1 : Option Addr) (b1 o1 c1 : Nat) (W : World) (h1 : RdR W A1 b1 o1 rs) :
    Calls Try.prog 14 #[.slice A1 rs.length c1, .int .i64 sl] W fun x w' => ∃ v, x = .returned v ∧ OR W.heap.size W v (rs.filter (nsl sl)) w' := by
  have hB := bel1 W (.cells #[.int .i64 sl] 3)
  have C := Lib.hid (parted_without rs hl hbd sl A1 b1 o1 c1 W.heap.size _ (h1.next hB) (by simp))
  have HB := Lib.hid hB
  have hq : (fun r : Nat × Nat => !((fun r : Nat × Nat => ((r.1 % 65536 : Nat) : Int) == sl) r)) = nsl sl := by
    have aux : ∀ x : Int, (!(x == sl)) = decide (x ≠ sl) := fun x => by by_cases h : x = sl <;> simp [h]
    funext r; exact aux _
  have HQ := Lib.hid hq
  clear h1 hbd hB hq
  go_enter Try.func14, Try.ntmps14
  go_wp2_with (go_at_call 21; refine C.out.mono ?_; rintro e w1 ⟨v1, v2, rfl, hb⟩)
  go_ret
  have h2 := hb.mono HB.out (by simp)
  exact ⟨_, rfl, ⟨HQ.out ▸ h2.o2, h2.bl⟩⟩
end Go.Proofs.Ytdljnfioponegaa
