/- limbo.Covered, parted at uint64; gleaningref16.Cover, Covered; gleaningref03.Words. -/
import Derived.Test.YtdljnfioponegaaLim5
import Derived.Maps.Own
import Derived.Maps.Views
namespace Go.Proofs.Ytdljnfioponegaa
set_option linter.unusedVariables false
open Go.RowKit Go.Maps
def cov (h : Nat) (hs : List Nat) : Bool := decide (h ∈ hs ∧ h ≠ 0)
def covR : List Nat → DataW Unit
  | [] => .map []
  | x :: r => (covR r).put (.int .u64 (x : Nat)) (.lit (.bool (decide (x ≠ 0))))
theorem covR_isMap : ∀ r, IsMap (covR r)
  | [] => isMap_empty
  | x :: r => (covR_isMap r).put _ _
theorem covR_at (h : Nat) : ∀ r, (covR r).atKey (.int .u64 (h : Nat)) (.lit (.bool false)) = .lit (.bool (cov h r))
  | [] => by simp [covR, cov, DataW.atKey]
  | x :: r => by
    unfold covR
    by_cases e : h = x
    · subst e
      rw [atKey_put_same (k := .int .u64 (h : Nat)) (covR_isMap r) trivial]
      simp [cov]
    · rw [atKey_put_other (by intro he; injection he with _ e2; omega), covR_at h r]
      simp [cov, e]
theorem cov_reverse (h : Nat) (hs : List Nat) : cov h hs.reverse = cov h hs := by simp [cov]
theorem keyU : Keyed Try.prog 23 := int_keyed (Try.underlying23)
theorem mapU : Try.prog.underlying 50 = some (.map 23 4) := by kernel_rfl
theorem boolU : Try.prog.underlying 4 = some .bool := by kernel_rfl
theorem zeroBl (w : World) : (zeroValue 4).run Try.prog w = .ok (.bool false) w := by kernel_rfl
theorem wfN (x : Nat) (h : x < 18446744073709551616) : (Lit.int .u64 (x : Nat)).wf = true := WalkArith.wf_u64 (by omega)
abbrev ownM (W : World) (b n : Nat) (D : DataW Unit) : Prop := W.ownsMap Try.prog 23 (plainElem Try.prog 4) b n D
theorem ownM_next {W W' : World} {b n : Nat} {D : DataW Unit} (h : ownM W b n D) (hn : Below W.heap.size W W') : ownM W' b n D := by
  have hlt := h.lt
  obtain ⟨es, clock, hb, F⟩ := h
  exact ⟨es, clock, (hn.block b hlt).trans hb, F⟩
theorem lookup_bool {W : World} {b n : Nat} {D : DataW Unit} (h : ownM W b n D) (x : Nat) (hx : x < 18446744073709551616) {c : Bool} (hat : D.atKey (.int .u64 (x : Nat)) (.lit (.bool false)) = .lit (.bool c)) :
    (Instr.lookup 50 (.map (some b)) (.int .u64 (x : Nat)) false).run Try.prog W = .ok (.bool c) W := by
  obtain ⟨v, ps, hrun, hv⟩ := h.lookup keyU mapU (zeroBl W) (plainElem_bool boolU false) (keyOf_int_mk (Try.underlying23) (wfN x hx))
  rw [hat] at hv
  unfold plainElem at hv
  rw [boolU] at hv
  cases v <;> simp at hv
  obtain ⟨rfl, _⟩ := hv
  exact hrun
theorem covL_any (g b n : Nat) (hs : List Nat) (x : Nat) (hx : x < 18446744073709551616) (W : World) (hc : W.cell? ⟨g, 0, none⟩ = some (.map (some b))) (hm : ownM W b n (covR hs.reverse)) :
    Calls Try.prog 27 #[.int .u64 (x : Nat), .pointer (some ⟨g, 0, none⟩)] W fun e w' => e = .returned (.bool (cov x hs)) ∧ Below W.heap.size W w' := by
  have hrun := lookup_bool hm x hx (c := cov x hs) (by rw [covR_at, cov_reverse])
  clear hm
  generalize cov x hs = c at hrun ⊢
  go_enter Try.func27, Try.ntmps27
  go_wp2
  go_ret
  exact ⟨rfl, Below.refl _ _⟩
/-! Words. -/
abbrev uw (us : List Nat) : List Value := us.map fun u => .int .u64 (u : Nat)
structure RdU (W : World) (A : Option Addr) (b off : Nat) (us : List Nat) : Prop where
  a : 0 < us.length → A = some ⟨b, off, none⟩
  lt : 0 < us.length → b < W.heap.size
  c : ∀ j, j < us.length → W.cell? ⟨b, off + j, none⟩ = some (.int .u64 ((us.getD j 0 : Nat)))
theorem RdU.next {W W' : World} {A : Option Addr} {b off : Nat} {us : List Nat} (h : RdU W A b off us) (hb : Below W.heap.size W W') : RdU W' A b off us :=
  ⟨h.a, fun h0 => Nat.lt_of_lt_of_le (h.lt h0) hb.size, fun j hj => (hb.cell (p := ⟨b, off + j, none⟩) (h.lt (by omega))).trans (h.c j hj)⟩
theorem RdU.of_own {W : World} {B : Nat} {T : TypeId} {v : Value} {us : List Nat} (h : W.ownsRow B T 1 v us.length (uw us)) : ∃ A cap b, v = .slice A us.length cap ∧ RdU W A b 0 us := by
  have hc := fun g (e : v.ownBlock = some g) => h.cells e
  have hlt := h.lt
  rcases h.2 with ⟨rfl, h0⟩ | ⟨g, cap, cur, rfl, hb, hh, h3⟩
  · obtain rfl : us = [] := List.eq_nil_of_length_eq_zero h0
    exact ⟨none, 0, 0, rfl, fun h => by simp at h, fun h => by simp at h, fun j h => by simp at h⟩
  · refine ⟨_, cap, g, rfl, fun _ => rfl, fun _ => (hlt g rfl).2, fun j hj => ?_⟩
    have hj' : (uw us)[j]? = some (.int .u64 ((us.getD j 0 : Nat))) := by simp [uw, List.getD, hj]
    have := hc g rfl j _ hj'
    rw [add_plain'] at this; exact this
theorem takeN_yes (q : Nat → Bool) (us : List Nat) (j : Nat) (hj : j < us.length) (h : q (us.getD j 0) = true) : (us.take (j + 1)).filter q = (us.take j).filter q ++ [us.getD j 0] := by
  have e : us.getD j 0 = us[j] := by simp [List.getD, hj]
  rw [e] at h ⊢
  rw [List.take_succ_eq_append_getElem hj, List.filter_append]
  simp [h]
theorem takeN_no (q : Nat → Bool) (us : List Nat) (j : Nat) (hj : j < us.length) (h : q (us.getD j 0) = false) : (us.take (j + 1)).filter q = (us.take j).filter q := by
  have e : us.getD j 0 = us[j] := by simp [List.getD, hj]
  rw [e] at h
  rw [List.take_succ_eq_append_getElem hj, List.filter_append]
  simp [h]
theorem filterN_le (q : Nat → Bool) (us : List Nat) (j : Nat) : ((us.take j).filter q).length ≤ j := Nat.le_trans (List.length_filter_le _ _) (by simp; omega)
structure S2 (B : Nat) (w0 : World) (b1 o1 b2 o2 : Nat) (x : Nat) (W : World) : Prop where
  c0 : W.cell? ⟨b1, o1, none⟩ = some (.int .u64 x)
  d0 : W.cell? ⟨b2, o2, none⟩ = some (.int .u64 x)
  bl : Below B w0 W
theorem S2.drew {B : Nat} {w0 : World} {b1 o1 b2 o2 x : Nat} {W : World} (h : S2 B w0 b1 o1 b2 o2 x W) : S2 B w0 b1 o1 b2 o2 x W.drew := ⟨h.c0, h.d0, h.bl.drew⟩
set_option maxHeartbeats 1000000 in
theorem rwords_any (us : List Nat) (hl : us.length ≤ 100000) (A1 A2 : Option Addr) (b1 o1 b2 o2 c1 c2 : Nat) (W : World) (h1 : RdU W A1 b1 o1 us) (h2 : RdU W A2 b2 o2 us) :
    Calls Try.prog 18 #[.slice A1 us.length c1, .slice A2 us.length c2] W fun x w' => x = .returned (.bool true) ∧ Below W.heap.size W w' := by
  have H1 := Lib.hid h1
  have H2 := Lib.hid h2
  clear h1 h2
  generalize hn : us.length = n at hl ⊢
  have HN := Lib.hid hn
  clear hn
  go_enter Try.func18, Try.ntmps18
  go_wp2
  go_loopg [5] n (fun g i wr => ∃ j : Nat, j ≤ n ∧ g = n - j ∧ i = .int .i64 j ∧ Below W.heap.size W wr)
  case atStart => exact ⟨0, by omega, by omega, rfl, Below.refl _ _⟩
  case round =>
    obtain ⟨j, hj, hg, rfl, hb⟩ := hrel
    by_cases hlt : j < n
    · have hjl : j < us.length := by rw [HN.out]; exact hlt
      obtain rfl := H1.out.a (by omega)
      obtain rfl := H2.out.a (by omega)
      have k1 := H1.out.next hb
      have k2 := H2.out.next hb
      have HS := Lib.hid (show S2 W.heap.size W b1 (o1 + j) b2 (o2 + j) (us.getD j 0) wr from ⟨k1.c j hjl, k2.c j hjl, hb⟩)
      generalize us.getD j 0 = x at HS
      have HS1 := Lib.hid HS.out.drew
      clear k1 k2 HS hb hjl H1 H2
      go_wp2
      refine wp_region_class (C := S2 W.heap.size W b1 (o1 + j) b2 (o2 + j) x) (by kernel_rfl) (by kernel_rfl) (HS1.out) ?_
      repeat (first
        | go_big_quiet_skip
        | (go_big_quiet_want; go_big_quiet_op; go_big_quiet_on)
        | (go_big_quiet_want; go_big_quiet_op; refine ⟨_, fun _ _ => rfl, ?_⟩; go_big_quiet_on)
        | (go_big_quiet_want
           apply quiet_mk
           · intro u hu
             have c0 := hu.c0; have d0 := hu.d0
             have HU := Lib.hid hu
             clear hu
             go_simp
             first
               | with_reducible rfl
           simp only [Act.put, List.setIfInBounds_toArray, List.set_cons_zero, List.set_cons_succ]
           go_big_quiet_on))
      refine wpQuiet_nil ?_
      intro u hu
      have HB := Lib.hid hu.bl
      clear hu HS1
      go_wp2
      go_roundg (n - (j + 1))
      case rel => exact ⟨j + 1, by omega, rfl, by go_num, HB.out⟩
      case measure => omega
    · obtain rfl : j = n := by omega
      have HB := Lib.hid hb
      clear hb
      go_wp2
      go_ret
      exact ⟨rfl, HB.out⟩
theorem cov_take (h : Nat) (hs : List Nat) (j : Nat) (hj : j < hs.length) : cov h (hs.take (j + 1)) = (cov h (hs.take j) || decide (hs.getD j 0 = h ∧ h ≠ 0)) := by
  have e : hs.getD j 0 = hs[j] := by simp [List.getD, hj]
  have hm : (h ∈ hs.take (j + 1)) ↔ (h ∈ hs.take j ∨ h = hs[j]) := by rw [List.take_succ_eq_append_getElem hj, List.mem_append, List.mem_singleton]
  rw [e]
  unfold cov
  refine Bool.eq_iff_iff.2 ?_
  simp only [Bool.or_eq_true, decide_eq_true_eq, hm]
  constructor
  · rintro ⟨h1 | h1, h2⟩
    · exact .inl ⟨h1, h2⟩
    · exact .inr ⟨h1.symm, h2⟩
  · rintro (⟨h1, h2⟩ | ⟨h1, h2⟩)
    · exact ⟨.inl h1, h2⟩
    · exact ⟨.inr h1.symm, h2⟩
theorem cov_hit (h : Nat) (hs : List Nat) (j : Nat) (hj : j < hs.length) (e : hs.getD j 0 = h) (h0 : h ≠ 0) : cov h hs = true := by
  have e' : hs.getD j 0 = hs[j] := by simp [List.getD, hj]
  have : h ∈ hs := by rw [← e, e']; exact List.getElem_mem hj
  simp [cov, this, h0]
set_option maxHeartbeats 1000000 in
theorem rcover_any (h : Nat) (hs : List Nat) (hl : hs.length ≤ 1000) (A1 : Option Addr) (b1 o1 c1 : Nat) (W : World) (h1 : RdU W A1 b1 o1 hs) :
    Calls Try.prog 28 #[.int .u64 (h : Nat), .slice A1 hs.length c1] W fun x w' => x = .returned (.bool (cov h hs)) ∧ Below W.heap.size W w' := by
  have H1 := Lib.hid h1
  clear h1
  generalize hn : hs.length = n at hl ⊢
  have HN := Lib.hid hn
  clear hn
  generalize hcv : cov h hs = cv
  have HC := Lib.hid hcv
  clear hcv
  go_enter Try.func28, Try.ntmps28
  go_wp2
  go_loopg [5] n (fun g i wr => ∃ j : Nat, j ≤ n ∧ g = n - j ∧ i = .int .i64 j ∧ Below W.heap.size W wr ∧ cov h (hs.take j) = false)
  case atStart => exact ⟨0, by omega, by omega, rfl, Below.refl _ _, by simp [cov]⟩
  case round =>
    obtain ⟨j, hj, hg, rfl, hb, hf⟩ := hrel
    by_cases hlt : j < n
    · have hjl : j < hs.length := by rw [HN.out]; exact hlt
      obtain rfl := H1.out.a (by omega)
      have k1 := H1.out.next hb
      have q0 := k1.c j hjl
      have ht := cov_take h hs j hjl
      have hh := cov_hit h hs j hjl
      rw [hf] at ht
      generalize hs.getD j 0 = x at q0 ht hh
      have HB := Lib.hid hb
      by_cases hx : x = h
      · by_cases h0 : h = 0
        · have e1 : ((x : Int) == (h : Int)) = true := by simp [hx]
          have e2 : ((h : Int) != 0) = false := by simp [h0]
          have HF := Lib.hid (show cov h (hs.take (j + 1)) = false by rw [ht]; simp [h0])
          clear hf ht hh k1 hb hjl hx h0
          go_wp2
          go_roundg (n - (j + 1))
          case rel => exact ⟨j + 1, by omega, rfl, by go_num, HB.out, HF.out⟩
          case measure => omega
        · have e1 : ((x : Int) == (h : Int)) = true := by simp [hx]
          have e2 : ((h : Int) != 0) = true := by simp; omega
          have HT := Lib.hid (HC.out.symm.trans (hh hx h0))
          clear hf ht hh k1 hb hjl hx h0
          go_wp2
          go_ret
          exact ⟨by rw [HT.out]; rfl, HB.out⟩
      · have e1 : ((x : Int) == (h : Int)) = false := by simp; omega
        have HF := Lib.hid (show cov h (hs.take (j + 1)) = false by rw [ht]; simp [hx])
        clear hf ht hh k1 hb hjl hx
        go_wp2
        go_roundg (n - (j + 1))
        case rel => exact ⟨j + 1, by omega, rfl, by go_num, HB.out, HF.out⟩
        case measure => omega
    · obtain rfl : j = n := by omega
      rw [← HN.out, List.take_length] at hf
      have HB := Lib.hid hb
      have HT := Lib.hid (HC.out.symm.trans hf)
      clear hb hf
      go_wp2
      go_ret
      exact ⟨by rw [HT.out]; rfl, HB.out⟩
structure OW (B : Nat) (w0 : World) (v : Value) (us : List Nat) (W : World) : Prop where
  own : W.ownsRow B 23 1 v us.length (uw us)
  bl : Below B w0 W
theorem OW.start (w : World) : OW w.heap.size w (.slice none 0 0) [] w := ⟨World.ownsRow_nil _ _ _ _, Below.refl _ _⟩
theorem OW.size {B : Nat} {w0 : World} {v : Value} {us : List Nat} {W : World} (h : OW B w0 v us W) : w0.heap.size ≤ W.heap.size := h.bl.size
theorem OW.next {B : Nat} {w0 : World} {v : Value} {us : List Nat} {W W' : World} (h : OW B w0 v us W) (hB : B ≤ W.heap.size) (hn : Below W.heap.size W W') : OW B w0 v us W' := ⟨ownN h.own hn, h.bl.trans (hn.mono hB)⟩
theorem OW.alloc {B : Nat} {w0 : World} {v : Value} {us : List Nat} {W : World} (h : OW B w0 v us W) (hB : B ≤ W.heap.size) (o : Obj) : OW B w0 v us (W.alloc o) := h.next hB (bel1 W o)
theorem OW.add {B : Nat} {w0 : World} {v v' : Value} {us : List Nat} {W W' : World} (h : OW B w0 v us W) (hB : B ≤ W.heap.size) (r : Nat) (ho : W'.ownsRow B 23 1 v' (us.length + 1) (uw us ++ [.int .u64 (r : Nat)])) (hg : W.grownBy W' v.ownBlock) : OW B w0 v' (us ++ [r]) W' :=
  ⟨by simpa [uw] using ho, h.bl.grown hg hB (fun k e => (h.own.lt k e).1)⟩
structure OW2 (B : Nat) (w0 : World) (v1 : Value) (us1 : List Nat) (v2 : Value) (us2 : List Nat) (W : World) : Prop where
  o1 : W.ownsRow B 23 1 v1 us1.length (uw us1)
  o2 : W.ownsRow B 23 1 v2 us2.length (uw us2)
  bl : Below B w0 W
  ne : ∀ k, v1.ownBlock = some k → v2.ownBlock ≠ some k
section
variable {B : Nat} {w0 : World} {v1 : Value} {us1 : List Nat} {v2 : Value} {us2 : List Nat} {W W' : World}
theorem OW2.start (w : World) : OW2 w.heap.size w (.slice none 0 0) [] (.slice none 0 0) [] w := ⟨World.ownsRow_nil _ _ _ _, World.ownsRow_nil _ _ _ _, Below.refl _ _, fun k e => by simp [Value.ownBlock] at e⟩
theorem OW2.next (h : OW2 B w0 v1 us1 v2 us2 W) (hB : B ≤ W.heap.size) (hn : Below W.heap.size W W') : OW2 B w0 v1 us1 v2 us2 W' := ⟨ownN h.o1 hn, ownN h.o2 hn, h.bl.trans (hn.mono hB), h.ne⟩
theorem OW2.size (h : OW2 B w0 v1 us1 v2 us2 W) : w0.heap.size ≤ W.heap.size := h.bl.size
theorem OW2.alloc (h : OW2 B w0 v1 us1 v2 us2 W) (hB : B ≤ W.heap.size) (o : Obj) : OW2 B w0 v1 us1 v2 us2 (W.alloc o) := h.next hB (bel1 W o)
theorem OW2.mono {w1 : World} (h : OW2 w1.heap.size w1 v1 us1 v2 us2 W) (hb : Below B w0 w1) (hB : B ≤ w1.heap.size) : OW2 B w0 v1 us1 v2 us2 W :=
  ⟨ownLe h.o1 hB, ownLe h.o2 hB, hb.trans (h.bl.mono hB), h.ne⟩
theorem OW2.add1 {v' : Value} (h : OW2 B w0 v1 us1 v2 us2 W) (hB : B ≤ W.heap.size) (r : Nat) (ho : W'.ownsRow B 23 1 v' (us1.length + 1) (uw us1 ++ [.int .u64 (r : Nat)])) (hg : W.grownBy W' v1.ownBlock) (hl : v'.ownBlock = v1.ownBlock ∨ v'.ownBlock = some W.heap.size) : OW2 B w0 v' (us1 ++ [r]) v2 us2 W' := by
  refine ⟨by simpa [uw] using ho, h.o2.kept hg ?_, h.bl.grown hg hB (fun k e => (h.o1.lt k e).1), ?_⟩
  · cases he : v1.ownBlock with
    | none => cases hv : v2.ownBlock <;> simp
    | some k => exact .inr (fun e => h.ne k he (e.trans rfl))
  · intro k hk
    rcases hl with e | e
    · exact h.ne k (e ▸ hk)
    · intro hv
      have := (h.o2.lt k hv).2
      rw [e] at hk
      have : W.heap.size = k := by simpa using hk
      omega
theorem OW2.add2 {v' : Value} (h : OW2 B w0 v1 us1 v2 us2 W) (hB : B ≤ W.heap.size) (r : Nat) (ho : W'.ownsRow B 23 1 v' (us2.length + 1) (uw us2 ++ [.int .u64 (r : Nat)])) (hg : W.grownBy W' v2.ownBlock) (hl : v'.ownBlock = v2.ownBlock ∨ v'.ownBlock = some W.heap.size) : OW2 B w0 v1 us1 v' (us2 ++ [r]) W' := by
  refine ⟨h.o1.kept hg ?_, by simpa [uw] using ho, h.bl.grown hg hB (fun k e => (h.o2.lt k e).1), ?_⟩
  · cases he : v1.ownBlock with
    | none => exact .inl rfl
    | some k => exact .inr (fun e => h.ne k he e.symm)
  · intro k hk
    rcases hl with e | e
    · rw [e]; exact h.ne k hk
    · intro hv
      have := (h.o1.lt k hk).2
      rw [e] at hv
      have : W.heap.size = k := by simpa using hv
      omega
end
set_option maxHeartbeats 1000000 in
theorem rcovered_any (us hs : List Nat) (hl : us.length ≤ 1000) (hbd : ∀ r ∈ us, r < 18446744073709551616) (hl2 : hs.length ≤ 1000) (yes : Bool) (A1 : Option Addr) (b1 o1 c1 : Nat) (A2 : Option Addr) (b2 o2 c2 : Nat) (W : World) (h1 : RdU W A1 b1 o1 us) (h2 : RdU W A2 b2 o2 hs) :
    Calls Try.prog 19 #[.slice A1 us.length c1, .slice A2 hs.length c2, .bool yes] W fun x w' => ∃ v, x = .returned v ∧ OW W.heap.size W v (us.filter fun u => cov u hs == yes) w' := by
  have H1 := Lib.hid h1
  have BD := Lib.hid hbd
  obtain ⟨i0, hi, hz0, hz1, hz2⟩ := info_parts infoU
  have HI := Lib.hid (And.intro hi (And.intro hz0 (And.intro hz1 hz2)))
  have H2 := Lib.hid h2
  clear h1 h2 hbd hi hz0 hz1 hz2
  obtain ⟨Q, hQ⟩ : ∃ Q : Nat → Bool, Q = fun u => cov u hs == yes := ⟨_, rfl⟩
  rw [← hQ]
  have HQ := Lib.hid hQ
  clear hQ
  generalize hn : us.length = n at hl ⊢
  have HN := Lib.hid hn
  clear hn
  go_enter Try.func19, Try.ntmps19
  go_wp2
  go_loopg [7, 8] n (fun g v i wr => ∃ j : Nat, j ≤ n ∧ g = n - j ∧ i = .int .i64 j ∧ OW W.heap.size W v ((us.take j).filter Q) wr)
  case atStart => exact ⟨0, by omega, by omega, rfl, OW.start W⟩
  case round =>
    obtain ⟨j, hj, hg, rfl, hr⟩ := hrel
    by_cases hlt : j < n
    · have hjl : j < us.length := by rw [HN.out]; exact hlt
      obtain rfl := H1.out.a (by omega)
      have k1 := H1.out.next hr.bl
      have hc0 := k1.c j hjl
      have hblt := H1.out.lt (by omega)
      have hfl := filterN_le Q us j
      have HY := Lib.hid (takeN_yes Q us j hjl)
      have HNo := Lib.hid (takeN_no Q us j hjl)
      clear k1 hjl
      generalize hx : us.getD j 0 = r at hc0 HY HNo
      have R := Lib.hid (rcover_any r hs hl2 A2 b2 o2 c2 wr (H2.out.next hr.bl))
      have HR := Lib.hid hr
      have HF := Lib.hid hfl
      clear hr hfl hx
      cases hq : Q r with
      | true =>
        have hyes : (cov r hs == yes) = true := by rw [← hq, HQ.out]
        have HT := Lib.hid (HY.out hq)
        clear HY HNo hq
        generalize cov r hs = cv at R hyes
        go_wp2_with (first
          | (go_at_call 28; refine R.out.mono ?_; rintro e w1 ⟨rfl, hb⟩; have d0 : w1.cell? ⟨b1, o1 + j, none⟩ = some (.int .u64 (r : Nat)) := (hb.cell (p := ⟨b1, o1 + j, none⟩) (Nat.lt_of_lt_of_le hblt HR.out.size)).trans hc0; have HR1 := Lib.hid (HR.out.next HR.out.size hb); clear hb hc0; have HU := Lib.hid (HR1.out.alloc HR1.out.size (.cells #[.int .u64 (r : Nat)] 23)))
          | (at_builtin; refine wpList_append_own_at _ rfl _ _ 29 rfl W.heap.size 23 i0 (.int .u64 0) 1 8 sliceU HI.out.1 HI.out.2.1 HI.out.2.2.1 HI.out.2.2.2 rfl (by decide) _ _ _ rfl HU.out.own ⟨w1.heap.size, 0, none⟩ 1 1 [.int .u64 (r : Nat)] rfl rfl (World.news_of_block (heap_alloc_new w1 _)) (by simp [Value.oneCell']) (by have := HF.out; unfold maxLen; omega) (by have := HF.out; omega) HU.out.size ?_; intro v' w2 hown' hgrow hnil hloc; have HR2 := Lib.hid (OW.add HU.out HU.out.size r hown' hgrow); clear hown' hgrow hnil hloc HU))
        go_roundg (n - (j + 1))
        case rel => exact ⟨j + 1, by omega, rfl, by go_num, by rw [HT.out]; exact HR2.out⟩
        case measure => omega
      | false =>
        have hyes : (cov r hs == yes) = false := by rw [← hq, HQ.out]
        have HT := Lib.hid (HNo.out hq)
        clear HY HNo hq
        generalize cov r hs = cv at R hyes
        go_wp2_with (go_at_call 28; refine R.out.mono ?_; rintro e w1 ⟨rfl, hb⟩; have HR1 := Lib.hid (HR.out.next HR.out.size hb); clear hb hc0)
        go_roundg (n - (j + 1))
        case rel => exact ⟨j + 1, by omega, rfl, by go_num, by rw [HT.out]; exact HR1.out⟩
        case measure => omega
    · obtain rfl : j = n := by omega
      rw [← HN.out, List.take_length] at hr
      have HR := Lib.hid hr
      clear hr
      go_wp2
      go_ret
      exact ⟨_, rfl, HR.out⟩
set_option maxHeartbeats 1000000 in
theorem parted_cov (us hs : List Nat) (hl : us.length ≤ 1000) (hbd : ∀ r ∈ us, r < 18446744073709551616) (A1 : Option Addr) (b1 o1 c1 g b m : Nat) (W : World) (h1 : RdU W A1 b1 o1 us) (hcv : W.cell? ⟨g, 0, none⟩ = some (.map (some b))) (hm : ownM W b m (covR hs.reverse)) :
    Calls Try.prog 26 #[.slice A1 us.length c1, .func (.func 27) #[] #[.pointer (some ⟨g, 0, none⟩)]] W fun x w' => ∃ v1 v2, x = .returned (.tuple #[v1, v2]) ∧ OW2 W.heap.size W v1 (us.filter fun u => cov u hs) v2 (us.filter fun u => !(cov u hs)) w' := by
  have H1 := Lib.hid h1
  have BD := Lib.hid hbd
  obtain ⟨i0, hi, hz0, hz1, hz2⟩ := info_parts infoU
  have HI := Lib.hid (And.intro hi (And.intro hz0 (And.intro hz1 hz2)))
  have CV := Lib.hid hcv
  have CM := Lib.hid hm
  have hglt : g < W.heap.size := World.block_lt_of_cell? W _ hcv
  clear h1 hbd hi hz0 hz1 hz2 hcv hm
  obtain ⟨Q, hQ⟩ : ∃ Q : Nat → Bool, Q = fun u => cov u hs := ⟨_, rfl⟩
  have e1 : (fun u => !(cov u hs)) = fun u => !(Q u) := by rw [hQ]
  rw [e1, ← hQ]
  have HQ := Lib.hid hQ
  clear hQ e1
  generalize hn : us.length = n at hl ⊢
  have HN := Lib.hid hn
  clear hn
  go_enter Try.func26, Try.ntmps26
  go_wp2
  go_loopg [4, 5, 10] n (fun g v1 v2 i wr => ∃ j : Nat, j ≤ n ∧ g = n - j ∧ i = .int .i64 j ∧ OW2 W.heap.size W v1 ((us.take j).filter Q) v2 ((us.take j).filter fun r => !(Q r)) wr)
  case atStart => exact ⟨0, by omega, by omega, rfl, OW2.start W⟩
  case round =>
    obtain ⟨j, hj, hg, rfl, hr⟩ := hrel
    by_cases hlt : j < n
    · have hjl : j < us.length := by rw [HN.out]; exact hlt
      obtain rfl := H1.out.a (by omega)
      have k1 := H1.out.next hr.bl
      have hc0 := k1.c j hjl
      have hmm : us.getD j 0 ∈ us := by
        rw [List.getD_eq_getElem?_getD, List.getElem?_eq_getElem hjl]; exact List.getElem_mem hjl
      have hb1 := BD.out _ hmm
      have hfl := filterN_le Q us j
      have hfl2 := filterN_le (fun r => !(Q r)) us j
      have HY := Lib.hid (takeN_yes Q us j hjl)
      have HNo := Lib.hid (takeN_no Q us j hjl)
      have HY2 := Lib.hid (takeN_yes (fun r => !(Q r)) us j hjl)
      have HNo2 := Lib.hid (takeN_no (fun r => !(Q r)) us j hjl)
      clear hmm k1 hjl
      generalize hx : us.getD j 0 = r at hc0 hb1 HY HNo HY2 HNo2
      have R := Lib.hid (covL_any g b m hs r hb1 wr ((hr.bl.cell (p := ⟨g, 0, none⟩) hglt).trans CV.out) (ownM_next CM.out hr.bl))
      have HR := Lib.hid hr
      have HF := Lib.hid hfl
      have HF2 := Lib.hid hfl2
      have hyes : cov r hs = Q r := by rw [HQ.out]
      rw [hyes] at R
      clear hr hfl hfl2 hx hyes
      cases hq : Q r with
      | true =>
        rw [hq] at R
        have HT := Lib.hid (HY.out hq)
        have HT2 := Lib.hid (HNo2.out (by simp [hq]))
        clear HY HNo hq HY2 HNo2
        go_wp2_with (first
          | (go_at_call 27; refine R.out.mono ?_; rintro e w1 ⟨rfl, hb⟩; have HR1 := Lib.hid (HR.out.next HR.out.size hb); clear hb hc0; have HU := Lib.hid (HR1.out.alloc HR1.out.size (.cells #[.int .u64 (r : Nat)] 23)))
          | (at_builtin; refine wpList_append_own_at _ rfl _ _ 29 rfl W.heap.size 23 i0 (.int .u64 0) 1 8 sliceU HI.out.1 HI.out.2.1 HI.out.2.2.1 HI.out.2.2.2 rfl (by decide) _ _ _ rfl HU.out.o1 ⟨w1.heap.size, 0, none⟩ 1 1 [.int .u64 (r : Nat)] rfl rfl (World.news_of_block (heap_alloc_new w1 _)) (by simp [Value.oneCell']) (by have := HF.out; unfold maxLen; omega) (by have := HF.out; omega) HU.out.size ?_; intro v' w2 hown' hgrow hnil hloc; have HR2 := Lib.hid (OW2.add1 HU.out HU.out.size r hown' hgrow hloc); clear hown' hgrow hnil hloc HU))
        go_roundg (n - (j + 1))
        case rel => exact ⟨j + 1, by omega, rfl, by go_num, by rw [HT.out, HT2.out]; exact HR2.out⟩
        case measure => omega
      | false =>
        rw [hq] at R
        have HT := Lib.hid (HNo.out hq)
        have HT2 := Lib.hid (HY2.out (by simp [hq]))
        clear HY HNo hq HY2 HNo2
        go_wp2_with (first
          | (go_at_call 27; refine R.out.mono ?_; rintro e w1 ⟨rfl, hb⟩; have HR1 := Lib.hid (HR.out.next HR.out.size hb); clear hb hc0; have HU := Lib.hid (HR1.out.alloc HR1.out.size (.cells #[.int .u64 (r : Nat)] 23)))
          | (at_builtin; refine wpList_append_own_at _ rfl _ _ 29 rfl W.heap.size 23 i0 (.int .u64 0) 1 8 sliceU HI.out.1 HI.out.2.1 HI.out.2.2.1 HI.out.2.2.2 rfl (by decide) _ _ _ rfl HU.out.o2 ⟨w1.heap.size, 0, none⟩ 1 1 [.int .u64 (r : Nat)] rfl rfl (World.news_of_block (heap_alloc_new w1 _)) (by simp [Value.oneCell']) (by have := HF2.out; unfold maxLen; omega) (by have := HF2.out; omega) HU.out.size ?_; intro v' w2 hown' hgrow hnil hloc; have HR2 := Lib.hid (OW2.add2 HU.out HU.out.size r hown' hgrow hloc); clear hown' hgrow hnil hloc HU))
        go_roundg (n - (j + 1))
        case rel => exact ⟨j + 1, by omega, rfl, by go_num, by rw [HT.out, HT2.out]; exact HR2.out⟩
        case measure => omega
    · obtain rfl : j = n := by omega
      rw [← HN.out, List.take_length] at hr
      have HR := Lib.hid hr
      clear hr
      go_wp2
      go_ret2
      exact ⟨_, _, rfl, HR.out⟩
theorem rev_take (hs : List Nat) (j : Nat) (hj : j < hs.length) : (hs.take (j + 1)).reverse = hs.getD j 0 :: (hs.take j).reverse := by
  have e : hs.getD j 0 = hs[j] := by simp [List.getD, hj]
  rw [e, List.take_succ_eq_append_getElem hj]; simp
/-- The map that covers, and the variable that holds it. -/
structure CM (w : World) (n : Nat) (D : DataW Unit) (W : World) : Prop where
  c : W.cell? ⟨w.heap.size + 1, 0, none⟩ = some (.map (some w.heap.size))
  m : ownM W w.heap.size n D
  bl : Below w.heap.size w W
  sz : w.heap.size + 2 ≤ W.heap.size
set_option maxHeartbeats 1000000 in
theorem covered_any (us hs : List Nat) (hl : us.length ≤ 1000) (hbd : ∀ r ∈ us, r < 18446744073709551616) (hl2 : hs.length ≤ 1000) (hbd2 : ∀ r ∈ hs, r < 18446744073709551616) (A1 : Option Addr) (b1 o1 c1 : Nat) (A2 : Option Addr) (b2 o2 c2 : Nat) (W : World) (h1 : RdU W A1 b1 o1 us) (h2 : RdU W A2 b2 o2 hs) :
    Calls Try.prog 17 #[.slice A1 us.length c1, .slice A2 hs.length c2] W fun x w' => ∃ v1 v2, x = .returned (.tuple #[v1, v2]) ∧ OW2 W.heap.size W v1 (us.filter fun u => cov u hs) v2 (us.filter fun u => !(cov u hs)) w' := by
  have hmm := @run_makeMap Try.prog
  have H1 := Lib.hid h1
  have H2 := Lib.hid h2
  have BD := Lib.hid hbd
  have BD2 := Lib.hid hbd2
  have C0 := Lib.hid (show CM W 0 (covR []) ((W.alloc (.map #[] 0)).alloc (.cells #[.map (some W.heap.size)] 50)) from ⟨by simp, ownM_next (World.ownsMap_made W Try.prog 23 _) (bel1 _ _), bel2 _ _ _, by simp⟩)
  clear h1 h2 hbd hbd2
  generalize hn : hs.length = n at hl2 ⊢
  have HN := Lib.hid hn
  clear hn
  go_enter Try.func17, Try.ntmps17
  go_wp2
  go_loopg [12] n (fun g i wr => ∃ j : Nat, j ≤ n ∧ g = n - j ∧ i = .int .i64 j ∧ CM W j (covR (hs.take j).reverse) wr)
  case atStart => exact ⟨0, by omega, by omega, rfl, C0.out⟩
  case round =>
    clear C0 hmm
    obtain ⟨j, hj, hg, rfl, hr⟩ := hrel
    by_cases hlt : j < n
    · have hjl : j < hs.length := by rw [HN.out]; exact hlt
      obtain rfl := H2.out.a (by omega)
      have q0 := (H2.out.next hr.bl).c j hjl
      have hmem : hs.getD j 0 ∈ hs := by
        rw [List.getD_eq_getElem?_getD, List.getElem?_eq_getElem hjl]; exact List.getElem_mem hjl
      have hx := BD2.out _ hmem
      have HT := Lib.hid (rev_take hs j hjl)
      have cm := hr.c
      have HR := Lib.hid hr
      generalize hs.getD j 0 = x at q0 hx HT
      have hkey : keyOf Try.prog 23 (.int .u64 (x : Nat)) = some (.int .u64 (x : Nat)) := keyOf_int_mk (Try.underlying23) (wfN x hx)
      have HK := Lib.hid hkey
      have HV := Lib.hid (plainElem_bool (H := Unit) boolU (decide (x ≠ 0)))
      obtain ⟨bx, hbx⟩ : ∃ bx, bx = decide (x ≠ 0) := ⟨_, rfl⟩
      have hne : ((x : Int) != 0) = bx := by rw [hbx]; by_cases h : x = 0 <;> simp [h]
      rw [← hbx] at HV
      have HBX := Lib.hid hbx
      clear hr hmem hkey hjl hbx
      go_wp2_with (at_mapUpdate; refine wpList_mapUpdate_own _ rfl _ _ _ 50 rfl 23 4 keyU mapU (plainElem Try.prog 4) W.heap.size j (covR (hs.take j).reverse) rfl HR.out.m (by unfold maxLen; omega) _ _ _ rfl rfl HK.out _ [] HV.out ?_; intro w1 hown1 hgrow1; have HR1 := Lib.hid (show CM W (j + 1) (covR (hs.take (j + 1)).reverse) w1 from ⟨(hgrow1.cell_far ⟨W.heap.size + 1, 0, none⟩ (by have := HR.out.sz; show W.heap.size + 1 < wr.heap.size; omega) (by simp)).trans HR.out.c, by rw [HT.out]; unfold covR; rw [← HBX.out]; exact hown1, HR.out.bl.grown hgrow1 (by have := HR.out.sz; omega) (fun k e => by cases e; exact Nat.le_refl _), Nat.le_trans HR.out.sz hgrow1.size⟩); clear hown1 hgrow1 cm)
      go_roundg (n - (j + 1))
      case rel => exact ⟨j + 1, by omega, rfl, by go_num, HR1.out⟩
      case measure => omega
    · obtain rfl : j = n := by omega
      rw [← HN.out, List.take_length] at hr
      have C := Lib.hid (parted_cov us hs hl BD.out A1 b1 o1 c1 _ _ _ wr (H1.out.next hr.bl) hr.c hr.m)
      have HR := Lib.hid hr
      clear hr
      go_wp2_with (go_at_call 26; refine C.out.mono ?_; rintro e w1 ⟨v1, v2, rfl, hb⟩)
      go_ret2
      exact ⟨_, _, rfl, hb.mono HR.out.bl (by have := HR.out.sz; omega)⟩
end Go.Proofs.Ytdljnfioponegaa
