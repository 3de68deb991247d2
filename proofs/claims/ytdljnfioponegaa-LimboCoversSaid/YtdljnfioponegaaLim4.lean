/- limbo.Handles, Bags; the law's awake. -/
import Derived.Test.YtdljnfioponegaaLim3
import Derived.Deep.RegionHeld3
import Derived.Deep.RegionLaw
import Derived.Deep.DrawnRows
namespace Go.Proofs.Ytdljnfioponegaa
set_option linter.unusedVariables false
open Go.RowKit
attribute [local go_sem ↓] Go.wp_at_zero Go.wp_at_succ
theorem infoU : (Try.prog.info? 23).map (fun i => (i.zero, i.size, i.bytes)) = some (some (.int .u64 0), 1, 8) := by kernel_rfl
theorem sliceU : Try.prog.underlying 29 = some (.slice 23) := by kernel_rfl
abbrev hnd (rs : List (Nat × Nat)) : List Value := rs.map fun r => .int .u64 (r.1 : Nat)
structure OU (B : Nat) (w0 : World) (v : Value) (us : List (Nat × Nat)) (W : World) : Prop where
  own : W.ownsRow B 23 1 v us.length (hnd us)
  bl : Below B w0 W
theorem OU.start (w : World) : OU w.heap.size w (.slice none 0 0) [] w := ⟨World.ownsRow_nil _ _ _ _, Below.refl _ _⟩
theorem OU.size {B : Nat} {w0 : World} {v : Value} {us : List (Nat × Nat)} {W : World} (h : OU B w0 v us W) : w0.heap.size ≤ W.heap.size := h.bl.size
theorem OU.next {B : Nat} {w0 : World} {v : Value} {us : List (Nat × Nat)} {W W' : World} (h : OU B w0 v us W) (hB : B ≤ W.heap.size) (hn : Below W.heap.size W W') : OU B w0 v us W' := ⟨ownN h.own hn, h.bl.trans (hn.mono hB)⟩
theorem OU.alloc {B : Nat} {w0 : World} {v : Value} {us : List (Nat × Nat)} {W : World} (h : OU B w0 v us W) (hB : B ≤ W.heap.size) (o : Obj) : OU B w0 v us (W.alloc o) := h.next hB (bel1 W o)
theorem OU.add {B : Nat} {w0 : World} {v v' : Value} {us : List (Nat × Nat)} {W W' : World} (h : OU B w0 v us W) (hB : B ≤ W.heap.size) (r : Nat × Nat) (ho : W'.ownsRow B 23 1 v' (us.length + 1) (hnd us ++ [.int .u64 (r.1 : Nat)])) (hg : W.grownBy W' v.ownBlock) : OU B w0 v' (us ++ [r]) W' :=
  ⟨by simpa [hnd] using ho, h.bl.grown hg hB (fun k e => (h.own.lt k e).1)⟩
theorem take_snoc (rs : List (Nat × Nat)) (j : Nat) (hj : j < rs.length) : rs.take (j + 1) = rs.take j ++ [rs.getD j (0, 0)] := by
  have e : rs.getD j (0, 0) = rs[j] := by simp [List.getD, hj]
  rw [e, List.take_succ_eq_append_getElem hj]
set_option maxHeartbeats 1000000 in
theorem handles_any (rs : List (Nat × Nat)) (hl : rs.length ≤ 1000) (A1 : Option Addr) (b1 o1 c1 : Nat) (W : World) (h1 : RdR W A1 b1 o1 rs) :
    Calls Try.prog 9 #[.slice A1 rs.length c1] W fun x w' => ∃ v, x = .returned v ∧ OU W.heap.size W v rs w' := by
  have H1 := Lib.hid h1
  obtain ⟨i0, hi, hz0, hz1, hz2⟩ := info_parts infoU
  have HI := Lib.hid (And.intro hi (And.intro hz0 (And.intro hz1 hz2)))
  clear h1 hi hz0 hz1 hz2
  generalize hn : rs.length = n at hl ⊢
  have HN := Lib.hid hn
  clear hn
  go_enter Try.func9, Try.ntmps9
  go_wp2
  go_loopg [3, 8] n (fun g v i wr => ∃ j : Nat, j ≤ n ∧ g = n - j ∧ i = .int .i64 j ∧ OU W.heap.size W v (rs.take j) wr)
  case atStart => exact ⟨0, by omega, by omega, rfl, OU.start W⟩
  case round =>
    obtain ⟨j, hj, hg, rfl, hr⟩ := hrel
    by_cases hlt : j < n
    · have hjl : j < rs.length := by rw [HN.out]; exact hlt
      obtain rfl := H1.out.a (by omega)
      have k1 := H1.out.next hr.bl
      have hc0 := k1.c0 j hjl
      have hc1 := k1.c1 j hjl
      have HT := Lib.hid (take_snoc rs j hjl)
      have HF := Lib.hid (show (rs.take j).length ≤ j by simp; omega)
      clear k1 hjl
      generalize hx : rs.getD j (0, 0) = r at hc0 hc1 HT
      have HR := Lib.hid (hr.alloc hr.size (.cells #[.int .u64 (r.1 : Nat), .int .u64 (r.2 : Nat)] 32))
      have HU := Lib.hid (HR.out.alloc HR.out.size (.cells #[.int .u64 (r.1 : Nat)] 23))
      clear hr hx HR
      go_wp2_with (at_builtin; refine wpList_append_own_at _ rfl _ _ 29 rfl W.heap.size 23 i0 (.int .u64 0) 1 8 sliceU HI.out.1 HI.out.2.1 HI.out.2.2.1 HI.out.2.2.2 rfl (by decide) _ _ _ rfl HU.out.own ⟨wr.heap.size + 1, 0, none⟩ 1 1 [.int .u64 (r.1 : Nat)] rfl rfl (World.news_of_block (by simpa using heap_alloc_new (wr.alloc _) _)) (by simp [Value.oneCell']) (by have := HF.out; unfold maxLen; omega) (by have := HF.out; omega) HU.out.size ?_; intro v' w2 hown' hgrow hnil hloc; have HR2 := Lib.hid (OU.add HU.out HU.out.size r hown' hgrow); clear hown' hgrow hnil hloc HU)
      go_roundg (n - (j + 1))
      case rel => exact ⟨j + 1, by omega, rfl, by go_num, by rw [HT.out]; exact HR2.out⟩
      case measure => omega
    · obtain rfl : j = n := by omega
      rw [← HN.out, List.take_length] at hr
      have HR := Lib.hid hr
      clear hr
      go_wp2
      go_ret
      exact ⟨_, rfl, HR.out⟩
abbrev m3 (k : Nat) (r : Nat × Nat) : Bool := r.2 % 3 == k
abbrev nil3 : Value := .slice none 0 0
abbrev zeroB : Obj := .cells #[nil3, nil3, nil3] 43
/-- Three rows of the call's own, in a block's three cells, and a block of three that waits. -/
structure OB (w0 : World) (v0 v1 v2 : Value) (u0 u1 u2 : List (Nat × Nat)) (W : World) : Prop where
  c0 : W.cell? ⟨w0.heap.size + 1, 0, none⟩ = some v0
  c1 : W.cell? ⟨w0.heap.size + 1, 1, none⟩ = some v1
  c2 : W.cell? ⟨w0.heap.size + 1, 2, none⟩ = some v2
  fz : ∀ i, W.frozen? ⟨w0.heap.size + 1, i, none⟩ = false
  r0 : W.cell? ⟨w0.heap.size, 0, none⟩ = some nil3
  r1 : W.cell? ⟨w0.heap.size, 1, none⟩ = some nil3
  r2 : W.cell? ⟨w0.heap.size, 2, none⟩ = some nil3
  rz : ∀ i, W.frozen? ⟨w0.heap.size, i, none⟩ = false
  o0 : W.ownsRow (w0.heap.size + 2) 32 2 v0 u0.length (recs u0)
  o1 : W.ownsRow (w0.heap.size + 2) 32 2 v1 u1.length (recs u1)
  o2 : W.ownsRow (w0.heap.size + 2) 32 2 v2 u2.length (recs u2)
  bl : Below w0.heap.size w0 W
  sz : w0.heap.size + 2 ≤ W.heap.size
  n01 : ∀ k, v0.ownBlock = some k → v1.ownBlock ≠ some k
  n02 : ∀ k, v0.ownBlock = some k → v2.ownBlock ≠ some k
  n12 : ∀ k, v1.ownBlock = some k → v2.ownBlock ≠ some k
section
variable {w0 : World} {v0 v1 v2 : Value} {u0 u1 u2 : List (Nat × Nat)} {W W' : World}
theorem OB.start (w : World) : OB w nil3 nil3 nil3 [] [] [] ((w.alloc zeroB).alloc zeroB) :=
  ⟨by simp, by simp, by simp, fun i => by simp, by simp, by simp, by simp, fun i => by simp, World.ownsRow_nil _ _ _ _, World.ownsRow_nil _ _ _ _, World.ownsRow_nil _ _ _ _, bel2 _ _ _, by simp, fun k e => by simp [Value.ownBlock] at e, fun k e => by simp [Value.ownBlock] at e, fun k e => by simp [Value.ownBlock] at e⟩
theorem OB.next (h : OB w0 v0 v1 v2 u0 u1 u2 W) (hn : Below W.heap.size W W') : OB w0 v0 v1 v2 u0 u1 u2 W' := by
  have c : ∀ g i, g < W.heap.size → W'.cell? ⟨g, i, none⟩ = W.cell? ⟨g, i, none⟩ := fun g i hg => hn.cell (p := ⟨g, i, none⟩) hg
  have f : ∀ g i, g < W.heap.size → W'.frozen? ⟨g, i, none⟩ = W.frozen? ⟨g, i, none⟩ := fun g i hg => hn.frozen (p := ⟨g, i, none⟩) hg
  have hs := h.sz
  exact ⟨(c _ _ (by omega)).trans h.c0, (c _ _ (by omega)).trans h.c1, (c _ _ (by omega)).trans h.c2, fun i => (f _ _ (by omega)).trans (h.fz i), (c _ _ (by omega)).trans h.r0, (c _ _ (by omega)).trans h.r1, (c _ _ (by omega)).trans h.r2, fun i => (f _ _ (by omega)).trans (h.rz i),
    ownN h.o0 hn, ownN h.o1 hn, ownN h.o2 hn, h.bl.trans (hn.mono (by omega)), Nat.le_trans hs hn.size, h.n01, h.n02, h.n12⟩
theorem OB.drew {w0 : World} {v0 v1 v2 : Value} {u0 u1 u2 : List (Nat × Nat)} {W : World} (h : OB w0 v0 v1 v2 u0 u1 u2 W) : OB w0 v0 v1 v2 u0 u1 u2 W.drew := ⟨h.c0, h.c1, h.c2, h.fz, h.r0, h.r1, h.r2, h.rz, h.o0, h.o1, h.o2, h.bl.drew, h.sz, h.n01, h.n02, h.n12⟩
theorem ownDrew {w : World} {B n sz : Nat} {e : TypeId} {v : Value} {xs : List Value} (h : w.ownsRow B e sz v n xs) : w.drew.ownsRow B e sz v n xs := h
theorem own_slice {w : World} {B n sz : Nat} {e : TypeId} {v : Value} {xs : List Value} (h : w.ownsRow B e sz v n xs) : ∃ A m c, v = .slice A m c := by
  rcases h.2 with ⟨rfl, _⟩ | ⟨g, cap, cur, rfl, _⟩
  · exact ⟨_, _, _, rfl⟩
  · exact ⟨_, _, _, rfl⟩
theorem setOwn {w : World} {B n sz : Nat} {e : TypeId} {v : Value} {xs : List Value} (h : w.ownsRow B e sz v n xs) (g i : Nat) (u : Value) (hg : g < B) : (w.setCell ⟨g, i, none⟩ u).ownsRow B e sz v n xs := ownsRow_setCell_below h (a := ⟨g, i, none⟩) hg u
theorem OB.add0 {v' : Value} (h : OB w0 v0 v1 v2 u0 u1 u2 W) (r : Nat × Nat) (ho : W'.ownsRow (w0.heap.size + 2) 32 2 v' (u0.length + 1) (recs u0 ++ recL r)) (hg : W.grownBy W' v0.ownBlock) (hl : v'.ownBlock = v0.ownBlock ∨ v'.ownBlock = some W.heap.size) :
    OB w0 v' v1 v2 (u0 ++ [r]) u1 u2 (W'.setCell ⟨w0.heap.size + 1, 0, none⟩ v') := by
  have hs := h.sz
  have hk : ∀ q, v0.ownBlock = some q → w0.heap.size + 2 ≤ q := fun q e => (h.o0.lt q e).1
  have nr : ∀ g, g < w0.heap.size + 2 → some g ≠ v0.ownBlock := fun g hg' e => by have := hk g e.symm; omega
  have c : ∀ g i, g < w0.heap.size + 2 → W'.cell? ⟨g, i, none⟩ = W.cell? ⟨g, i, none⟩ := fun g i hg' => hg.cell_far ⟨g, i, none⟩ (by show g < W.heap.size; omega) (nr g hg')
  have f : ∀ g i, g < w0.heap.size + 2 → W'.frozen? ⟨g, i, none⟩ = W.frozen? ⟨g, i, none⟩ := fun g i hg' => hg.frozen_far ⟨g, i, none⟩ (by show g < W.heap.size; omega) (nr g hg')
  have d0 := (c (w0.heap.size + 1) 0 (by omega)).trans h.c0
  have d1 := (c (w0.heap.size + 1) 1 (by omega)).trans h.c1
  have d2 := (c (w0.heap.size + 1) 2 (by omega)).trans h.c2
  have q0 := (c w0.heap.size 0 (by omega)).trans h.r0
  have q1 := (c w0.heap.size 1 (by omega)).trans h.r1
  have q2 := (c w0.heap.size 2 (by omega)).trans h.r2
  have z1 := fun i => (f (w0.heap.size + 1) i (by omega)).trans (h.fz i)
  have z0 := fun i => (f w0.heap.size i (by omega)).trans (h.rz i)
  have hbl : Below w0.heap.size w0 W' := h.bl.grown hg (by omega) (fun q e => by have := hk q e; omega)
  have on : W'.ownsRow (w0.heap.size + 2) 32 2 v' (u0 ++ [r]).length (recs (u0 ++ [r])) := by rw [recs_snoc] at ho; simpa using ho
  have k1 := h.o1.kept hg (by
      have hx := fun q (hq : v1.ownBlock = some q) (e : v0.ownBlock = some q) => h.n01 q e hq
      cases hb : v1.ownBlock with
      | none => exact .inl rfl
      | some q => exact .inr (fun e => hx q hb e.symm))
  have k2 := h.o2.kept hg (by
      have hx := fun q (hq : v2.ownBlock = some q) (e : v0.ownBlock = some q) => h.n02 q e hq
      cases hb : v2.ownBlock with
      | none => exact .inl rfl
      | some q => exact .inr (fun e => hx q hb e.symm))
  refine ⟨by simp [go_sem, d0], by simp [go_sem, d1], by simp [go_sem, d2], fun i => by simp [go_sem, z1], by simp [go_sem, q0], by simp [go_sem, q1], by simp [go_sem, q2], fun i => by simp [go_sem, z0], setOwn on _ _ _ (by omega), setOwn k1 _ _ _ (by omega), setOwn k2 _ _ _ (by omega), hbl.setCell (by simp) _, by have := hg.size; simp; omega, fun q hq hv => by
      rcases hl with e | e
      · exact h.n01 q (e ▸ hq) hv
      · have := (h.o1.lt q hv).2; rw [e] at hq; have : W.heap.size = q := by simpa using hq
        omega, fun q hq hv => by
      rcases hl with e | e
      · exact h.n02 q (e ▸ hq) hv
      · have := (h.o2.lt q hv).2; rw [e] at hq; have : W.heap.size = q := by simpa using hq
        omega, h.n12⟩
theorem OB.add1 {v' : Value} (h : OB w0 v0 v1 v2 u0 u1 u2 W) (r : Nat × Nat) (ho : W'.ownsRow (w0.heap.size + 2) 32 2 v' (u1.length + 1) (recs u1 ++ recL r)) (hg : W.grownBy W' v1.ownBlock) (hl : v'.ownBlock = v1.ownBlock ∨ v'.ownBlock = some W.heap.size) :
    OB w0 v0 v' v2 u0 (u1 ++ [r]) u2 (W'.setCell ⟨w0.heap.size + 1, 1, none⟩ v') := by
  have hs := h.sz
  have hk : ∀ q, v1.ownBlock = some q → w0.heap.size + 2 ≤ q := fun q e => (h.o1.lt q e).1
  have nr : ∀ g, g < w0.heap.size + 2 → some g ≠ v1.ownBlock := fun g hg' e => by have := hk g e.symm; omega
  have c : ∀ g i, g < w0.heap.size + 2 → W'.cell? ⟨g, i, none⟩ = W.cell? ⟨g, i, none⟩ := fun g i hg' => hg.cell_far ⟨g, i, none⟩ (by show g < W.heap.size; omega) (nr g hg')
  have f : ∀ g i, g < w0.heap.size + 2 → W'.frozen? ⟨g, i, none⟩ = W.frozen? ⟨g, i, none⟩ := fun g i hg' => hg.frozen_far ⟨g, i, none⟩ (by show g < W.heap.size; omega) (nr g hg')
  have d0 := (c (w0.heap.size + 1) 0 (by omega)).trans h.c0
  have d1 := (c (w0.heap.size + 1) 1 (by omega)).trans h.c1
  have d2 := (c (w0.heap.size + 1) 2 (by omega)).trans h.c2
  have q0 := (c w0.heap.size 0 (by omega)).trans h.r0
  have q1 := (c w0.heap.size 1 (by omega)).trans h.r1
  have q2 := (c w0.heap.size 2 (by omega)).trans h.r2
  have z1 := fun i => (f (w0.heap.size + 1) i (by omega)).trans (h.fz i)
  have z0 := fun i => (f w0.heap.size i (by omega)).trans (h.rz i)
  have hbl : Below w0.heap.size w0 W' := h.bl.grown hg (by omega) (fun q e => by have := hk q e; omega)
  have on : W'.ownsRow (w0.heap.size + 2) 32 2 v' (u1 ++ [r]).length (recs (u1 ++ [r])) := by rw [recs_snoc] at ho; simpa using ho
  have k0 := h.o0.kept hg (by
      have hx := fun q (hq : v0.ownBlock = some q) (e : v1.ownBlock = some q) => h.n01 q hq e
      cases hb : v0.ownBlock with
      | none => exact .inl rfl
      | some q => exact .inr (fun e => hx q hb e.symm))
  have k2 := h.o2.kept hg (by
      have hx := fun q (hq : v2.ownBlock = some q) (e : v1.ownBlock = some q) => h.n12 q e hq
      cases hb : v2.ownBlock with
      | none => exact .inl rfl
      | some q => exact .inr (fun e => hx q hb e.symm))
  refine ⟨by simp [go_sem, d0], by simp [go_sem, d1], by simp [go_sem, d2], fun i => by simp [go_sem, z1], by simp [go_sem, q0], by simp [go_sem, q1], by simp [go_sem, q2], fun i => by simp [go_sem, z0], setOwn k0 _ _ _ (by omega), setOwn on _ _ _ (by omega), setOwn k2 _ _ _ (by omega), hbl.setCell (by simp) _, by have := hg.size; simp; omega, fun q hq hv => by
      rcases hl with e | e
      · rw [e] at hv; exact h.n01 q hq hv
      · have := (h.o0.lt q hq).2; rw [e] at hv; have : W.heap.size = q := by simpa using hv
        omega, h.n02, fun q hq hv => by
      rcases hl with e | e
      · exact h.n12 q (e ▸ hq) hv
      · have := (h.o2.lt q hv).2; rw [e] at hq; have : W.heap.size = q := by simpa using hq
        omega⟩
theorem OB.add2 {v' : Value} (h : OB w0 v0 v1 v2 u0 u1 u2 W) (r : Nat × Nat) (ho : W'.ownsRow (w0.heap.size + 2) 32 2 v' (u2.length + 1) (recs u2 ++ recL r)) (hg : W.grownBy W' v2.ownBlock) (hl : v'.ownBlock = v2.ownBlock ∨ v'.ownBlock = some W.heap.size) :
    OB w0 v0 v1 v' u0 u1 (u2 ++ [r]) (W'.setCell ⟨w0.heap.size + 1, 2, none⟩ v') := by
  have hs := h.sz
  have hk : ∀ q, v2.ownBlock = some q → w0.heap.size + 2 ≤ q := fun q e => (h.o2.lt q e).1
  have nr : ∀ g, g < w0.heap.size + 2 → some g ≠ v2.ownBlock := fun g hg' e => by have := hk g e.symm; omega
  have c : ∀ g i, g < w0.heap.size + 2 → W'.cell? ⟨g, i, none⟩ = W.cell? ⟨g, i, none⟩ := fun g i hg' => hg.cell_far ⟨g, i, none⟩ (by show g < W.heap.size; omega) (nr g hg')
  have f : ∀ g i, g < w0.heap.size + 2 → W'.frozen? ⟨g, i, none⟩ = W.frozen? ⟨g, i, none⟩ := fun g i hg' => hg.frozen_far ⟨g, i, none⟩ (by show g < W.heap.size; omega) (nr g hg')
  have d0 := (c (w0.heap.size + 1) 0 (by omega)).trans h.c0
  have d1 := (c (w0.heap.size + 1) 1 (by omega)).trans h.c1
  have d2 := (c (w0.heap.size + 1) 2 (by omega)).trans h.c2
  have q0 := (c w0.heap.size 0 (by omega)).trans h.r0
  have q1 := (c w0.heap.size 1 (by omega)).trans h.r1
  have q2 := (c w0.heap.size 2 (by omega)).trans h.r2
  have z1 := fun i => (f (w0.heap.size + 1) i (by omega)).trans (h.fz i)
  have z0 := fun i => (f w0.heap.size i (by omega)).trans (h.rz i)
  have hbl : Below w0.heap.size w0 W' := h.bl.grown hg (by omega) (fun q e => by have := hk q e; omega)
  have on : W'.ownsRow (w0.heap.size + 2) 32 2 v' (u2 ++ [r]).length (recs (u2 ++ [r])) := by rw [recs_snoc] at ho; simpa using ho
  have k0 := h.o0.kept hg (by
      have hx := fun q (hq : v0.ownBlock = some q) (e : v2.ownBlock = some q) => h.n02 q hq e
      cases hb : v0.ownBlock with
      | none => exact .inl rfl
      | some q => exact .inr (fun e => hx q hb e.symm))
  have k1 := h.o1.kept hg (by
      have hx := fun q (hq : v1.ownBlock = some q) (e : v2.ownBlock = some q) => h.n12 q hq e
      cases hb : v1.ownBlock with
      | none => exact .inl rfl
      | some q => exact .inr (fun e => hx q hb e.symm))
  refine ⟨by simp [go_sem, d0], by simp [go_sem, d1], by simp [go_sem, d2], fun i => by simp [go_sem, z1], by simp [go_sem, q0], by simp [go_sem, q1], by simp [go_sem, q2], fun i => by simp [go_sem, z0], setOwn k0 _ _ _ (by omega), setOwn k1 _ _ _ (by omega), setOwn on _ _ _ (by omega), hbl.setCell (by simp) _, by have := hg.size; simp; omega, h.n01, fun q hq hv => by
      rcases hl with e | e
      · rw [e] at hv; exact h.n02 q hq hv
      · have := (h.o0.lt q hq).2; rw [e] at hv; have : W.heap.size = q := by simpa using hv
        omega, fun q hq hv => by
      rcases hl with e | e
      · rw [e] at hv; exact h.n12 q hq hv
      · have := (h.o1.lt q hq).2; rw [e] at hv; have : W.heap.size = q := by simpa using hv
        omega⟩
end
set_option maxHeartbeats 4000000 in
theorem bags_any (rs : List (Nat × Nat)) (hl : rs.length ≤ 1000) (hbd : ∀ r ∈ rs, r.1 < 18446744073709551616 ∧ r.2 < 18446744073709551616) (A1 : Option Addr) (b1 o1 c1 : Nat) (W : World) (h1 : RdR W A1 b1 o1 rs) :
    Calls Try.prog 20 #[.slice A1 rs.length c1] W fun x w' => ∃ v0 v1 v2, x = .returned (.agg #[v0, v1, v2]) ∧ (w'.ownsRow (W.heap.size + 2) 32 2 v0 (rs.filter (m3 0)).length (recs (rs.filter (m3 0)))) ∧ (w'.ownsRow (W.heap.size + 2) 32 2 v1 (rs.filter (m3 1)).length (recs (rs.filter (m3 1)))) ∧ (w'.ownsRow (W.heap.size + 2) 32 2 v2 (rs.filter (m3 2)).length (recs (rs.filter (m3 2)))) ∧ Below W.heap.size W w' := by
  have H1 := Lib.hid h1
  have BD := Lib.hid hbd
  obtain ⟨i0, hi, hz0, hz1, hz2⟩ := info_parts infoR
  have HI := Lib.hid (And.intro hi (And.intro hz0 (And.intro hz1 hz2)))
  have HS := Lib.hid (OB.start W)
  clear h1 hbd hi hz0 hz1 hz2
  generalize hn : rs.length = n at hl ⊢
  have HN := Lib.hid hn
  clear hn
  go_enter Try.func20, Try.ntmps20
  go_wp2
  go_loopg [9] n (fun g i wr => ∃ (j : Nat) (v0 v1 v2 : Value), j ≤ n ∧ g = n - j ∧ i = .int .i64 j ∧ OB W v0 v1 v2 ((rs.take j).filter (m3 0)) ((rs.take j).filter (m3 1)) ((rs.take j).filter (m3 2)) wr)
  case atStart => exact ⟨0, _, _, _, by omega, by omega, rfl, HS.out⟩
  case round =>
    clear HS
    obtain ⟨j, v0, v1, v2, hj, hg, rfl, hr⟩ := hrel
    by_cases hlt : j < n
    · have hjl : j < rs.length := by rw [HN.out]; exact hlt
      obtain rfl := H1.out.a (by omega)
      have k1 := H1.out.next hr.bl
      have hc0 := k1.c0 j hjl
      have hc1 := k1.c1 j hjl
      have Y0 := Lib.hid (take_filter_yes (m3 0) rs j hjl)
      have N0 := Lib.hid (take_filter_no (m3 0) rs j hjl)
      have F0 := Lib.hid (filter_le (m3 0) rs j)
      have Y1 := Lib.hid (take_filter_yes (m3 1) rs j hjl)
      have N1 := Lib.hid (take_filter_no (m3 1) rs j hjl)
      have F1 := Lib.hid (filter_le (m3 1) rs j)
      have Y2 := Lib.hid (take_filter_yes (m3 2) rs j hjl)
      have N2 := Lib.hid (take_filter_no (m3 2) rs j hjl)
      have F2 := Lib.hid (filter_le (m3 2) rs j)
      clear k1 hjl
      generalize hx : rs.getD j (0, 0) = r at hc0 hc1 Y0 Y1 Y2 N0 N1 N2
      generalize hu0 : (rs.take j).filter (m3 0) = u0 at hr Y0 N0 F0
      generalize hu1 : (rs.take j).filter (m3 1) = u1 at hr Y1 N1 F1
      generalize hu2 : (rs.take j).filter (m3 2) = u2 at hr Y2 N2 F2
      have HR := Lib.hid ((hr.next (bel1 wr (.cells #[.int .u64 (r.1 : Nat), .int .u64 (r.2 : Nat)] 32))).next (bel1 _ (.cells #[.int .u64 (r.1 : Nat), .int .u64 (r.2 : Nat)] 32)))
      have HD := Lib.hid HR.out
      have sz := hr.sz
      have hk := (by omega : r.2 % 3 = 0 ∨ r.2 % 3 = 1 ∨ r.2 % 3 = 2)
      rcases hk with hk | hk | hk
      · have rm : (r.2 : Int) % 3 = 0 := by omega
        have T0 := Lib.hid (Y0.out (by simp [hk]))
        have T1 := Lib.hid (N1.out (by simp [hk]))
        have T2 := Lib.hid (N2.out (by simp [hk]))
        have ck := hr.c0
        have fk := hr.fz 0
        have own := Lib.hid hr.o0
        have nb : ∀ q, v0.ownBlock = some q → W.heap.size + 2 ≤ q := fun q e => (hr.o0.lt q e).1
        have NB := Lib.hid nb
        have f2 := Lib.hid (HR.out.fz 0)
        have ck2 := HR.out.c0
        have HW : ((wr.alloc (.cells #[.int .u64 (r.1 : Nat), .int .u64 (r.2 : Nat)] 32)).alloc (.cells #[.int .u64 (r.1 : Nat), .int .u64 (r.2 : Nat)] 32)).heap[wr.heap.size + 1]? = some (.cells #[.int .u64 (r.1 : Nat), .int .u64 (r.2 : Nat)] 32) := by
          have h := heap_alloc_new (wr.alloc (.cells #[.int .u64 (r.1 : Nat), .int .u64 (r.2 : Nat)] 32)) (.cells #[.int .u64 (r.1 : Nat), .int .u64 (r.2 : Nat)] 32)
          rw [show (wr.alloc (.cells #[.int .u64 (r.1 : Nat), .int .u64 (r.2 : Nat)] 32)).heap.size = wr.heap.size + 1 by simp] at h
          exact h
        have HWH := Lib.hid HW
        have e1 : wr.heap.size ≠ W.heap.size + 1 := by omega
        have e3 : W.heap.size + 1 < wr.heap.size := by omega
        have e4 := World.new_ne wr _ ck
        have e2 : W.heap.size + 1 ≠ wr.heap.size := by omega
        clear HW
        have hfar : some wr.heap.size ≠ v0.ownBlock := fun e => by have := (hr.o0.lt _ e.symm).2; omega
        clear hr Y0 Y1 Y2 N0 N1 N2 hk hx hu0 hu1 hu2 nb
        go_wp2
        go_region_law
          ((refine step_append_lies _ (by rfl) _ _ 22 (by rfl) (W.heap.size + 2) 32 i0 _ 2 16 sliceR HI.out.1 HI.out.2.1 HI.out.2.2.1 HI.out.2.2.2 rfl (by omega) v0 u0.length (recs u0) (by rfl) (ownDrew HD.out.o0)
              ⟨wr.heap.size + 1, 0, none⟩ 1 1 (recL r) (by rfl) (by rfl) (World.news_of_block (cs := #[.int .u64 (r.1 : Nat), .int .u64 (r.2 : Nat)]) (t := 32) (fr := (0, 0)) HWH.out) (by simp [Value.oneCell'])
              (by omega) (by have := F0.out; unfold maxLen; omega) (by have := F0.out; omega) (by simp; omega) (wr.heap.size + 2) (by simp) ?_; intro gg cap w1 hown1 hgrow hat hlt; have fz1 : w1.frozen? ⟨W.heap.size + 1, 0, none⟩ = false := (hgrow.frozen_far ⟨W.heap.size + 1, 0, none⟩ (by first | (simp; done) | (simp; omega)) (fun e => by have := NB.out _ e.symm; exact absurd this (by show ¬ W.heap.size + 2 ≤ W.heap.size + 1; omega))).trans f2.out; have ck1 : w1.cell? ⟨W.heap.size + 1, 0, none⟩ = some v0 := (hgrow.cell_far ⟨W.heap.size + 1, 0, none⟩ (by first | (simp; done) | (simp; omega)) (fun e => by have := NB.out _ e.symm; exact absurd this (by show ¬ W.heap.size + 2 ≤ W.heap.size + 1; omega))).trans HR.out.c0))
        all_goals (
          have HX := Lib.hid (OB.add0 HD.out.drew r hown1 hgrow (by
            rcases hat with e | e
            · exact .inl (show some gg = _ from e.symm)
            · exact .inr (show some gg = some _ by rw [e]; simp)))
          clear hown1 hgrow
          go_wp2
          go_roundg (n - (j + 1))
          case rel => exact ⟨j + 1, _, _, _, by omega, rfl, by go_num, by rw [T0.out, T1.out, T2.out]; exact HX.out⟩
          case measure => omega)
      · have rm : (r.2 : Int) % 3 = 1 := by omega
        have T1 := Lib.hid (Y1.out (by simp [hk]))
        have T0 := Lib.hid (N0.out (by simp [hk]))
        have T2 := Lib.hid (N2.out (by simp [hk]))
        have ck := hr.c1
        have fk := hr.fz 1
        have own := Lib.hid hr.o1
        have nb : ∀ q, v1.ownBlock = some q → W.heap.size + 2 ≤ q := fun q e => (hr.o1.lt q e).1
        have NB := Lib.hid nb
        have f2 := Lib.hid (HR.out.fz 1)
        have ck2 := HR.out.c1
        have HW : ((wr.alloc (.cells #[.int .u64 (r.1 : Nat), .int .u64 (r.2 : Nat)] 32)).alloc (.cells #[.int .u64 (r.1 : Nat), .int .u64 (r.2 : Nat)] 32)).heap[wr.heap.size + 1]? = some (.cells #[.int .u64 (r.1 : Nat), .int .u64 (r.2 : Nat)] 32) := by
          have h := heap_alloc_new (wr.alloc (.cells #[.int .u64 (r.1 : Nat), .int .u64 (r.2 : Nat)] 32)) (.cells #[.int .u64 (r.1 : Nat), .int .u64 (r.2 : Nat)] 32)
          rw [show (wr.alloc (.cells #[.int .u64 (r.1 : Nat), .int .u64 (r.2 : Nat)] 32)).heap.size = wr.heap.size + 1 by simp] at h
          exact h
        have HWH := Lib.hid HW
        have e1 : wr.heap.size ≠ W.heap.size + 1 := by omega
        have e3 : W.heap.size + 1 < wr.heap.size := by omega
        have e4 := World.new_ne wr _ ck
        have e2 : W.heap.size + 1 ≠ wr.heap.size := by omega
        clear HW
        have hfar : some wr.heap.size ≠ v1.ownBlock := fun e => by have := (hr.o1.lt _ e.symm).2; omega
        clear hr Y0 Y1 Y2 N0 N1 N2 hk hx hu0 hu1 hu2 nb
        go_wp2
        go_region_law
          ((refine step_append_lies _ (by rfl) _ _ 22 (by rfl) (W.heap.size + 2) 32 i0 _ 2 16 sliceR HI.out.1 HI.out.2.1 HI.out.2.2.1 HI.out.2.2.2 rfl (by omega) v1 u1.length (recs u1) (by rfl) (ownDrew HD.out.o1)
              ⟨wr.heap.size + 1, 0, none⟩ 1 1 (recL r) (by rfl) (by rfl) (World.news_of_block (cs := #[.int .u64 (r.1 : Nat), .int .u64 (r.2 : Nat)]) (t := 32) (fr := (0, 0)) HWH.out) (by simp [Value.oneCell'])
              (by omega) (by have := F1.out; unfold maxLen; omega) (by have := F1.out; omega) (by simp; omega) (wr.heap.size + 2) (by simp) ?_; intro gg cap w1 hown1 hgrow hat hlt; have fz1 : w1.frozen? ⟨W.heap.size + 1, 1, none⟩ = false := (hgrow.frozen_far ⟨W.heap.size + 1, 1, none⟩ (by first | (simp; done) | (simp; omega)) (fun e => by have := NB.out _ e.symm; exact absurd this (by show ¬ W.heap.size + 2 ≤ W.heap.size + 1; omega))).trans f2.out; have ck1 : w1.cell? ⟨W.heap.size + 1, 1, none⟩ = some v1 := (hgrow.cell_far ⟨W.heap.size + 1, 1, none⟩ (by first | (simp; done) | (simp; omega)) (fun e => by have := NB.out _ e.symm; exact absurd this (by show ¬ W.heap.size + 2 ≤ W.heap.size + 1; omega))).trans HR.out.c1))
        all_goals (
          have HX := Lib.hid (OB.add1 HD.out.drew r hown1 hgrow (by
            rcases hat with e | e
            · exact .inl (show some gg = _ from e.symm)
            · exact .inr (show some gg = some _ by rw [e]; simp)))
          clear hown1 hgrow
          go_wp2
          go_roundg (n - (j + 1))
          case rel => exact ⟨j + 1, _, _, _, by omega, rfl, by go_num, by rw [T0.out, T1.out, T2.out]; exact HX.out⟩
          case measure => omega)
      · have rm : (r.2 : Int) % 3 = 2 := by omega
        have T2 := Lib.hid (Y2.out (by simp [hk]))
        have T0 := Lib.hid (N0.out (by simp [hk]))
        have T1 := Lib.hid (N1.out (by simp [hk]))
        have ck := hr.c2
        have fk := hr.fz 2
        have own := Lib.hid hr.o2
        have nb : ∀ q, v2.ownBlock = some q → W.heap.size + 2 ≤ q := fun q e => (hr.o2.lt q e).1
        have NB := Lib.hid nb
        have f2 := Lib.hid (HR.out.fz 2)
        have ck2 := HR.out.c2
        have HW : ((wr.alloc (.cells #[.int .u64 (r.1 : Nat), .int .u64 (r.2 : Nat)] 32)).alloc (.cells #[.int .u64 (r.1 : Nat), .int .u64 (r.2 : Nat)] 32)).heap[wr.heap.size + 1]? = some (.cells #[.int .u64 (r.1 : Nat), .int .u64 (r.2 : Nat)] 32) := by
          have h := heap_alloc_new (wr.alloc (.cells #[.int .u64 (r.1 : Nat), .int .u64 (r.2 : Nat)] 32)) (.cells #[.int .u64 (r.1 : Nat), .int .u64 (r.2 : Nat)] 32)
          rw [show (wr.alloc (.cells #[.int .u64 (r.1 : Nat), .int .u64 (r.2 : Nat)] 32)).heap.size = wr.heap.size + 1 by simp] at h
          exact h
        have HWH := Lib.hid HW
        have e1 : wr.heap.size ≠ W.heap.size + 1 := by omega
        have e3 : W.heap.size + 1 < wr.heap.size := by omega
        have e4 := World.new_ne wr _ ck
        have e2 : W.heap.size + 1 ≠ wr.heap.size := by omega
        clear HW
        have hfar : some wr.heap.size ≠ v2.ownBlock := fun e => by have := (hr.o2.lt _ e.symm).2; omega
        clear hr Y0 Y1 Y2 N0 N1 N2 hk hx hu0 hu1 hu2 nb
        go_wp2
        go_region_law
          ((refine step_append_lies _ (by rfl) _ _ 22 (by rfl) (W.heap.size + 2) 32 i0 _ 2 16 sliceR HI.out.1 HI.out.2.1 HI.out.2.2.1 HI.out.2.2.2 rfl (by omega) v2 u2.length (recs u2) (by rfl) (ownDrew HD.out.o2)
              ⟨wr.heap.size + 1, 0, none⟩ 1 1 (recL r) (by rfl) (by rfl) (World.news_of_block (cs := #[.int .u64 (r.1 : Nat), .int .u64 (r.2 : Nat)]) (t := 32) (fr := (0, 0)) HWH.out) (by simp [Value.oneCell'])
              (by omega) (by have := F2.out; unfold maxLen; omega) (by have := F2.out; omega) (by simp; omega) (wr.heap.size + 2) (by simp) ?_; intro gg cap w1 hown1 hgrow hat hlt; have fz1 : w1.frozen? ⟨W.heap.size + 1, 2, none⟩ = false := (hgrow.frozen_far ⟨W.heap.size + 1, 2, none⟩ (by first | (simp; done) | (simp; omega)) (fun e => by have := NB.out _ e.symm; exact absurd this (by show ¬ W.heap.size + 2 ≤ W.heap.size + 1; omega))).trans f2.out; have ck1 : w1.cell? ⟨W.heap.size + 1, 2, none⟩ = some v2 := (hgrow.cell_far ⟨W.heap.size + 1, 2, none⟩ (by first | (simp; done) | (simp; omega)) (fun e => by have := NB.out _ e.symm; exact absurd this (by show ¬ W.heap.size + 2 ≤ W.heap.size + 1; omega))).trans HR.out.c2))
        all_goals (
          have HX := Lib.hid (OB.add2 HD.out.drew r hown1 hgrow (by
            rcases hat with e | e
            · exact .inl (show some gg = _ from e.symm)
            · exact .inr (show some gg = some _ by rw [e]; simp)))
          clear hown1 hgrow
          go_wp2
          go_roundg (n - (j + 1))
          case rel => exact ⟨j + 1, _, _, _, by omega, rfl, by go_num, by rw [T0.out, T1.out, T2.out]; exact HX.out⟩
          case measure => omega)
    · obtain rfl : j = n := by omega
      rw [← HN.out, List.take_length] at hr
      have c0 := hr.c0
      have c1 := hr.c1
      have c2 := hr.c2
      have r0 := hr.r0
      have r1 := hr.r1
      have r2 := hr.r2
      have rz := hr.rz
      obtain ⟨A0, n0, p0, rfl⟩ := own_slice hr.o0
      obtain ⟨A1, n1, p1, rfl⟩ := own_slice hr.o1
      obtain ⟨A2, n2, p2, rfl⟩ := own_slice hr.o2
      have HR := Lib.hid hr
      clear hr
      go_wp2
      exact bodyPost_ret (v := .agg #[.slice A0 n0 p0, .slice A1 n1 p1, .slice A2 n2 p2]) (by simp [results, Try.results20, go_sem, r0, r1, r2]) rfl ⟨_, _, _, rfl, setOwn (setOwn (setOwn HR.out.o0 _ _ _ (by omega)) _ _ _ (by omega)) _ _ _ (by omega), setOwn (setOwn (setOwn HR.out.o1 _ _ _ (by omega)) _ _ _ (by omega)) _ _ _ (by omega), setOwn (setOwn (setOwn HR.out.o2 _ _ _ (by omega)) _ _ _ (by omega)) _ _ _ (by omega), ((HR.out.bl.setCell (by simp) _).setCell (by simp) _).setCell (by simp) _⟩
end Go.Proofs.Ytdljnfioponegaa
