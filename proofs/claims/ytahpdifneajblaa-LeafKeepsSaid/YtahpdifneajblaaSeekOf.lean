/- Contracts of package seek: a search among keys that lie in a slice. -/
import Derived.Test.YtahpdifneajblaaSeek
import Derived.Deep.RegionWith
namespace Go.Proofs.Ytahpdifneajblaa
set_option linter.unusedVariables false
open Go.RowKit

/-- A search that has come, told each key that it asks for. -/
def Sk.fin (ks : List Int) : Nat → Sk → Sk
  | 0, s => s
  | f + 1, s => if s.lo < s.hi then Sk.fin ks f (s.took (ks.getD s.want.toNat 0)) else s
theorem Sk.want_in (s : Sk) (h : s.lo < s.hi) : s.lo ≤ s.want ∧ s.want < s.hi := by
  unfold Sk.want wantOf; rw [if_pos h]; omega
theorem Sk.took_less (s : Sk) (x : Int) (h : s.lo < s.hi) : ((s.took x).hi - (s.took x).lo).toNat < (s.hi - s.lo).toNat := by
  unfold Sk.took; rw [if_pos h]
  split <;> simp only <;> omega
theorem Sk.took_hi (s : Sk) (x : Int) : (s.took x).hi ≤ s.hi := by
  unfold Sk.took
  by_cases h : s.lo < s.hi
  · rw [if_pos h]; split <;> simp only <;> omega
  · rw [if_neg h]; exact Int.le_refl _
theorem Sk.fin_come (ks : List Int) (f : Nat) (s : Sk) (h : ¬ s.lo < s.hi) : Sk.fin ks f s = s := by
  cases f with
  | zero => rfl
  | succ f => unfold Sk.fin; rw [if_neg h]
theorem Sk.fin_more (ks : List Int) : ∀ (f g : Nat) (s : Sk), (s.hi - s.lo).toNat ≤ f → (s.hi - s.lo).toNat ≤ g → Sk.fin ks f s = Sk.fin ks g s := by
  intro f
  induction f with
  | zero => intro g s h1 h2; rw [Sk.fin_come ks 0 s (by omega), Sk.fin_come ks g s (by omega)]
  | succ f ih =>
    intro g s h1 h2
    by_cases h : s.lo < s.hi
    · obtain ⟨g, rfl⟩ : ∃ k, g = k + 1 := ⟨g - 1, by omega⟩
      have hl := Sk.took_less s (ks.getD s.want.toNat 0) h
      show (if s.lo < s.hi then _ else _) = (if s.lo < s.hi then _ else _)
      rw [if_pos h, if_pos h]
      exact ih g _ (by omega) (by omega)
    · rw [Sk.fin_come ks _ s h, Sk.fin_come ks _ s h]

/-- The key at a place. -/
theorem skey_any (i x : Int) (kb b off n c : Nat) (h0 : 0 ≤ i) (h1 : i < n) (hn : n ≤ maxLen) (W : World) (hk : W.cell? ⟨kb, 0, none⟩ = some (.slice (some ⟨b, off, none⟩) n c)) (hx : W.cell? ⟨b, off + i.toNat, none⟩ = some (.int .u64 x)) :
    Calls Try.prog 34 #[.int .i64 i, .pointer (some ⟨kb, 0, none⟩)] W fun e w' => e = .returned (.int .u64 x) ∧ W = w' := by
  unfold maxLen at hn
  go_enter Try.func34, Try.ntmps34
  go_wp2
  go_ret
  exact ⟨rfl, rfl⟩

/-- What holds at the head of each round. -/
structure RS (W : World) (kb b off n c : Nat) (s : Sk) (w : World) : Prop where
  below : Below W.heap.size W w
  size : W.heap.size + 2 ≤ w.heap.size
  node : w.heap[W.heap.size]? = some (.cells #[.int .i64 s.k, .int .u64 s.q, .int .i64 s.lo, .int .i64 s.hi] 55 (0, 0))
  res : ∃ cs : Array Value, cs.size = 4 ∧ w.heap[W.heap.size + 1]? = some (.cells cs 55 (0, 0))
theorem RS.cells {W w : World} {kb b off n c : Nat} {s : Sk} (h : RS W kb b off n c s w) :
    w.cell? ⟨W.heap.size, 0, none⟩ = some (.int .i64 s.k) ∧ w.cell? ⟨W.heap.size, 1, none⟩ = some (.int .u64 s.q) ∧ w.cell? ⟨W.heap.size, 2, none⟩ = some (.int .i64 s.lo) ∧ w.cell? ⟨W.heap.size, 3, none⟩ = some (.int .i64 s.hi) := by
  refine ⟨?_, ?_, ?_, ?_⟩ <;> rw [cell_of_row w W.heap.size _ _ _ _ h.node] <;> rfl
theorem frozen_of_row {w : World} {g : Nat} {cs : Array Value} {t : TypeId} (h : w.heap[g]? = some (.cells cs t (0, 0))) (i : Nat) : w.frozen? ⟨g, i, none⟩ = false := by
  simp [World.frozen?, h]
theorem cell_some {w : World} {g : Nat} {cs : Array Value} {t : TypeId} (h : w.heap[g]? = some (.cells cs t (0, 0))) (i : Nat) (hi : i < cs.size) : ∃ v, w.cell? ⟨g, i, none⟩ = some v := by
  rw [cell_of_row w g i _ _ _ h]
  exact ⟨cs[i], by simp [hi]⟩
theorem RS.next {W w w' : World} {kb b off n c : Nat} {s : Sk} (h : RS W kb b off n c s w) (hn : Below w.heap.size w w') : RS W kb b off n c s w' := by
  obtain ⟨hB, hz, hnode, cs, hcs, hres⟩ := h
  have := hn.size
  exact ⟨hB.trans (hn.mono (by omega)), by omega, (hn.block _ (by omega)).trans hnode, cs, hcs, (hn.block _ (by omega)).trans hres⟩
theorem RS.drew {W w : World} {kb b off n c : Nat} {s : Sk} (h : RS W kb b off n c s w) : RS W kb b off n c s w.drew := ⟨h.below.drew, h.size, h.node, h.res⟩
theorem RS.facts {W w : World} {kb b off n c : Nat} {s : Sk} (h : RS W kb b off n c s w) :
    (w.cell? ⟨W.heap.size, 0, none⟩ = some (.int .i64 s.k) ∧ w.cell? ⟨W.heap.size, 1, none⟩ = some (.int .u64 s.q) ∧ w.cell? ⟨W.heap.size, 2, none⟩ = some (.int .i64 s.lo) ∧ w.cell? ⟨W.heap.size, 3, none⟩ = some (.int .i64 s.hi)) ∧
    (∀ i, w.frozen? ⟨W.heap.size, i, none⟩ = false) ∧ (∀ i, w.frozen? ⟨W.heap.size + 1, i, none⟩ = false) ∧
    (∃ r0 r1 r2 r3, w.cell? ⟨W.heap.size + 1, 0, none⟩ = some r0 ∧ w.cell? ⟨W.heap.size + 1, 1, none⟩ = some r1 ∧ w.cell? ⟨W.heap.size + 1, 2, none⟩ = some r2 ∧ w.cell? ⟨W.heap.size + 1, 3, none⟩ = some r3) ∧ W.heap.size + 2 ≤ w.heap.size := by
  refine ⟨h.cells, frozen_of_row h.node, ?_, ?_, h.size⟩
  · obtain ⟨cs, _, hres⟩ := h.res; exact frozen_of_row hres
  · obtain ⟨cs, hcs, hres⟩ := h.res
    obtain ⟨r0, d0⟩ := cell_some hres 0 (by omega)
    obtain ⟨r1, d1⟩ := cell_some hres 1 (by omega)
    obtain ⟨r2, d2⟩ := cell_some hres 2 (by omega)
    obtain ⟨r3, d3⟩ := cell_some hres 3 (by omega)
    exact ⟨r0, r1, r2, r3, d0, d1, d2, d3⟩
theorem heap_set4 (w : World) (g : Nat) (t : TypeId) (v0 v1 v2 v3 u0 u1 u2 u3 : Value) (h : w.heap[g]? = some (.cells #[v0, v1, v2, v3] t (0, 0))) :
    ((((w.setCell ⟨g, 0, none⟩ u0).setCell ⟨g, 1, none⟩ u1).setCell ⟨g, 2, none⟩ u2).setCell ⟨g, 3, none⟩ u3).heap[g]? = some (.cells #[u0, u1, u2, u3] t (0, 0)) := by
  simp [World.setCell, Array.getElem?_modify, h]
theorem RS.store {W w : World} {kb b off n c : Nat} {s : Sk} (h : RS W kb b off n c s w) (t : Sk) :
    RS W kb b off n c t ((((w.setCell ⟨W.heap.size, 0, none⟩ (.int .i64 t.k)).setCell ⟨W.heap.size, 1, none⟩ (.int .u64 t.q)).setCell ⟨W.heap.size, 2, none⟩ (.int .i64 t.lo)).setCell ⟨W.heap.size, 3, none⟩ (.int .i64 t.hi)) := by
  obtain ⟨hB, hz, hnode, cs, hcs, hres⟩ := h
  refine ⟨(((hB.setCell (Nat.le_refl _) _).setCell (Nat.le_refl _) _).setCell (Nat.le_refl _) _).setCell (Nat.le_refl _) _, by simpa [World.setCell] using hz, heap_set4 _ _ _ _ _ _ _ _ _ _ _ hnode, cs, hcs, ?_⟩
  rw [Below.heap_setCell _ _ _ _ (by simp), Below.heap_setCell _ _ _ _ (by simp), Below.heap_setCell _ _ _ _ (by simp), Below.heap_setCell _ _ _ _ (by simp)]
  exact hres
set_option maxHeartbeats 2000000 in
theorem run_any (ks : List Int) (kb b off c : Nat) (s : Sk) (hs : s.ok) (hhi : s.hi ≤ ks.length) (hn : ks.length ≤ maxLen) (W : World)
    (hk : 0 < ks.length → kb < W.heap.size ∧ b < W.heap.size ∧ W.cell? ⟨kb, 0, none⟩ = some (.slice (some ⟨b, off, none⟩) ks.length c))
    (hx : ∀ i, i < ks.length → W.cell? ⟨b, off + i, none⟩ = some (.int .u64 (ks.getD i 0))) :
    Calls Try.prog 32 #[s.val, .func (.func 34) #[] #[.pointer (some ⟨kb, 0, none⟩)]] W fun e w' => e = .returned (Sk.fin ks (s.hi - s.lo).toNat s).val ∧ Below W.heap.size W w' := by
  obtain ⟨R, hR⟩ : ∃ R : Sk, R = Sk.fin ks (s.hi - s.lo).toNat s := ⟨_, rfl⟩
  rw [← hR]
  have HR := Lib.hid hR
  have HX := Lib.hid hx
  have HK := Lib.hid hk
  clear hR hx hk
  unfold Sk.val
  go_enter Try.func32, Try.ntmps32
  go_wp2
  go_loopg [6] (s.hi - s.lo).toNat (fun g s6 wr => ∃ t : Sk, (t.hi - t.lo).toNat = g ∧ t.ok ∧ t.hi ≤ ks.length ∧ Sk.fin ks g t = R ∧ RS W kb b off ks.length c t wr)
  case atStart =>
    refine ⟨s, rfl, hs, hhi, HR.out.symm, ⟨by repeat (first | exact Below.refl _ _ | refine Below.alloc ?_ (by first | omega | (simp; done) | (simp; omega)) _), by simp, ?_, #[.int .i64 0, .int .u64 0, .int .i64 0, .int .i64 0], rfl, ?_⟩⟩
    · rw [Below.heap_alloc _ _ _ (by simp), heap_alloc_new]
    · have := heap_alloc_new (W.alloc (Obj.cells #[Value.int IntKind.i64 s.k, Value.int IntKind.u64 s.q, Value.int IntKind.i64 s.lo, Value.int IntKind.i64 s.hi] 55)) (Obj.cells #[Value.int IntKind.i64 0, Value.int IntKind.u64 0, Value.int IntKind.i64 0, Value.int IntKind.i64 0] 55)
      simpa using this
  case round =>
    obtain ⟨t, hg, hok, hhi, hfin, hrs⟩ := hrel
    have hr0 := hrs
    obtain ⟨⟨c00, c10, c20, c30⟩, f0, g0, ⟨r00, r10, r20, r30, d00, d10, d20, d30⟩, z0⟩ := hr0.facts
    have HR0 := Lib.hid hr0
    have HF := Lib.hid hfin
    have HC := Lib.hid (bcell hr0.below).1
    have HO := Lib.hid hok
    clear hrs hr0 hfin
    by_cases hl : t.lo < t.hi
    · obtain ⟨hkb, hb, hk⟩ := HK.out (by have := hok.1; omega)
      obtain ⟨m, hm⟩ : ∃ m : Int, m = t.want := ⟨_, rfl⟩
      have hin := Sk.want_in t hl
      rw [← hm] at hin
      have HM := Lib.hid hm
      have HW := Lib.hid (show ∀ W : World, Calls Try.prog 38 #[.agg #[.int .i64 t.k, .int .u64 t.q, .int .i64 t.lo, .int .i64 t.hi]] W fun e w' => e = .returned (.int .i64 m) ∧ Below W.heap.size W w' from fun W => by
        rw [hm]; exact swant_any t.k t.q t.lo t.hi hok.1 hok.2 W)
      have ht := fun W => stook_any t (ks.getD m.toNat 0) hok W
      have hok0 := hok.1
      have hm1 : (m != -1) = true := by simp; omega
      have hless := Sk.took_less t (ks.getD m.toNat 0) hl
      have hhi2 := Sk.took_hi t (ks.getD m.toNat 0)
      have hok2 := Lib.hid (Sk.ok_took t hok (ks.getD m.toNat 0))
      have HF2 : Hid (∀ f, (t.hi - t.lo).toNat = f + 1 → Sk.fin ks f (t.took (ks.getD m.toNat 0)) = R) := fun f hf => by
        have h := HF.out
        rw [← hg, hf] at h
        have h2 : (if t.lo < t.hi then Sk.fin ks f (t.took (ks.getD t.want.toNat 0)) else t) = R := h
        rw [if_pos hl, ← hm] at h2
        exact h2
      clear hm hok
      generalize t.took (ks.getD m.toNat 0) = t2 at ht hless hhi2 hok2 HF2
      unfold Sk.val at ht
      have HT := Lib.hid ht
      clear ht
      go_wp2_with (go_at_call 38; refine (HW.out _).mono ?_; rintro e w1 ⟨rfl, hb1⟩; have hr1 := RS.next HR0.out hb1; obtain ⟨⟨c01, c11, c21, c31⟩, f1, g1, ⟨r01, r11, r21, r31, d01, d11, d21, d31⟩, z1⟩ := hr1.facts; have HC1 := Lib.hid (bcell hb1).1; have HR1 := Lib.hid hr1; have HB1 := Lib.hid hb1; clear hr1 hb1)
      go_region_with (first | (go_at_call 38; refine (HW.out _).mono ?_; rintro e w2 ⟨rfl, hb2⟩; have hr2 := RS.next (RS.drew HR1.out) hb2; obtain ⟨⟨c02, c12, c22, c32⟩, f2, g2, ⟨r02, r12, r22, r32, d02, d12, d22, d32⟩, z2⟩ := hr2.facts; have HC2 := Lib.hid (bcell hb2).1; have HR2 := Lib.hid hr2; clear hr2 hb2) | (go_at_call 34; refine (skey_any m _ kb b off _ c (by omega) (by omega) hn _ ((HC2.out kb 0 (show kb < w1.heap.size by omega)).trans ((HC1.out kb 0 (by omega)).trans ((HC.out kb 0 hkb).trans hk))) ((HC2.out b _ (show b < w1.heap.size by omega)).trans ((HC1.out b _ (by omega)).trans ((HC.out b _ hb).trans (HX.out m.toNat (by omega)))))).mono ?_; rintro e w' ⟨rfl, rfl⟩) | (go_at_call 39; refine (HT.out _).mono ?_; rintro e w3 ⟨rfl, hb3⟩; have hr3 := RS.next HR2.out hb3; obtain ⟨⟨c03, c13, c23, c33⟩, f3, g3, ⟨r03, r13, r23, r33, d03, d13, d23, d33⟩, z3⟩ := hr3.facts; have HR3 := Lib.hid hr3; clear hr3 hb3))
      all_goals
        go_wp2
        go_roundg ((t2.hi - t2.lo).toNat)
        case rel =>
          obtain ⟨f, hf⟩ : ∃ f, gk = f + 1 := ⟨gk - 1, by omega⟩
          exact ⟨t2, rfl, hok2.out, by omega, by rw [← Sk.fin_more ks f _ t2 (by omega) (Nat.le_refl _)]; exact HF2.out f (by omega), RS.store HR3.out t2⟩
        case measure => omega
    · have HW := Lib.hid (show ∀ W : World, Calls Try.prog 38 #[.agg #[.int .i64 t.k, .int .u64 t.q, .int .i64 t.lo, .int .i64 t.hi]] W fun e w' => e = .returned (.int .i64 (-1)) ∧ Below W.heap.size W w' from fun W => by
        have h := swant_any t.k t.q t.lo t.hi hok.1 hok.2 W
        have e : wantOf t.lo t.hi = -1 := if_neg hl
        rw [e] at h
        exact h)
      have hR : t = R := by rw [← HF.out, Sk.fin_come ks gk t hl]
      have HRR := Lib.hid hR
      clear hok hR
      go_wp2_with (go_at_call 38; refine (HW.out _).mono ?_; rintro e w1 ⟨rfl, hb1⟩; have hr1 := RS.next HR0.out hb1; obtain ⟨⟨c01, c11, c21, c31⟩, f1, g1, ⟨r01, r11, r21, r31, d01, d11, d21, d31⟩, z1⟩ := hr1.facts; have HR1 := Lib.hid hr1; clear hr1 hb1)
      rw [← HRR.out]
      exact bodyPost_ret (v := .agg #[.int .i64 t.k, .int .u64 t.q, .int .i64 t.lo, .int .i64 t.hi]) (by simp [results, Try.results32, go_sem, d01, d11, d21, d31]) rfl ⟨rfl, by repeat (first | exact Below.refl _ _ | exact HR1.out.below | refine below_drewN ?_ _ | refine Below.alloc ?_ (by first | omega | (simp; done) | (simp; omega)) _ | refine Below.setCell ?_ (by first | omega | (simp; done) | (simp; omega)) _)⟩
end Go.Proofs.Ytahpdifneajblaa
