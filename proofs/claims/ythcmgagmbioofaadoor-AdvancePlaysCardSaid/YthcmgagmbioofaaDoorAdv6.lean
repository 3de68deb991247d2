/- gleaningref18.Took where a thread is evicted. -/
import Derived.Test.YthcmgagmbioofaaDoorAdv5
import Derived.Deep.AppendLies
import Derived.Deep.RegionLaw
import Derived.Deep.CutRange
namespace Go.Proofs.YthcmgagmbioofaaDoor
set_option linter.unusedVariables false
open Go.RowKit Go.Extern.Stop Go.Stop Go.Extern
theorem tl1 (W : World) (a : Obj) : Below W.heap.size W (W.alloc a) := (Below.refl _ _).alloc (Nat.le_refl _) _
theorem rowNx {base n sz : Nat} {e : TypeId} {v : Value} {xs : List Value} {W W' : World} (h : W.ownsRow base e sz v n xs) (hn : Below W.heap.size W W') : W'.ownsRow base e sz v n xs := by
  obtain ⟨h1, h2⟩ := h
  refine ⟨h1, ?_⟩
  rcases h2 with h2 | ⟨g, cap, cur, hv, hb, hh, h3⟩
  · exact .inl h2
  · refine .inr ⟨g, cap, cur, hv, hb, ?_, h3⟩
    rw [hn.block g ?_]
    · exact hh
    · rcases Nat.lt_or_ge g W.heap.size with hlt | hge
      · exact hlt
      · rw [Array.getElem?_eq_none hge] at hh; cases hh
theorem ivs_one (zs : List Int) : ∀ u ∈ ivs zs, u.oneCell' = true := by
  intro u hu
  obtain ⟨n, _, rfl⟩ := List.mem_map.1 hu
  simp [Value.oneCell']
theorem own0 (W : World) : (W.alloc (.cells #[] 3)).ownsRow W.heap.size 3 1 (.slice (some ⟨W.heap.size, 0, none⟩) 0 0) 0 [] :=
  World.ownsRow_made W #[] 0 (Nat.le_refl _) (by unfold maxLen; omega) rfl
theorem blkA (W : World) (a : Obj) : (W.alloc a).heap[W.heap.size]? = some a := World.alloc_heap_new W a
theorem blkN {W W' : World} {g : Nat} {o : Obj} (h : W.heap[g]? = some o) (hn : Below W.heap.size W W') : W'.heap[g]? = some o := (hn.block g (Array.getElem?_eq_some_iff.1 h).1).trans h
theorem news1 {W : World} {b : Nat} {x : Int} (h : W.heap[b]? = some (.cells #[.int .i64 x] 3 (0, 0))) : ∀ j u, ([.int .i64 x] : List Value)[j]? = some u → W.cell? ((⟨b, 0, none⟩ : Addr).add j) = some u := by
  intro j u hu
  obtain rfl : j = 0 := by
    rcases j with _ | j
    · rfl
    · simp at hu
  rw [add_pl]
  simp at hu
  subst hu
  simp [World.cell?, h]
theorem newsL {W : World} {g : Nat} {L : List Int} (hc : ∀ j, j < L.length → W.cell? ⟨g, j, none⟩ = some (.int .i64 (L.getD j 0))) : ∀ j u, (ivs L)[j]? = some u → W.cell? ((⟨g, 0, none⟩ : Addr).add j) = some u := by
  intro j u hu
  have hj : j < L.length := by
    have := (List.getElem?_eq_some_iff.1 hu).1
    simpa [ivs] using this
  rw [add_pl, Nat.zero_add, hc j hj]
  have : (ivs L)[j]? = some (.int .i64 (L.getD j 0)) := by simp [ivs, List.getD, hj]
  exact this.symm.trans hu
/-- What a grown row leaves of what lay. -/
theorem belowG {B : Nat} {w0 W w1 : World} {v : Value} {n sz : Nat} {e : TypeId} {xs : List Value} (hb : Below B w0 W) (hB : B ≤ W.heap.size) (ho : W.ownsRow B e sz v n xs) (hg : W.grownBy w1 v.ownBlock) : Below B w0 w1 :=
  hb.grown hg hB (fun k e => (ho.lt k e).1)
section
variable {B : Nat} {w0 : World} {g : Nat} {s t f l p : Int} {q : Nat} {y : Rd} {r : Nat} {W W' : World}
theorem K5.set {B : Nat} {w0 : World} {g : Nat} {s t f l p : Int} {W : World} (h : K5 B w0 g s t f l p W) {q i : Nat} (hne : q ≠ g) (hq : B ≤ q) (v : Value) : K5 B w0 g s t f l p (W.setCell ⟨q, i, none⟩ v) := by
  obtain ⟨c0, c1, c2, c3, c4, bl, le⟩ := h
  have hne2 : g ≠ q := fun e => hne e.symm
  exact ⟨by simp [go_sem, c0], by simp [go_sem, c1], by simp [go_sem, c2], by simp [go_sem, c3], by simp [go_sem, c4], bl.setCell hq _, by simpa using le⟩
theorem RC.set {g' : Nat} {z : Rd} {W : World} (h : RC g' z W) {q i : Nat} (hne : q ≠ g') (v : Value) : RC g' z (W.setCell ⟨q, i, none⟩ v) := by
  obtain ⟨c0, c1, c2, c3, c4, c5, c6, c7, fz⟩ := h
  have hne2 : g' ≠ q := fun e => hne e.symm
  exact ⟨by simp [go_sem, c0], by simp [go_sem, c1], by simp [go_sem, c2], by simp [go_sem, c3], by simp [go_sem, c4], by simp [go_sem, c5], by simp [go_sem, c6], by simp [go_sem, c7], fun i => by simp [go_sem, fz]⟩
theorem RC.put6 {q : Nat} {own a oc ep th wd : Int} {A : Option Addr} {cap : Nat} {L : List Int} {ju : Int} {W : World} (h : RC q ⟨own, a, oc, ep, th, wd, A, cap, L, ju⟩ W) (A' : Option Addr) (c' : Nat) (L' : List Int) : RC q ⟨own, a, oc, ep, th, wd, A', c', L', ju⟩ (W.setCell ⟨q, 6, none⟩ (.slice A' L'.length c')) := by
  obtain ⟨c0, c1, c2, c3, c4, c5, c6, c7, fz⟩ := h
  exact ⟨by simp [go_sem, c0], by simp [go_sem, c1], by simp [go_sem, c2], by simp [go_sem, c3], by simp [go_sem, c4], by simp [go_sem, c5], by simp [go_sem, c6], by simp [go_sem, c7], fun i => by simp [go_sem, fz]⟩
theorem RC.put7 {q : Nat} {own a oc ep th wd : Int} {A : Option Addr} {cap : Nat} {L : List Int} {ju : Int} {W : World} (h : RC q ⟨own, a, oc, ep, th, wd, A, cap, L, ju⟩ W) (ju' : Int) : RC q ⟨own, a, oc, ep, th, wd, A, cap, L, ju'⟩ (W.setCell ⟨q, 7, none⟩ (.int .i64 ju')) := by
  obtain ⟨c0, c1, c2, c3, c4, c5, c6, c7, fz⟩ := h
  exact ⟨by simp [go_sem, c0], by simp [go_sem, c1], by simp [go_sem, c2], by simp [go_sem, c3], by simp [go_sem, c4], by simp [go_sem, c5], by simp [go_sem, c6], by simp [go_sem, c7], fun i => by simp [go_sem, fz]⟩
theorem KT.put6 {own a oc ep th wd : Int} {A : Option Addr} {cap : Nat} {L : List Int} {ju : Int} (h : KT B w0 g s t f l p q ⟨own, a, oc, ep, th, wd, A, cap, L, ju⟩ r W) (h1 : q ≠ g) (h2 : q ≠ r) (h3 : B ≤ q) (A' : Option Addr) (c' : Nat) (L' : List Int) : KT B w0 g s t f l p q ⟨own, a, oc, ep, th, wd, A', c', L', ju⟩ r (W.setCell ⟨q, 6, none⟩ (.slice A' L'.length c')) :=
  ⟨h.toK5.set h1 h3 _, h.yc.put6 A' c' L', h.rc.set h2 _, h.lr⟩
theorem KT.put7 {own a oc ep th wd : Int} {A : Option Addr} {cap : Nat} {L : List Int} {ju : Int} (h : KT B w0 g s t f l p q ⟨own, a, oc, ep, th, wd, A, cap, L, ju⟩ r W) (h1 : q ≠ g) (h2 : q ≠ r) (h3 : B ≤ q) (ju' : Int) : KT B w0 g s t f l p q ⟨own, a, oc, ep, th, wd, A, cap, L, ju'⟩ r (W.setCell ⟨q, 7, none⟩ (.int .i64 ju')) :=
  ⟨h.toK5.set h1 h3 _, h.yc.put7 ju', h.rc.set h2 _, h.lr⟩
end
theorem grown_set (w : World) (a : Addr) (u : Value) : w.grownBy (w.setCell a u) (some a.block) := by
  refine ⟨rfl, rfl, rfl, by simp, fun k hk hne => ?_⟩
  exact Below.heap_setCell _ _ _ _ (fun e => hne (by rw [e]))
theorem rowPutR {B n sz : Nat} {e : TypeId} {v : Value} {xs : List Value} {W : World} {r : Nat} (h : W.ownsRow B e sz v n xs) (hne : v.ownBlock ≠ some r) (y : Rd) : (putR W r y).ownsRow B e sz v n xs := by
  have k : ∀ {W : World} (i : Nat) (u : Value), W.ownsRow B e sz v n xs → (W.setCell ⟨r, i, none⟩ u).ownsRow B e sz v n xs := fun i u h => h.kept (grown_set _ ⟨r, i, none⟩ u) (.inr hne)
  exact k _ _ (k _ _ (k _ _ (k _ _ (k _ _ (k _ _ (k _ _ (k _ _ h)))))))
end Go.Proofs.YthcmgagmbioofaaDoor
