/- What the law EnterLeaves holds. -/
import Derived.Deep.AppendLies
import Derived.Test.YtcafhdemmchcaaaDoorLeave5
namespace Go.Proofs.YtcafhdemmchcaaaDoor
set_option linter.unusedVariables false
open Go.RowKit
theorem own_slA {w : World} {B n sz : Nat} {e : TypeId} {v : Value} {xs : List Value} (h : w.ownsRow B e sz v n xs) : ∃ A c, v = .slice A n c := by
  rcases h.2 with ⟨rfl, h0⟩ | ⟨g, cap, cur, rfl, _⟩
  · exact ⟨_, _, by rw [h0]⟩
  · exact ⟨_, _, rfl⟩
theorem boxed_blw {W W' : World} {B : Nat} {t : TypeId} {v : Value} (h : Boxed W B t v) (hn : Below W.heap.size W W') : Boxed W' B t v := (hn.block B h.lt).trans h
theorem blk_own {β : Type} (B g : Nat) (cs : Array Value) (t : TypeId) (fr : Nat × Nat) : OwnFrom B (fun (_ : β) W => W.heap[g]? = some (.cells cs t fr)) := fun s X Y row hs hg hr =>
  (hg.block g (Array.getElem?_eq_some_iff.1 hs).1 (fun e => by
    obtain ⟨o, ho, hc⟩ := (hr g e.symm).2
    rw [hs] at ho; cases ho; cases hc)).trans hs
def IA (w1 : World) (pre : List Int) (W : World) : Prop := (∃ v, Boxed W w1.heap.size 45 v ∧ W.ownsRow w1.heap.size 39 4 v pre.length (askL pre) ∧ True) ∧ Below w1.heap.size w1 W
theorem ia_own (w1 : World) (B : Nat) (hB : w1.heap.size ≤ B) : OwnFrom B (IA w1) :=
  OwnFrom.and (Own.from (holdsRow_own w1.heap.size w1.heap.size 45 39 4 (fun pre : List Int => pre.length) (fun pre => askL pre) (fun _ _ => True)) _) (ownFrom_below (Nat.le_refl _) hB)
theorem el_add {w1 W W1 : World} {pre : List Int} {v v' : Value} {x : Int} (hv : Boxed W w1.heap.size 45 v) (hrow : W.ownsRow w1.heap.size 39 4 v pre.length (askL pre)) (hB : Below w1.heap.size w1 W)
    (hown : W1.ownsRow w1.heap.size 39 4 v' (pre.length + 1) (askL pre ++ askC x)) (hgrow : (W.alloc (.cells #[.int .i64 2, .int .i64 x, .int .u64 0, .int .u64 0] 39)).grownBy W1 v.ownBlock) :
    Boxed W1 w1.heap.size 45 v ∧ KpL W (W1.setCell ⟨w1.heap.size, 0, none⟩ v') ∧ KeepsOthers W (W1.setCell ⟨w1.heap.size, 0, none⟩ v') ∧ IA w1 (pre ++ [x]) (W1.setCell ⟨w1.heap.size, 0, none⟩ v') := by
  obtain ⟨hv1, hv2, hr2, hk2, hb2⟩ := hv.appended (by decide) hrow hB.size (Nat.le_refl _) hown hgrow
  refine ⟨hv1, fun g cs h => ?_, hk2, ⟨_, hv2, by rw [askL_snoc, List.length_append]; exact hr2, trivial⟩, hB.trans hb2⟩
  have hgl := (Array.getElem?_eq_some_iff.1 h).1
  have ne1 : some g ≠ v.ownBlock := by
    rcases hrow.2 with ⟨rfl, _⟩ | ⟨q, c, cu, rfl, _, hq, _⟩
    · simp [Value.ownBlock]
    · intro e
      obtain rfl : g = q := by simpa [Value.ownBlock] using e
      rw [h] at hq; simp at hq
  have ne2 : g ≠ w1.heap.size := by
    rintro rfl
    have := (show W.heap[w1.heap.size]? = _ from hv)
    rw [h] at this; simp at this
  exact (Below.heap_setCell _ _ _ _ ne2).trans ((hgrow.block g (by simp; omega) ne1).trans (Below.heap_alloc _ _ _ hgl))
/-- What a round's frame is: the loop's variable lies in a block of its own. -/
def AxF (af : Int → Nat → Act) (x : Int) (a' : Act) (W : World) : Prop := ∃ Bx : Nat, W.heap[Bx]? = some (.cells #[.int .i64 2, .int .i64 x, .int .u64 0, .int .u64 0] 39 (0, 0)) ∧ a' = af x Bx
theorem axF_own (af : Int → Nat → Act) (B : Nat) (x : Int) (a' : Act) : OwnFrom B (fun (_ : Unit) W => AxF af x a' W) := fun s X Y row hs hg hr => by
  obtain ⟨Bx, h1, h2⟩ := hs
  exact ⟨Bx, blk_own (β := Unit) B Bx _ _ _ () X Y row h1 hg hr, h2⟩
theorem kpL_alloc (W : World) (o : Obj) : KpL W (W.alloc o) := fun g cs h => Below.heap_alloc _ _ _ (Array.getElem?_eq_some_iff.1 h).1
/-- A row of asks that owns something: its cells. -/
theorem rowA_cells {W : World} {B n : Nat} {q : Nat → Int} {v : Value} (h : W.ownsRow B 39 4 v n (askL (qs q n))) (hn : 0 < n) : ∃ g cap, v = .slice (some ⟨g, 0, none⟩) n cap ∧ B ≤ g ∧ g < W.heap.size ∧ ∀ i, i < n → W.cell? ⟨g, i * 4, none⟩ = some (.int .i64 2) ∧ W.cell? ⟨g, i * 4 + 1, none⟩ = some (.int .i64 (q i)) ∧ W.cell? ⟨g, i * 4 + 2, none⟩ = some (.int .u64 0) ∧ W.cell? ⟨g, i * 4 + 3, none⟩ = some (.int .u64 0) := by
  have hc := fun g (e : v.ownBlock = some g) => h.cells e
  have hl := h.lt
  rcases h.2 with ⟨_, h0⟩ | ⟨g, cap, cur, rfl, hb, hh, h3⟩
  · omega
  · refine ⟨g, cap, rfl, (hl g rfl).1, (hl g rfl).2, fun i hi => ?_⟩
    have hq : ∀ j, j < 4 → (askL (qs q n))[i * 4 + j]? = (askC (q i))[j]? := by
      clear hc hl h h3 hh hb
      induction n with
      | zero => omega
      | succ n ih =>
        intro j hj
        rw [qs_succ, askL_snoc]
        have hlen : (askL (qs q n)).length = n * 4 := by
          have : ∀ xs : List Int, (askL xs).length = xs.length * 4 := fun xs => by induction xs with
            | nil => rfl
            | cons x xs ih => simp [askL, List.flatMap_cons] at ih ⊢; omega
          rw [this, qs_length]
        by_cases e : i < n
        · rw [List.getElem?_append_left (by rw [hlen]; omega)]
          exact ih (by omega) e j hj
        · obtain rfl : i = n := by omega
          rw [List.getElem?_append_right (by rw [hlen]; omega), hlen]
          congr 1; omega
    have c := fun j (hj : j < 4) u (hu : (askC (q i))[j]? = some u) => (show W.cell? ⟨g, i * 4 + j, none⟩ = some u by
      have := hc g rfl (i * 4 + j) u ((hq j hj).trans hu)
      rwa [show (⟨g, 0, none⟩ : Addr).add (i * 4 + j) = ⟨g, i * 4 + j, none⟩ by unfold Addr.add; split <;> simp_all] at this)
    exact ⟨c 0 (by omega) _ rfl, c 1 (by omega) _ rfl, c 2 (by omega) _ rfl, c 3 (by omega) _ rfl⟩
/-- What a round of the law's own loop reads. -/
structure KG (w6 : World) (g : Nat) (x : Lv) (B : Nat) (v : Value) (g5 gw o : Nat) (y : Int) (W : World) : Prop where
  hb : W.heap[g]? = some (lvRow x)
  bl : Below w6.heap.size w6 W
  b0 : W.cell? ⟨B, 0, none⟩ = some (v)
  p0 : W.cell? ⟨g5, o, none⟩ = some (.int .i64 2)
  p1 : W.cell? ⟨g5, o + 1, none⟩ = some (.int .i64 y)
  p2 : W.cell? ⟨g5, o + 2, none⟩ = some (.int .u64 0)
  p3 : W.cell? ⟨g5, o + 3, none⟩ = some (.int .u64 0)
  r0 : W.cell? ⟨gw, o, none⟩ = some (.int .i64 2)
  r1 : W.cell? ⟨gw, o + 1, none⟩ = some (.int .i64 y)
  r2 : W.cell? ⟨gw, o + 2, none⟩ = some (.int .u64 0)
  r3 : W.cell? ⟨gw, o + 3, none⟩ = some (.int .u64 0)
theorem KG.next {w6 : World} {g : Nat} {x : Lv} {B : Nat} {v : Value} {g5 gw o : Nat} {y : Int} {W : World} {W' : World} (h : KG w6 g x B v g5 gw o y W) (hn : Below W.heap.size W W') : KG w6 g x B v g5 gw o y W' := by
  have c := fun (a : Addr) (u : Value) (hu : W.cell? a = some u) => (hn.cell (p := a) (World.block_lt_of_cell? W a hu)).trans hu
  exact ⟨below_blk hn h.hb, h.bl.trans (hn.mono h.bl.size), c _ _ h.b0, c _ _ h.p0, c _ _ h.p1, c _ _ h.p2, c _ _ h.p3, c _ _ h.r0, c _ _ h.r1, c _ _ h.r2, c _ _ h.r3⟩
theorem KG.drew {w6 : World} {g : Nat} {x : Lv} {B : Nat} {v : Value} {g5 gw o : Nat} {y : Int} {W : World} (h : KG w6 g x B v g5 gw o y W) : KG w6 g x B v g5 gw o y W.drew := ⟨h.hb, h.bl.drew, h.b0, h.p0, h.p1, h.p2, h.p3, h.r0, h.r1, h.r2, h.r3⟩
theorem KG.c0 {w6 : World} {g : Nat} {x : Lv} {B : Nat} {v : Value} {g5 gw o : Nat} {y : Int} {W : World} (h : KG w6 g x B v g5 gw o y W) : W.cell? ⟨g, 0, none⟩ = some (.int .i64 x.s) := (LC.block h.hb).c0
theorem KG.c1 {w6 : World} {g : Nat} {x : Lv} {B : Nat} {v : Value} {g5 gw o : Nat} {y : Int} {W : World} (h : KG w6 g x B v g5 gw o y W) : W.cell? ⟨g, 1, none⟩ = some (.int .i64 x.t) := (LC.block h.hb).c1
theorem KG.c2 {w6 : World} {g : Nat} {x : Lv} {B : Nat} {v : Value} {g5 gw o : Nat} {y : Int} {W : World} (h : KG w6 g x B v g5 gw o y W) : W.cell? ⟨g, 2, none⟩ = some (.int .i64 x.f) := (LC.block h.hb).c2
theorem KG.c3 {w6 : World} {g : Nat} {x : Lv} {B : Nat} {v : Value} {g5 gw o : Nat} {y : Int} {W : World} (h : KG w6 g x B v g5 gw o y W) : W.cell? ⟨g, 3, none⟩ = some (.int .i64 x.l) := (LC.block h.hb).c3
theorem KG.c4 {w6 : World} {g : Nat} {x : Lv} {B : Nat} {v : Value} {g5 gw o : Nat} {y : Int} {W : World} (h : KG w6 g x B v g5 gw o y W) : W.cell? ⟨g, 4, none⟩ = some (.int .i64 x.p) := (LC.block h.hb).c4
theorem KG.c5 {w6 : World} {g : Nat} {x : Lv} {B : Nat} {v : Value} {g5 gw o : Nat} {y : Int} {W : World} (h : KG w6 g x B v g5 gw o y W) : W.cell? ⟨g, 5, none⟩ = some (.int .i64 x.k) := (LC.block h.hb).c5
theorem KG.c6 {w6 : World} {g : Nat} {x : Lv} {B : Nat} {v : Value} {g5 gw o : Nat} {y : Int} {W : World} (h : KG w6 g x B v g5 gw o y W) : W.cell? ⟨g, 6, none⟩ = some (.int .i64 x.o) := (LC.block h.hb).c6
theorem KG.c7 {w6 : World} {g : Nat} {x : Lv} {B : Nat} {v : Value} {g5 gw o : Nat} {y : Int} {W : World} (h : KG w6 g x B v g5 gw o y W) : W.cell? ⟨g, 7, none⟩ = some (.int .i64 x.i) := (LC.block h.hb).c7
theorem KG.c8 {w6 : World} {g : Nat} {x : Lv} {B : Nat} {v : Value} {g5 gw o : Nat} {y : Int} {W : World} (h : KG w6 g x B v g5 gw o y W) : W.cell? ⟨g, 8, none⟩ = some (.bool x.sl) := (LC.block h.hb).c8
theorem KG.fz {w6 : World} {g : Nat} {x : Lv} {B : Nat} {v : Value} {g5 gw o : Nat} {y : Int} {W : World} (h : KG w6 g x B v g5 gw o y W) : ∀ i, W.frozen? ⟨g, i, none⟩ = false := (LC.block h.hb).fz
structure KX (w6 : World) (g : Nat) (x : Lv) (W : World) : Prop where
  hb : W.heap[g]? = some (lvRow x)
  bl : Below w6.heap.size w6 W
theorem KX.next {w6 : World} {g : Nat} {x : Lv} {W : World} {W' : World} (h : KX w6 g x W) (hn : Below W.heap.size W W') : KX w6 g x W' := ⟨below_blk hn h.hb, h.bl.trans (hn.mono h.bl.size)⟩
theorem KX.drew {w6 : World} {g : Nat} {x : Lv} {W : World} (h : KX w6 g x W) : KX w6 g x W.drew := ⟨h.hb, h.bl.drew⟩
theorem KX.c0 {w6 : World} {g : Nat} {x : Lv} {W : World} (h : KX w6 g x W) : W.cell? ⟨g, 0, none⟩ = some (.int .i64 x.s) := (LC.block h.hb).c0
theorem KX.c1 {w6 : World} {g : Nat} {x : Lv} {W : World} (h : KX w6 g x W) : W.cell? ⟨g, 1, none⟩ = some (.int .i64 x.t) := (LC.block h.hb).c1
theorem KX.c2 {w6 : World} {g : Nat} {x : Lv} {W : World} (h : KX w6 g x W) : W.cell? ⟨g, 2, none⟩ = some (.int .i64 x.f) := (LC.block h.hb).c2
theorem KX.c3 {w6 : World} {g : Nat} {x : Lv} {W : World} (h : KX w6 g x W) : W.cell? ⟨g, 3, none⟩ = some (.int .i64 x.l) := (LC.block h.hb).c3
theorem KX.c4 {w6 : World} {g : Nat} {x : Lv} {W : World} (h : KX w6 g x W) : W.cell? ⟨g, 4, none⟩ = some (.int .i64 x.p) := (LC.block h.hb).c4
theorem KX.c5 {w6 : World} {g : Nat} {x : Lv} {W : World} (h : KX w6 g x W) : W.cell? ⟨g, 5, none⟩ = some (.int .i64 x.k) := (LC.block h.hb).c5
theorem KX.c6 {w6 : World} {g : Nat} {x : Lv} {W : World} (h : KX w6 g x W) : W.cell? ⟨g, 6, none⟩ = some (.int .i64 x.o) := (LC.block h.hb).c6
theorem KX.c7 {w6 : World} {g : Nat} {x : Lv} {W : World} (h : KX w6 g x W) : W.cell? ⟨g, 7, none⟩ = some (.int .i64 x.i) := (LC.block h.hb).c7
theorem KX.c8 {w6 : World} {g : Nat} {x : Lv} {W : World} (h : KX w6 g x W) : W.cell? ⟨g, 8, none⟩ = some (.bool x.sl) := (LC.block h.hb).c8
end Go.Proofs.YtcafhdemmchcaaaDoor
