/- What the law HwordTurns holds. -/
import Derived.Test.YtlaafljigmflkaaTurns2
import Derived.Sort.LoopGhostIn
namespace Go.Proofs.Ytlaafljigmflkaa
set_option linter.unusedVariables false
open Go.RowKit
theorem below_drewN {B : Nat} {a w : World} (h : Below B a w) (n : Nat) : Below B a (w.drewN n) := ⟨h.os, h.tape, h.output, h.size, h.block⟩
theorem hof_below (w : Nat) (h : w < 18446744073709551616) (W : World) :
    Calls Try.prog 11 #[.int .u64 w] W fun e w' => e = .returned (.agg #[.int .u64 (w / 65536 : Nat), .int .i64 (w % 65536 : Nat)]) ∧ Below W.heap.size W w' := by
  have T := htag_any w h
  have S := hslot_any w h
  generalize w / 65536 = t at T ⊢
  generalize w % 65536 = s at S ⊢
  have T := Lib.hid T
  have S := Lib.hid S
  go_enter Try.func11, Try.ntmps11
  go_wp2_with (first | (go_at_call 9; refine (T.out _).mono ?_; rintro e w' ⟨rfl, n, rfl⟩) | (go_at_call 7; refine (S.out _).mono ?_; rintro e w' ⟨rfl, n, rfl⟩))
  exact bodyPost_ret (v := .agg #[.int .u64 t, .int .i64 s]) (by simp [results, Try.results11, go_sem]) rfl ⟨rfl, ((below_drewN (tl1 _ _) _).setCell (Nat.le_refl _) _).setCell (Nat.le_refl _) _⟩
theorem awake6_below (W : World) :
    Calls Try.prog 14 #[] W fun e w' => e = .returned (.bool true) ∧ Below W.heap.size W w' := by
  have C1 := Lib.hid (show ∀ W : World, Calls Try.prog 5 #[.int .u64 3, .int .i64 5] W fun e w' => e = .returned (.int .u64 196613) ∧ W = w' from fun W => hmake_any 3 5 (by omega) W)
  have C2 := Lib.hid (show ∀ W : World, Calls Try.prog 12 #[.int .u64 196613, .int .i64 7] W fun e w' => e = .returned (.int .u64 262151) ∧ ∃ n, w' = W.drewN n from fun W => hturn_any 196613 7 (by omega) W)
  have C3 := Lib.hid (show ∀ W : World, Calls Try.prog 11 #[.int .u64 262151] W fun e w' => e = .returned (.agg #[.int .u64 4, .int .i64 7]) ∧ Below W.heap.size W w' from fun W => hof_below 262151 (by omega) W)
  go_enter Try.func14, Try.ntmps14
  go_wp2_with (first | (go_at_call 5; refine (C1.out _).mono ?_; rintro e w' ⟨rfl, rfl⟩) | (go_at_call 12; refine (C2.out _).mono ?_; rintro e w' ⟨rfl, n, rfl⟩) | (go_at_call 11; refine (C3.out _).mono ?_; rintro e w1 ⟨rfl, g1⟩))
  go_ret
  exact ⟨rfl, (below_drewN (Below.refl _ _) _).trans g1⟩
/-- The tags count up. -/
theorem hdN_tag (w : Nat) (zs : List Int) (hw : w < 18446744073709551616) (k : Nat) : hdN w zs k / 65536 = (w / 65536 + k) % 281474976710656 := by
  induction k with
  | zero => show w / 65536 = _; omega
  | succ k ih =>
    show hwTurn (hdN w zs k) (zs.getD k 0) / 65536 = _
    unfold hwTurn hwMake
    rw [ih]
    split <;> omega
theorem hdN_ne (w : Nat) (zs : List Int) (hw : w < 18446744073709551616) (i k : Nat) (hik : i < k) (hk : k ≤ 1000) : hdN w zs i ≠ hdN w zs k := by
  intro e
  have h1 := hdN_tag w zs hw i
  have h2 := hdN_tag w zs hw k
  rw [e, h2] at h1
  omega
/-- The heads that were, the first one too. -/
def was (w : Nat) (zs : List Int) (k : Nat) : List Nat := (List.range (k + 1)).map fun j => hdN w zs j
theorem was_zero (w : Nat) (zs : List Int) : was w zs 0 = [w] := rfl
theorem was_succ (w : Nat) (zs : List Int) (k : Nat) : was w zs (k + 1) = was w zs k ++ [hdN w zs (k + 1)] := by simp [was, List.range_succ]
theorem was_length (w : Nat) (zs : List Int) (k : Nat) : (was w zs k).length = k + 1 := by simp [was]
theorem was_get (w : Nat) (zs : List Int) (k i : Nat) (h : i < k + 1) : (was w zs k)[i]? = some (hdN w zs i) := by simp [was, h]
theorem hds_get (w : Nat) (zs : List Int) (k i : Nat) (h : i < k) : (hds w zs k)[i]? = some (hdN w zs (i + 1)) := by simp [hds, h]
abbrev uvs (us : List Nat) : List Value := us.map fun u => .int .u64 (u : Nat)
theorem infoU : (Try.prog.info? 22).map (fun i => (i.zero, i.size, i.bytes)) = some (some (.int .u64 0), 1, 8) := by kernel_rfl
theorem sliceU : Try.prog.underlying 32 = some (.slice 22) := by kernel_rfl
/-- The list's block is there (or the list is empty). -/
def Gd (n g : Nat) (cur : Array Value) (W : World) : Prop := n = 0 ∨ W.heap[g]? = some (.cells cur 3 (0, 0))
theorem gd_own {β : Type} (n g : Nat) (cur : Array Value) : Own (fun (_ : β) W => Gd n g cur W) := fun s X Y row hs hg hr => by
  rcases hs with h | h
  · exact .inl h
  · refine .inr ((hg.block g (Array.getElem?_eq_some_iff.1 h).1 (fun e => ?_)).trans h)
    obtain ⟨o, ho, hc⟩ := hr g e.symm
    rw [h] at ho; cases ho; cases hc
/-- What a round of the range statement keeps. -/
structure IT (w : World) (A1 : Option Addr) (len1 cap1 n g : Nat) (cur : Array Value) (pre : List Nat) (W : World) : Prop where
  row : ∃ v, Boxed W (w.heap.size + 2) 32 v ∧ W.ownsRow w.heap.size 22 1 v pre.length (uvs pre) ∧ True
  b3 : Boxed W w.heap.size 31 (.slice A1 len1 cap1)
  b4 : Boxed W (w.heap.size + 1) 4 (.bool false)
  gd : Gd n g cur W
  bl : Below w.heap.size w W
theorem it_own (w : World) (A1 : Option Addr) (len1 cap1 n g : Nat) (cur : Array Value) (B : Nat) (hB : w.heap.size ≤ B) : OwnFrom B (IT w A1 len1 cap1 n g cur) := fun s X Y row hs hg hr => by
  have ho : ∀ r, row = some r → ∃ o : Obj, X.heap[r]? = some o ∧ o.isCells = false := fun r e => (hr r e).2
  exact ⟨holdsRow_own w.heap.size (w.heap.size + 2) 32 22 1 (fun pre : List Nat => pre.length) (fun pre => uvs pre) (fun _ _ => True) s X Y row hs.row hg ho, boxed_own w.heap.size 31 (fun _ => .slice A1 len1 cap1) s X Y row hs.b3 hg ho, boxed_own (w.heap.size + 1) 4 (fun _ => .bool false) s X Y row hs.b4 hg ho, gd_own n g cur s X Y row hs.gd hg ho, ownFrom_below (Nat.le_refl _) hB s X Y row hs.bl hg hr⟩
theorem fn_nil (B B2 : Nat) (w : World) : (binOp .eql 34 (itV B B2) Value.nilFunc).run Try.prog w = .ok (.bool false) w := by
  first | kernel_rfl | rfl | (simp [binOp, go_sem]; done)
theorem Boxed.blw {W W' : World} {B : Nat} {t : TypeId} {v : Value} (h : Boxed W B t v) (hn : Below W.heap.size W W') : Boxed W' B t v := (hn.block B h.lt).trans h
theorem Boxed.blw2 {W W' : World} {B B0 : Nat} {t : TypeId} {v : Value} (h : Boxed W B t v) (hn : Below B0 W W') (hb : B < B0) : Boxed W' B t v := (hn.block B hb).trans h
theorem kpB_t {g : Nat} {A B C : World} (h1 : KpB g A B) (h2 : KpB g B C) : KpB g A C := (show C.heap[g]? = B.heap[g]? from h2).trans h1
theorem kpB_b {g n : Nat} (hg : g < n) (W : World) (l : Nat) (o o' : Obj) (hl : n ≤ l) (_ : W.heap[l]? = some o) (_ : o.isCells = false) (_ : o.isWalk = false) : KpB g W (W.putObj l o') := World.putObj_heap_other (by omega)
theorem cell_lt {W : World} {B : Nat} {v : Value} (h : W.cell? ⟨B, 0, none⟩ = some v) : B < W.heap.size := by
  refine Nat.lt_of_not_le fun hc => ?_
  have h0 : W.heap[B]? = none := by simp; exact hc
  simp [World.cell?, h0] at h
theorem gd_of {W : World} {g cap : Nat} {zs : List Int} {A : Option Addr} (h : OwnL W g cap zs A) (n : Nat) (hn : zs.length = n) : ∃ cur, Gd n g cur W := by
  subst hn
  rcases h.e with h | ⟨_, ⟨cur, hh⟩, _⟩
  · exact ⟨#[], .inl h⟩
  · exact ⟨cur, .inr hh⟩
/-- What a store into the box behind an append keeps of the rest. -/
theorem it_add {w W w1 : World} {A1 : Option Addr} {len1 cap1 n g : Nat} {cur : Array Value} {pre : List Nat} {v : Value} {x g' cap' : Nat} (h : IT w A1 len1 cap1 n g cur pre W) (hv : Boxed W (w.heap.size + 2) 32 v) (hrow : W.ownsRow w.heap.size 22 1 v pre.length (uvs pre))
    (hx : pre.length < n)
    (hown : w1.ownsRow w.heap.size 22 1 (.slice (some ⟨g', 0, none⟩) (pre.length + 1) cap') (pre.length + 1) (uvs pre ++ [.int .u64 (x : Nat)])) (hgrow : (W.alloc (.cells #[.int .u64 (x : Nat)] 22)).grownBy w1 v.ownBlock) :
    Boxed w1 (w.heap.size + 2) 32 v ∧ Boxed w1 w.heap.size 31 (.slice A1 len1 cap1) ∧ KpB g W (w1.setCell ⟨w.heap.size + 2, 0, none⟩ (.slice (some ⟨g', 0, none⟩) (pre.length + 1) cap')) ∧ IT w A1 len1 cap1 n g cur (pre ++ [x]) (w1.setCell ⟨w.heap.size + 2, 0, none⟩ (.slice (some ⟨g', 0, none⟩) (pre.length + 1) cap')) ∧ KeepsOthers W (w1.setCell ⟨w.heap.size + 2, 0, none⟩ (.slice (some ⟨g', 0, none⟩) (pre.length + 1) cap')) := by
  obtain ⟨hv1, hv2, hr2, hk2, hb2⟩ := hv.appended (by decide) hrow h.bl.size (by omega) hown hgrow
  have k3 : Boxed w1 w.heap.size 31 (.slice A1 len1 cap1) := (h.b3.alloc _).kept hgrow (h.b3.not_row (by decide) hrow)
  have k4 : Boxed w1 (w.heap.size + 1) 4 (.bool false) := (h.b4.alloc _).kept hgrow (h.b4.not_row (by decide) hrow)
  have hg1 : W.heap[g]? = some (.cells cur 3 (0, 0)) := by
    rcases h.gd with h0 | h0
    · omega
    · exact h0
  have hgl := (Array.getElem?_eq_some_iff.1 hg1).1
  have hne : some g ≠ v.ownBlock := by
    rcases hrow.2 with ⟨rfl, _⟩ | ⟨q, c, cu, rfl, _, hq, _⟩
    · simp [Value.ownBlock]
    · intro e
      obtain rfl : g = q := by simpa [Value.ownBlock] using e
      rw [hg1] at hq; simp at hq
  have hg2 : w1.heap[g]? = W.heap[g]? := (hgrow.block g (by simp; omega) hne).trans (Below.heap_alloc _ _ _ hgl)
  have hg5 : g ≠ w.heap.size + 2 := by
    intro e
    have := (show W.heap[w.heap.size + 2]? = _ from hv)
    rw [← e, hg1] at this; simp at this
  have hg3 : (w1.setCell ⟨w.heap.size + 2, 0, none⟩ (.slice (some ⟨g', 0, none⟩) (pre.length + 1) cap')).heap[g]? = W.heap[g]? := (Below.heap_setCell _ _ _ _ hg5).trans hg2
  refine ⟨hv1, k3, hg3, ⟨⟨_, hv2, by simpa using hr2, trivial⟩, k3.other (by omega) _, k4.other (by omega) _, .inr (hg3.trans hg1), h.bl.trans hb2⟩, hk2⟩
/-- A row of words that owns something: its cells. -/
theorem row_cells {W : World} {B n : Nat} {us : List Nat} {v : Value} (h : W.ownsRow B 22 1 v n (uvs us)) (hn : 0 < n) : ∃ g cap, v = .slice (some ⟨g, 0, none⟩) n cap ∧ B ≤ g ∧ g < W.heap.size ∧ ∀ i y, us[i]? = some y → W.cell? ⟨g, i, none⟩ = some (.int .u64 (y : Nat)) := by
  have hc := fun g (e : v.ownBlock = some g) => h.cells e
  have hl := h.lt
  rcases h.2 with ⟨_, h0⟩ | ⟨g, cap, cur, rfl, hb, hh, h3⟩
  · omega
  · refine ⟨g, cap, rfl, (hl g rfl).1, (hl g rfl).2, fun i y hy => ?_⟩
    have := hc g rfl i (.int .u64 (y : Nat)) (by simp [uvs, hy])
    rw [add_pl, Nat.zero_add] at this; exact this
theorem own_sln {w : World} {B n sz : Nat} {e : TypeId} {v : Value} {xs : List Value} (h : w.ownsRow B e sz v n xs) : ∃ A c, v = .slice A n c := by
  rcases h.2 with ⟨rfl, h0⟩ | ⟨g, cap, cur, rfl, _⟩
  · exact ⟨_, _, by rw [h0]⟩
  · exact ⟨_, _, rfl⟩
/-- What a round of the law's own loop keeps. -/
structure WL (W : World) (x0 : Nat) (zs : List Int) (i : Nat) (v : Value) (wr : World) : Prop where
  row : wr.ownsRow W.heap.size 22 1 v (i + 1) (uvs (was x0 zs i))
  bl : Below W.heap.size W wr
theorem WL.start (W : World) (x0 : Nat) (zs : List Int) : WL W x0 zs 0 (.slice (some ⟨W.heap.size, 0, none⟩) 1 1) (W.alloc (.cells #[.int .u64 (x0 : Nat)] 22)) :=
  ⟨by have := World.ownsRow_lit (base := W.heap.size) (e := 22) (size := 1) W #[.int .u64 (x0 : Nat)] 1 (Nat.le_refl _) (by simp [maxLen]) (by simp); simpa [uvs, was_zero] using this, (Below.refl _ W).alloc (Nat.le_refl _) _⟩
theorem WL.add {W wr w1 : World} {x0 i : Nat} {zs : List Int} {v v' : Value} (h : WL W x0 zs i v wr)
    (hown : w1.ownsRow W.heap.size 22 1 v' (i + 1 + 1) (uvs (was x0 zs i) ++ [.int .u64 (hdN x0 zs (i + 1) : Nat)])) (hgrow : (wr.alloc (.cells #[.int .u64 (hdN x0 zs (i + 1) : Nat)] 22)).grownBy w1 v.ownBlock) : WL W x0 zs (i + 1) v' w1 :=
  ⟨by rw [was_succ]; simpa [uvs] using hown, (h.bl.alloc h.bl.size _).grown hgrow (by have := h.bl.size; simp; omega) (fun k e => (h.row.lt k e).1)⟩
end Go.Proofs.Ytlaafljigmflkaa
