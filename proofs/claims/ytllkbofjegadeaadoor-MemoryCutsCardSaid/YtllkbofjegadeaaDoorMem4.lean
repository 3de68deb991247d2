/- Word, Words, New, the document's New. -/
import Derived.Test.YtllkbofjegadeaaDoorMem3
import Derived.WalkLawsBesides
import Derived.Deep.RegionHeld3
namespace Go.Proofs.YtllkbofjegadeaaDoor
set_option linter.unusedVariables false
open Go.RowKit
def wordF (us : List Nat) (a : Int) : Nat := if 0 ≤ a ∧ a < us.length then us.getD a.toNat 0 else 0
theorem mword_nil (a : Int) (W : World) : Calls Tryd.prog 18 #[.pointer none, .int .i64 a] W fun e w' => e = .returned (.int .u64 0) ∧ W = w' := by
  have HN := Lib.hid (fun W' => has_nil a W')
  go_enter Tryd.func18, Tryd.ntmps18
  go_wp2_with (go_at_call 23; refine (HN.out _).mono ?_; rintro e w' ⟨rfl, rfl⟩)
  go_ret
  exact ⟨rfl, rfl⟩
theorem mword_out (g : Nat) (A : Option Addr) (m c : Nat) (a : Int) (W : World) (h5 : W.cell? ⟨g, 5, none⟩ = some (.slice A m c)) (hm : m ≤ 100000) (ha : ¬ (0 ≤ a ∧ a < m)) :
    Calls Tryd.prog 18 #[.pointer (some ⟨g, 0, none⟩), .int .i64 a] W fun e w' => e = .returned (.int .u64 0) ∧ W = w' := by
  have HN := Lib.hid (has_any g A m c a W h5 hm false (by simp only [Bool.false_eq_true, false_iff]; exact ha))
  clear ha h5
  go_enter Tryd.func18, Tryd.ntmps18
  go_wp2_with (go_at_call 23; refine (HN.out).mono ?_; rintro e w' ⟨rfl, rfl⟩)
  go_ret
  exact ⟨rfl, rfl⟩
theorem mword_any (g gw : Nat) (s t f l p : Int) (us : List Nat) (a : Int) (hl : us.length ≤ 100000) (W : World) (h : MB g gw s t f l p us W) :
    Calls Tryd.prog 18 #[.pointer (some ⟨g, 0, none⟩), .int .i64 a] W fun e w' => e = .returned (.int .u64 ((wordF us a : Nat))) ∧ W = w' := by
  by_cases ha : 0 ≤ a ∧ a < us.length
  · obtain ⟨i, rfl⟩ : ∃ i : Nat, a = i := ⟨a.toNat, by omega⟩
    have hi : i < us.length := by omega
    have HN := Lib.hid (has_any g _ us.length _ (i : Int) W h.r.c5 hl true (by simp only [true_iff]; exact ha))
    have e : wordF us i = us.getD i 0 := by unfold wordF; rw [if_pos ha, Int.toNat_natCast]
    rw [e]
    obtain ⟨q, hr5, hq1, hq2⟩ := h.ex
    have c5 := hr5.c5
    have xc := h.b.wd i hi
    have hi1 : (i : Int) < (us.length : Int) := ha.2
    have hmx : us.length ≤ maxLen := by unfold maxLen; omega
    clear h e ha hr5
    generalize us.getD i 0 = x at xc ⊢
    go_enter Tryd.func18, Tryd.ntmps18
    go_wp2_with (go_at_call 23; refine (HN.out).mono ?_; rintro e w' ⟨rfl, rfl⟩)
    go_ret
    exact ⟨rfl, rfl⟩
  · have e : wordF us a = 0 := by unfold wordF; rw [if_neg ha]
    rw [e]
    exact mword_out g _ us.length _ a W h.r.c5 hl ha
theorem rowLe {b1 b2 n sz : Nat} {e : TypeId} {v : Value} {xs : List Value} {W : World} (h : W.ownsRow b1 e sz v n xs) (hb : b2 ≤ b1) : W.ownsRow b2 e sz v n xs := by
  obtain ⟨h1, h2⟩ := h
  refine ⟨h1, ?_⟩
  rcases h2 with h2 | ⟨g, cap, cur, hv, hg, hh, h3⟩
  · exact .inl h2
  · exact .inr ⟨g, cap, cur, hv, Nat.le_trans hb hg, hh, h3⟩
def subL (us : List Nat) (x y : Nat) : List Nat := (us.drop x).take (y - x)
theorem subL_len (us : List Nat) (x y : Nat) (hy : y ≤ us.length) : (subL us x y).length = y - x := by unfold subL; simp; omega
theorem SR.sub {W : World} {A : Option Addr} {c g o : Nat} {us : List Nat} (h : SR W A c g o us) (x y : Nat) (hxy : x ≤ y) (hy : y ≤ us.length) : SR W (some ⟨g, o + x, none⟩) (y - x) g (o + x) (subL us x y) := by
  have hm := h.mx
  have hle := h.le
  refine ⟨fun _ => rfl, by rw [subL_len _ _ _ hy]; exact Nat.le_refl _, by omega, fun j hj => ?_⟩
  rw [subL_len _ _ _ hy] at hj
  have e : (subL us x y).getD j 0 = us.getD (x + j) 0 := by
    unfold subL
    rw [List.getD_eq_getElem?_getD, List.getD_eq_getElem?_getD, List.getElem?_take_of_lt (by omega), List.getElem?_drop]
  rw [e, Nat.add_assoc]
  exact h.c (x + j) (by omega)
theorem mwords_nil (a b : Int) (W : World) : Calls Tryd.prog 14 #[.pointer none, .int .i64 a, .int .i64 b] W fun e w' => e = .returned (.slice none 0 0) ∧ W = w' := by
  go_enter Tryd.func14, Tryd.ntmps14
  go_wp2
  go_ret
  exact ⟨rfl, rfl⟩
theorem mwords_no (g : Nat) (s t f l p : Int) (A : Option Addr) (n c : Nat) (a b z : Int) (W : World) (hok : okL s t f l p) (hs : sizeL s t f = z) (hz : z ≤ 100000) (hz0 : 0 ≤ z) (h : MR g s t f l p A n c W) (hab : min b z ≤ max a 0) :
    Calls Tryd.prog 14 #[.pointer (some ⟨g, 0, none⟩), .int .i64 a, .int .i64 b] W fun e w' => e = .returned (.slice none 0 0) ∧ Below W.heap.size W w' := by
  have SZ := Lib.hid (fun W' => size_any s t f l p hok W')
  rw [hs] at SZ
  obtain ⟨c0, c1, c2, c3, c4, c5⟩ := h
  clear hs hok
  rcases Int.lt_or_le a 0 with ha | ha <;> rcases Int.lt_or_le z b with hb | hb
  all_goals (
    try (have q1 : z ≤ 0 := by omega)
    try (have q2 : b ≤ 0 := by omega)
    try (have q3 : z ≤ a := by omega)
    try (have q4 : b ≤ a := by omega)
    clear hab
    go_enter Tryd.func14, Tryd.ntmps14
    go_wp2_with (go_at_call 19; refine (SZ.out _).mono ?_; rintro e w1 ⟨rfl, hn⟩; have HN := Lib.hid hn; clear hn)
    go_ret
    exact ⟨rfl, HN.out⟩)
theorem clone_sub (us : List Nat) (hl : us.length ≤ 100000) (g x y : Nat) (hxy : x < y) (hy : y ≤ us.length) (W : World) (h : WB g us W) :
    Calls Tryd.prog 24 #[.slice (some ⟨g, x, none⟩) (y - x) (y - x)] W fun e w' => ∃ v, e = .returned v ∧ w'.ownsRow W.heap.size 31 1 v (subL us x y).length (wvs (subL us x y)) ∧ Below W.heap.size W w' := by
  have hs := (SR.of_wb h hl).sub x y (by omega) hy
  rw [Nat.zero_add] at hs
  have := clone_ne (subL us x y) (by rw [subL_len _ _ _ hy]; omega) (y - x) g x W hs h.lt
  rw [subL_len _ _ _ hy] at this ⊢
  exact this
theorem clone_sub0 (us : List Nat) (hl : us.length ≤ 100000) (g y : Nat) (hxy : 0 < y) (hy : y ≤ us.length) (W : World) (h : WB g us W) :
    Calls Tryd.prog 24 #[.slice (some ⟨g, 0, none⟩) y y] W fun e w' => ∃ v, e = .returned v ∧ w'.ownsRow W.heap.size 31 1 v (subL us 0 y).length (wvs (subL us 0 y)) ∧ Below W.heap.size W w' := clone_sub us hl g 0 y hxy hy W h
set_option maxHeartbeats 1000000 in
theorem mwords_yes (g gw : Nat) (s t f l p : Int) (us : List Nat) (a b : Int) (x y : Nat) (hl : us.length ≤ 100000) (W : World) (hok : okL s t f l p) (hs : sizeL s t f = us.length) (h : MB g gw s t f l p us W) (hx : max a 0 = x) (hy : min b us.length = y) (hxy : x < y) :
    Calls Tryd.prog 14 #[.pointer (some ⟨g, 0, none⟩), .int .i64 a, .int .i64 b] W fun e w' => ∃ v, e = .returned v ∧ w'.ownsRow W.heap.size 31 1 v (subL us x y).length (wvs (subL us x y)) ∧ Below W.heap.size W w' := by
  have SZ := Lib.hid (fun W' => size_any s t f l p hok W')
  rw [hs] at SZ
  have hyl : y ≤ us.length := by omega
  have hmx : us.length ≤ maxLen := by unfold maxLen; omega
  have H := Lib.hid h
  obtain ⟨c0, c1, c2, c3, c4, -⟩ := h.r
  clear h hs hok
  have K0 := Lib.hid (fun W' h => clone_sub0 us hl gw y (by omega) hyl W' h)
  have K1 := Lib.hid (fun W' h => clone_sub us hl gw x y hxy hyl W' h)
  obtain ⟨n, hn⟩ : ∃ n, us.length = n := ⟨_, rfl⟩
  rw [hn] at SZ hyl hmx hl hy
  have HL := Lib.hid hn
  clear hn
  have h0y : (0 : Int) < (y : Int) := by omega
  rcases Int.lt_or_le a 0 with ha | ha
  · obtain rfl : x = 0 := by omega
    clear K1 hx
    rcases Int.lt_or_le (n : Int) b with hb | hb
    · obtain rfl : y = n := by omega
      clear hy hyl
      go_enter Tryd.func14, Tryd.ntmps14
      go_wp2_with (first
        | (go_at_call 19; refine (SZ.out _).mono ?_; rintro e w1 ⟨rfl, hn⟩; have H1 := Lib.hid (H.out.next hn); have HN := Lib.hid hn; obtain ⟨q, hq0, hq1, hq2⟩ := H1.out.ex; have c5' := hq0.c5; rw [HL.out] at c5' hq1; clear hq0; have hyq : ((y : Nat) : Int) ≤ (q : Int) := (by omega); clear hn)
        | (go_at_call 24; refine (K0.out _ H1.out.b).mono ?_; rintro e w2 ⟨v, rfl, ho, hn⟩; have HO := Lib.hid (rowLe ho HN.out.size); have HM := Lib.hid (HN.out.trans (hn.mono HN.out.size)); clear hn ho))
      go_ret
      exact ⟨v, rfl, HO.out, HM.out⟩
    · obtain rfl : b = y := by omega
      clear hy
      go_enter Tryd.func14, Tryd.ntmps14
      go_wp2_with (first
        | (go_at_call 19; refine (SZ.out _).mono ?_; rintro e w1 ⟨rfl, hn⟩; have H1 := Lib.hid (H.out.next hn); have HN := Lib.hid hn; obtain ⟨q, hq0, hq1, hq2⟩ := H1.out.ex; have c5' := hq0.c5; rw [HL.out] at c5' hq1; clear hq0; have hyq : ((y : Nat) : Int) ≤ (q : Int) := (by omega); clear hn)
        | (go_at_call 24; refine (K0.out _ H1.out.b).mono ?_; rintro e w2 ⟨v, rfl, ho, hn⟩; have HO := Lib.hid (rowLe ho HN.out.size); have HM := Lib.hid (HN.out.trans (hn.mono HN.out.size)); clear hn ho))
      go_ret
      exact ⟨v, rfl, HO.out, HM.out⟩
  · obtain rfl : a = x := by omega
    clear K0 hx
    rcases Int.lt_or_le (n : Int) b with hb | hb
    · obtain rfl : y = n := by omega
      clear hy hyl
      go_enter Tryd.func14, Tryd.ntmps14
      go_wp2_with (first
        | (go_at_call 19; refine (SZ.out _).mono ?_; rintro e w1 ⟨rfl, hn⟩; have H1 := Lib.hid (H.out.next hn); have HN := Lib.hid hn; obtain ⟨q, hq0, hq1, hq2⟩ := H1.out.ex; have c5' := hq0.c5; rw [HL.out] at c5' hq1; clear hq0; have hyq : ((y : Nat) : Int) ≤ (q : Int) := (by omega); clear hn)
        | (go_at_call 24; refine (K1.out _ H1.out.b).mono ?_; rintro e w2 ⟨v, rfl, ho, hn⟩; have HO := Lib.hid (rowLe ho HN.out.size); have HM := Lib.hid (HN.out.trans (hn.mono HN.out.size)); clear hn ho))
      go_ret
      exact ⟨v, rfl, HO.out, HM.out⟩
    · obtain rfl : b = y := by omega
      clear hy
      go_enter Tryd.func14, Tryd.ntmps14
      go_wp2_with (first
        | (go_at_call 19; refine (SZ.out _).mono ?_; rintro e w1 ⟨rfl, hn⟩; have H1 := Lib.hid (H.out.next hn); have HN := Lib.hid hn; obtain ⟨q, hq0, hq1, hq2⟩ := H1.out.ex; have c5' := hq0.c5; rw [HL.out] at c5' hq1; clear hq0; have hyq : ((y : Nat) : Int) ≤ (q : Int) := (by omega); clear hn)
        | (go_at_call 24; refine (K1.out _ H1.out.b).mono ?_; rintro e w2 ⟨v, rfl, ho, hn⟩; have HO := Lib.hid (rowLe ho HN.out.size); have HM := Lib.hid (HN.out.trans (hn.mono HN.out.size)); clear hn ho))
      go_ret
      exact ⟨v, rfl, HO.out, HM.out⟩
end Go.Proofs.YtllkbofjegadeaaDoor
