/- LeafKeeps: what a put and a drop make of a leaf; the class of worlds of a round. -/
import Derived.Test.YtahpdifneajblaaLpB
namespace Go.Proofs.Ytahpdifneajblaa
set_option linter.unusedVariables false
open Go.RowKit
theorem cutL_get (us : List Nat) (f t i : Nat) : (cutL us f t).getD i 0 = if i < t - f then us.getD (f + i) 0 else 0 := by
  show ((us.drop f).take (t - f)).getD i 0 = _
  by_cases h : i < t - f
  · rw [if_pos h, List.getD_eq_getElem?_getD, List.getD_eq_getElem?_getD, List.getElem?_take_of_lt h, List.getElem?_drop]
  · rw [if_neg h, List.getD_eq_getElem?_getD, List.getElem?_eq_none (by rw [List.length_take]; omega)]; rfl
theorem app_get (a b : List Nat) (i : Nat) : (a ++ b).getD i 0 = if i < a.length then a.getD i 0 else b.getD (i - a.length) 0 := by
  by_cases h : i < a.length
  · rw [if_pos h, List.getD_eq_getElem?_getD, List.getD_eq_getElem?_getD, List.getElem?_append_left h]
  · rw [if_neg h, List.getD_eq_getElem?_getD, List.getD_eq_getElem?_getD, List.getElem?_append_right (by omega)]
theorem out_get (us : List Nat) (i : Nat) (h : us.length ≤ i) : us.getD i 0 = 0 := by
  rw [List.getD_eq_getElem?_getD, List.getElem?_eq_none h]; rfl
theorem ins_get (ks : List Nat) (n0 r q i : Nat) (hn : n0 ≤ ks.length) : (cutL ks 0 n0 ++ ([q] ++ cutL ks r ks.length)).getD i 0 = if i < n0 then ks.getD i 0 else if i = n0 then q else ks.getD (r + (i - n0 - 1)) 0 := by
  rw [app_get, cutL_len _ _ _ hn, Nat.sub_zero]
  by_cases h : i < n0
  · rw [if_pos h, if_pos h, cutL_get, if_pos (by omega), Nat.zero_add]
  · rw [if_neg h, if_neg h, app_get]
    by_cases e : i = n0
    · subst e; rw [if_pos rfl, if_pos (by simp)]; simp
    · rw [if_neg e, if_neg (by simp; omega), cutL_get]
      have e2 : i - n0 - [q].length = i - n0 - 1 := rfl
      rw [e2]
      by_cases h2 : i - n0 - 1 < ks.length - r
      · rw [if_pos h2]
      · rw [if_neg h2, out_get _ _ (by omega)]
theorem ins_len (ks : List Nat) (n0 r q : Nat) (hn : n0 ≤ ks.length) : (cutL ks 0 n0 ++ ([q] ++ cutL ks r ks.length)).length = n0 + 1 + (ks.length - r) := by
  rw [List.length_append, List.length_append, cutL_len _ _ _ hn, cutL_len _ _ _ (Nat.le_refl _)]; simp; omega
theorem del_get (ks : List Nat) (n0 r i : Nat) (hn : n0 ≤ ks.length) : (cutL ks 0 n0 ++ cutL ks r ks.length).getD i 0 = if i < n0 then ks.getD i 0 else ks.getD (r + (i - n0)) 0 := by
  rw [app_get, cutL_len _ _ _ hn, Nat.sub_zero]
  by_cases h : i < n0
  · rw [if_pos h, if_pos h, cutL_get, if_pos (by omega), Nat.zero_add]
  · rw [if_neg h, if_neg h, cutL_get]
    by_cases h2 : i - n0 < ks.length - r
    · rw [if_pos h2]
    · rw [if_neg h2, out_get _ _ (by omega)]
theorem del_len (ks : List Nat) (n0 r : Nat) (hn : n0 ≤ ks.length) : (cutL ks 0 n0 ++ cutL ks r ks.length).length = n0 + (ks.length - r) := by
  rw [List.length_append, cutL_len _ _ _ hn, cutL_len _ _ _ (Nat.le_refl _)]; omega
/-- A key put among keys that rise. -/
theorem ins_ok (ks : List Nat) (n0 r q : Nat) (h : ris ks) (hn : n0 ≤ ks.length) (hr : n0 ≤ r) (h1 : ∀ i, i < n0 → ks.getD i 0 < q) (h2 : ∀ i, r ≤ i → i < ks.length → q < ks.getD i 0) :
    ris (cutL ks 0 n0 ++ ([q] ++ cutL ks r ks.length)) ∧ cnt (cutL ks 0 n0 ++ ([q] ++ cutL ks r ks.length)) q = n0 ∧ hasB (cutL ks 0 n0 ++ ([q] ++ cutL ks r ks.length)) q = true := by
  have hL := ins_len ks n0 r q hn
  have hG := fun i => ins_get ks n0 r q i hn
  generalize cutL ks 0 n0 ++ ([q] ++ cutL ks r ks.length) = zs at hL hG
  have hris : ris zs := by
    intro i hi
    rw [hL] at hi
    rw [hG, hG]
    by_cases a : i + 1 < n0
    · rw [if_pos (by omega), if_pos a]; exact h i (by omega)
    · by_cases b : i + 1 = n0
      · rw [if_pos (by omega), if_neg a, if_pos b]; exact h1 i (by omega)
      · rw [if_neg a, if_neg b, if_neg (by omega : ¬ i < n0)]
        by_cases c : i = n0
        · rw [if_pos c]; exact h2 _ (by omega) (by omega)
        · rw [if_neg c, show r + (i + 1 - n0 - 1) = r + (i - n0 - 1) + 1 by omega]; exact h _ (by omega)
  have hc : cnt zs q = n0 := by
    refine cnt_low zs q n0 (by omega) (fun i hi => ?_) (fun i hi hl => ?_)
    · rw [hG, if_pos hi]; exact h1 i hi
    · rw [hL] at hl
      rw [hG, if_neg (by omega)]
      by_cases c : i = n0
      · rw [if_pos c]; exact Nat.le_refl _
      · rw [if_neg c]; exact Nat.le_of_lt (h2 _ (by omega) (by omega))
  refine ⟨hris, hc, (has_at zs q hris).2 ⟨by rw [hc, hL]; omega, by rw [hc, hG, if_neg (by omega), if_pos rfl]⟩⟩
/-- A key that is gone. -/
theorem del_ok (ks : List Nat) (n0 r q : Nat) (h : ris ks) (hn : n0 ≤ ks.length) (hr : n0 ≤ r) (h1 : ∀ i, i < n0 → ks.getD i 0 < q) (h2 : ∀ i, r ≤ i → i < ks.length → q < ks.getD i 0) :
    ris (cutL ks 0 n0 ++ cutL ks r ks.length) ∧ hasB (cutL ks 0 n0 ++ cutL ks r ks.length) q = false := by
  have hL := del_len ks n0 r hn
  have hG := fun i => del_get ks n0 r i hn
  generalize cutL ks 0 n0 ++ cutL ks r ks.length = zs at hL hG
  have hris : ris zs := by
    intro i hi
    rw [hL] at hi
    rw [hG, hG]
    by_cases a : i + 1 < n0
    · rw [if_pos (by omega), if_pos a]; exact h i (by omega)
    · by_cases b : i + 1 = n0
      · rw [if_pos (by omega), if_neg a]; exact Nat.lt_trans (h1 i (by omega)) (h2 _ (by omega) (by omega))
      · rw [if_neg a, if_neg (by omega : ¬ i < n0), show r + (i + 1 - n0) = r + (i - n0) + 1 by omega]; exact h _ (by omega)
  refine ⟨hris, ?_⟩
  have hc : cnt zs q = n0 := by
    refine cnt_low zs q n0 (by omega) (fun i hi => ?_) (fun i hi hl => ?_)
    · rw [hG, if_pos hi]; exact h1 i hi
    · rw [hL] at hl
      rw [hG, if_neg (by omega)]; exact Nat.le_of_lt (h2 _ (by omega) (by omega))
  cases hb : hasB zs q with
  | false => rfl
  | true =>
    obtain ⟨x1, x2⟩ := (has_at zs q hris).1 hb
    rw [hc] at x1 x2
    rw [hL] at x1
    rw [hG, if_neg (by omega)] at x2
    have := h2 (r + (n0 - n0)) (by omega) (by omega)
    omega
theorem cut_facts (ks : List Nat) (q : Nat) (h : ris ks) (hd : Bool) (hq : hasB ks q = hd) : (∀ i, i < cnt ks q → ks.getD i 0 < q) ∧ ∀ i, cnt ks q + (if hd then 1 else 0) ≤ i → i < ks.length → q < ks.getD i 0 := by
  obtain ⟨h1, h2⟩ := cnt_facts ks q h
  refine ⟨h1, fun i hi hl => ?_⟩
  cases hd with
  | true =>
    simp only [if_true] at hi
    have := (has_at ks q h).1 hq
    have h3 := ris_lt h (cnt ks q) i (by omega) hl
    omega
  | false =>
    simp only [Bool.false_eq_true, if_false, Nat.add_zero] at hi
    have h3 := h2 i hi hl
    rcases Nat.lt_or_ge q (ks.getD i 0) with h4 | h4
    · exact h4
    · have e : ks.getD i 0 = q := by omega
      have : hasB ks q = true := by
        unfold hasB
        rw [decide_eq_true_eq, ← e, List.getD_eq_getElem?_getD, List.getElem?_eq_getElem hl]
        exact List.getElem_mem hl
      rw [hq] at this; cases this
/-- A leaf whose link is 9, as the law carries it. -/
abbrev n9 (ks vs : List Nat) (A1 : Option Addr) (c1 : Nat) (A2 : Option Addr) (c2 : Nat) : Nd := ⟨false, ks, vs, 9, A1, c1, A2, c2⟩
abbrev nv9 (ks vs : List Nat) (A1 : Option Addr) (c1 : Nat) (A2 : Option Addr) (c2 : Nat) : Value := .agg #[.bool false, .slice A1 ks.length c1, .slice A2 vs.length c2, .int .u64 9]
def okL (ks vs : List Nat) : Prop := ks.length = vs.length ∧ ris ks
theorem okL.right {ks vs : List Nat} (h : okL ks vs) (A1 : Option Addr) (c1 : Nat) (A2 : Option Addr) (c2 : Nat) : rightP (n9 ks vs A1 c1 A2 c2) := ⟨rfl, h.1, h.2⟩
theorem find_9 (ks vs : List Nat) (A1 : Option Addr) (c1 : Nat) (A2 : Option Addr) (c2 q : Nat) (hl : ks.length ≤ 400) (h : okL ks vs) (W : World) (hx : NR W (n9 ks vs A1 c1 A2 c2)) :
    Calls Try.prog 10 #[nv9 ks vs A1 c1 A2 c2, .int .u64 (q : Nat)] W fun e w' => e = .returned (.tuple #[.int .i64 (cnt ks q : Nat), .bool (hasB ks q)]) ∧ Below W.heap.size W w' :=
  find_yes (n9 ks vs A1 c1 A2 c2) q (by show ks.length ≤ 1000; omega) (h.right ..) W hx
theorem rright_9 (ks vs : List Nat) (A1 : Option Addr) (c1 : Nat) (A2 : Option Addr) (c2 : Nat) (hl : ks.length ≤ 400) (h : okL ks vs) (W : World) (hx : NR W (n9 ks vs A1 c1 A2 c2)) :
    Calls Try.prog 13 #[nv9 ks vs A1 c1 A2 c2] W fun e w' => e = .returned (.bool true) ∧ Below W.heap.size W w' :=
  rright_any (n9 ks vs A1 c1 A2 c2) (by show ks.length ≤ 100000; omega) true (by simp; exact h.right ..) W hx
theorem put_9 (ks vs : List Nat) (A1 : Option Addr) (c1 : Nat) (A2 : Option Addr) (c2 q v : Nat) (hl : ks.length ≤ 400) (h : okL ks vs) (W : World) (hx : NR W (n9 ks vs A1 c1 A2 c2)) :
    Calls Try.prog 11 #[nv9 ks vs A1 c1 A2 c2, .int .u64 (q : Nat), .int .u64 (v : Nat)] W fun e w' => ∃ (ks2 vs2 : List Nat) (A3 : Option Addr) (c3 kb ko c4 o n0 : Nat) (hd : Bool),
      e = .returned (.tuple #[nv9 ks2 vs2 A3 c3 (some ⟨kb, ko, none⟩) c4, .int .u64 (o : Nat), .bool hd]) ∧ okL ks2 vs2 ∧ ks2.length ≤ ks.length + 1 ∧ hasB ks2 q = true ∧ cnt ks2 q = n0 ∧ n0 < vs2.length ∧ vs2.getD n0 0 = v ∧ ON W.heap.size (n9 ks2 vs2 A3 c3 (some ⟨kb, ko, none⟩) c4) w' ∧ Below W.heap.size W w' := by
  have e0 := cnt_le ks q
  have main : ∀ (y : Nd) (r : Nat) (w' : World), cnt ks q ≤ r → r ≤ ks.length → (∀ i, r ≤ i → i < ks.length → q < ks.getD i 0) → y.inner = false → y.link = 9 → y.ks = cutL ks 0 (cnt ks q) ++ ([q] ++ cutL ks r ks.length) → y.vs = cutL vs 0 (cnt ks q) ++ ([v] ++ cutL vs r ks.length) → ON W.heap.size y w' →
      ∃ (ks2 vs2 : List Nat) (A3 : Option Addr) (c3 kb ko c4 n0 : Nat), ndV y = nv9 ks2 vs2 A3 c3 (some ⟨kb, ko, none⟩) c4 ∧ okL ks2 vs2 ∧ ks2.length ≤ ks.length + 1 ∧ hasB ks2 q = true ∧ cnt ks2 q = n0 ∧ n0 < vs2.length ∧ vs2.getD n0 0 = v ∧ ON W.heap.size (n9 ks2 vs2 A3 c3 (some ⟨kb, ko, none⟩) c4) w' := by
    intro y r w' hr1 hr2 h2 e1 e2 e3 e4 oy
    have hc := (cnt_facts ks q h.2).1
    have hI := ins_ok ks (cnt ks q) r q h.2 e0 hr1 hc h2
    have hv := ins_get vs (cnt ks q) r v (cnt ks q) (by rw [← h.1]; exact e0)
    rw [if_neg (by omega), if_pos rfl, ← h.1] at hv
    have l1 := ins_len ks (cnt ks q) r q e0
    have l2 := ins_len vs (cnt ks q) r v (by rw [← h.1]; exact e0)
    rw [← h.1] at l2
    obtain ⟨inner, ks2, vs2, lk, A3, c3, A4, c4⟩ := y
    simp only at e1 e2 e3 e4
    subst e1 e2 e3 e4
    obtain ⟨kb, ko, hA, _⟩ := oy.nr.at2 (cnt ks q) (by show _ < List.length _; rw [l2]; omega)
    simp only at hA
    subst hA
    exact ⟨_, _, A3, c3, kb, ko, c4, cnt ks q, rfl, ⟨by rw [l1, l2], hI.1⟩, by rw [l1]; omega, hI.2.2, hI.2.1, by rw [l2]; omega, hv, oy⟩
  cases hq : hasB ks q with
  | true =>
    have hf := (cut_facts ks q h.2 true hq).2
    simp only [if_true] at hf
    have h3 := ((has_at ks q h.2).1 hq).1
    refine (put_there (n9 ks vs A1 c1 A2 c2) q v hl (h.right ..) hq W hx).mono ?_
    rintro e w' ⟨y, rfl, e1, e2, e3, e4, oy, hn⟩
    obtain ⟨ks2, vs2, A3, c3, kb, ko, c4, n0, g1, g2⟩ := main y (cnt ks q + 1) w' (by omega) (by omega) hf e1 e2 e3 e4 oy
    rw [g1]
    exact ⟨ks2, vs2, A3, c3, kb, ko, c4, _, n0, _, rfl, g2.1, g2.2.1, g2.2.2.1, g2.2.2.2.1, g2.2.2.2.2.1, g2.2.2.2.2.2.1, g2.2.2.2.2.2.2, hn⟩
  | false =>
    have hf := (cut_facts ks q h.2 false hq).2
    simp only [Bool.false_eq_true, if_false, Nat.add_zero] at hf
    refine (put_away (n9 ks vs A1 c1 A2 c2) q v hl (h.right ..) hq W hx).mono ?_
    rintro e w' ⟨y, rfl, e1, e2, e3, e4, oy, hn⟩
    obtain ⟨ks2, vs2, A3, c3, kb, ko, c4, n0, g1, g2⟩ := main y (cnt ks q) w' (by omega) (by omega) hf e1 e2 e3 e4 oy
    rw [g1]
    exact ⟨ks2, vs2, A3, c3, kb, ko, c4, 0, n0, _, rfl, g2.1, g2.2.1, g2.2.2.1, g2.2.2.2.1, g2.2.2.2.2.1, g2.2.2.2.2.2.1, g2.2.2.2.2.2.2, hn⟩
theorem drop_9 (ks vs : List Nat) (A1 : Option Addr) (c1 : Nat) (A2 : Option Addr) (c2 q : Nat) (hl : ks.length ≤ 400) (h : okL ks vs) (W : World) (hx : NR W (n9 ks vs A1 c1 A2 c2)) :
    Calls Try.prog 12 #[nv9 ks vs A1 c1 A2 c2, .int .u64 (q : Nat)] W fun e w' => ∃ (ks2 vs2 : List Nat) (A3 : Option Addr) (c3 : Nat) (A4 : Option Addr) (c4 o : Nat) (hd : Bool),
      e = .returned (.tuple #[nv9 ks2 vs2 A3 c3 A4 c4, .int .u64 (o : Nat), .bool hd]) ∧ okL ks2 vs2 ∧ ks2.length ≤ ks.length + 1 ∧ hasB ks2 q = false ∧ ON W.heap.size (n9 ks2 vs2 A3 c3 A4 c4) w' ∧ Below W.heap.size W w' := by
  have e0 := cnt_le ks q
  cases hq : hasB ks q with
  | true =>
    have hf := cut_facts ks q h.2 true hq
    simp only [if_true] at hf
    have h3 := ((has_at ks q h.2).1 hq).1
    refine (drop_there (n9 ks vs A1 c1 A2 c2) q hl (h.right ..) hq W hx).mono ?_
    rintro e w' ⟨y, rfl, e1, e2, e3, e4, oy, hn⟩
    have hI := del_ok ks (cnt ks q) (cnt ks q + 1) q h.2 e0 (by omega) hf.1 hf.2
    have l1 := del_len ks (cnt ks q) (cnt ks q + 1) e0
    have l2 := del_len vs (cnt ks q) (cnt ks q + 1) (by rw [← h.1]; exact e0)
    rw [← h.1] at l2
    obtain ⟨inner, ks2, vs2, lk, A3, c3, A4, c4⟩ := y
    simp only at e1 e2 e3 e4
    subst e1 e2 e3 e4
    exact ⟨_, _, A3, c3, A4, c4, _, _, rfl, ⟨by rw [l1, l2], hI.1⟩, by rw [l1]; omega, hI.2, oy, hn⟩
  | false =>
    refine (drop_away (n9 ks vs A1 c1 A2 c2) q (by show ks.length ≤ 1000; omega) (h.right ..) hq W hx).mono ?_
    rintro e w' ⟨y, rfl, e1, e2, e3, e4, oy, hn⟩
    obtain ⟨inner, ks2, vs2, lk, A3, c3, A4, c4⟩ := y
    simp only at e1 e2 e3 e4
    subst e1 e2 e3 e4
    exact ⟨_, _, A3, c3, A4, c4, 0, _, rfl, h, Nat.le_succ _, hq, oy, hn⟩
theorem of_9 (W : World) : Calls Try.prog 25 #[.int .u64 9, .slice none 0 0] W fun e w' => ∃ (A1 : Option Addr) (c1 : Nat) (A2 : Option Addr) (c2 : Nat), e = .returned (nv9 [] [] A1 c1 A2 c2) ∧ NR w' (n9 [] [] A1 c1 A2 c2) ∧ Below W.heap.size W w' := by
  refine (of_any 9 [] (by simp) [] [] rfl rfl true (by simp [ris]) none 0 0 0 W (RdR.nil _ _ _ _)).mono ?_
  rintro e w' ⟨y, rfl, hn, hb, e1, e2, -⟩
  obtain ⟨e3, e4, e5⟩ := e2 rfl
  obtain ⟨inner, ks2, vs2, lk, A3, c3, A4, c4⟩ := y
  simp only at e1 e3 e4 e5
  subst e1 e3 e4 e5
  exact ⟨A3, c3, A4, c4, rfl, hn, hb⟩
/-- The leaf's block, what the round reads of the list. -/
structure KQ (w : World) (g : Nat) (ks vs : List Nat) (A1 : Option Addr) (c1 : Nat) (A2 : Option Addr) (c2 : Nat) (b o x y : Nat) (W : World) : Prop where
  f0 : W.cell? ⟨g, 0, none⟩ = some (.bool false)
  f1 : W.cell? ⟨g, 1, none⟩ = some (.slice A1 ks.length c1)
  f2 : W.cell? ⟨g, 2, none⟩ = some (.slice A2 vs.length c2)
  f3 : W.cell? ⟨g, 3, none⟩ = some (.int .u64 9)
  fz : ∀ i, W.frozen? ⟨g, i, none⟩ = false
  rn : NR W (n9 ks vs A1 c1 A2 c2)
  k0 : W.cell? ⟨b, o, none⟩ = some (.int .u64 (x : Nat))
  k1 : W.cell? ⟨b, o + 1, none⟩ = some (.int .u64 (y : Nat))
  bl : Below w.heap.size w W
  gl : w.heap.size ≤ g
  bg : b < w.heap.size
structure KN (w : World) (g : Nat) (ks vs : List Nat) (A1 : Option Addr) (c1 : Nat) (A2 : Option Addr) (c2 : Nat) (W : World) : Prop where
  f0 : W.cell? ⟨g, 0, none⟩ = some (.bool false)
  f1 : W.cell? ⟨g, 1, none⟩ = some (.slice A1 ks.length c1)
  f2 : W.cell? ⟨g, 2, none⟩ = some (.slice A2 vs.length c2)
  f3 : W.cell? ⟨g, 3, none⟩ = some (.int .u64 9)
  fz : ∀ i, W.frozen? ⟨g, i, none⟩ = false
  rn : NR W (n9 ks vs A1 c1 A2 c2)
  bl : Below w.heap.size w W
  gl : w.heap.size ≤ g
structure KV (w : World) (g : Nat) (ks vs : List Nat) (A1 : Option Addr) (c1 : Nat) (kb ko c2 : Nat) (b o x y n0 : Nat) (W : World) : Prop extends KQ w g ks vs A1 c1 (some ⟨kb, ko, none⟩) c2 b o x y W where
  kv : W.cell? ⟨kb, ko + n0, none⟩ = some (.int .u64 (y : Nat))
section
variable {w : World} {g : Nat} {ks vs : List Nat} {A1 A2 : Option Addr} {c1 c2 b o x y kb ko n0 : Nat} {W W' : World}
theorem KQ.next (h : KQ w g ks vs A1 c1 A2 c2 b o x y W) (hn : Below W.heap.size W W') : KQ w g ks vs A1 c1 A2 c2 b o x y W' := by
  have hg := World.block_lt_of_cell? W _ h.f0
  have c : ∀ j, W'.cell? ⟨g, j, none⟩ = W.cell? ⟨g, j, none⟩ := fun j => hn.cell (p := ⟨g, j, none⟩) hg
  exact ⟨(c _).trans h.f0, (c _).trans h.f1, (c _).trans h.f2, (c _).trans h.f3, fun i => (hn.frozen (p := ⟨g, i, none⟩) hg).trans (h.fz i), h.rn.next hn, (hn.cell (p := ⟨b, o, none⟩) (World.block_lt_of_cell? W _ h.k0)).trans h.k0, (hn.cell (p := ⟨b, o + 1, none⟩) (World.block_lt_of_cell? W _ h.k1)).trans h.k1, h.bl.trans (hn.mono h.bl.size), h.gl, h.bg⟩
theorem KQ.drew (h : KQ w g ks vs A1 c1 A2 c2 b o x y W) : KQ w g ks vs A1 c1 A2 c2 b o x y W.drew := h.next (Below.refl _ _).drew
theorem KN.next (h : KN w g ks vs A1 c1 A2 c2 W) (hn : Below W.heap.size W W') : KN w g ks vs A1 c1 A2 c2 W' := by
  have hg := World.block_lt_of_cell? W _ h.f0
  have c : ∀ j, W'.cell? ⟨g, j, none⟩ = W.cell? ⟨g, j, none⟩ := fun j => hn.cell (p := ⟨g, j, none⟩) hg
  exact ⟨(c _).trans h.f0, (c _).trans h.f1, (c _).trans h.f2, (c _).trans h.f3, fun i => (hn.frozen (p := ⟨g, i, none⟩) hg).trans (h.fz i), h.rn.next hn, h.bl.trans (hn.mono h.bl.size), h.gl⟩
theorem KV.next (h : KV w g ks vs A1 c1 kb ko c2 b o x y n0 W) (hn : Below W.heap.size W W') : KV w g ks vs A1 c1 kb ko c2 b o x y n0 W' := ⟨h.toKQ.next hn, (hn.cell (p := ⟨kb, ko + n0, none⟩) (World.block_lt_of_cell? W _ h.kv)).trans h.kv⟩
theorem KV.drew (h : KV w g ks vs A1 c1 kb ko c2 b o x y n0 W) : KV w g ks vs A1 c1 kb ko c2 b o x y n0 W.drew := h.next (Below.refl _ _).drew
theorem KQ.kn (h : KQ w g ks vs A1 c1 A2 c2 b o x y W) : KN w g ks vs A1 c1 A2 c2 W := ⟨h.f0, h.f1, h.f2, h.f3, h.fz, h.rn, h.bl, h.gl⟩
theorem KN.kq (h : KN w g ks vs A1 c1 A2 c2 W) (hb : b < w.heap.size) (h0 : W.cell? ⟨b, o, none⟩ = some (.int .u64 (x : Nat))) (h1 : W.cell? ⟨b, o + 1, none⟩ = some (.int .u64 (y : Nat))) : KQ w g ks vs A1 c1 A2 c2 b o x y W := ⟨h.f0, h.f1, h.f2, h.f3, h.fz, h.rn, h0, h1, h.bl, h.gl, hb⟩
theorem KN.start (w w1 : World) (hb : Below w.heap.size w w1) (hr : NR w1 (n9 ks vs A1 c1 A2 c2)) : KN w w1.heap.size ks vs A1 c1 A2 c2 (w1.alloc (.cells #[.bool false, .slice A1 ks.length c1, .slice A2 vs.length c2, .int .u64 9] 25)) :=
  ⟨by simp, by simp, by simp, by simp, fun i => by simp, hr.next (nl1 _ _), hb.trans ((nl1 _ _).mono hb.size), hb.size⟩
/-- The leaf that was made is stored. -/
theorem KQ.stored (h : KQ w g ks vs A1 c1 A2 c2 b o x y W) {ks2 vs2 : List Nat} {A3 A4 : Option Addr} {c3 c4 B : Nat} (ho : ON B (n9 ks2 vs2 A3 c3 A4 c4) W) (hB : g < B) :
    KQ w g ks2 vs2 A3 c3 A4 c4 b o x y ((((W.setCell ⟨g, 0, none⟩ (.bool false)).setCell ⟨g, 1, none⟩ (.slice A3 ks2.length c3)).setCell ⟨g, 2, none⟩ (.slice A4 vs2.length c4)).setCell ⟨g, 3, none⟩ (.int .u64 9)) := by
  have hg := h.gl
  have hb := h.bg
  obtain ⟨f0, f1, f2, f3, fz, rn, k0, k1, bl, gl, bg⟩ := h
  have ne : ∀ (V : World) (i j : Nat) (u : Value), (V.setCell ⟨g, i, none⟩ u).cell? ⟨b, j, none⟩ = V.cell? ⟨b, j, none⟩ := fun V i j u => World.cell?_setCell_other _ ⟨g, i, none⟩ ⟨b, j, none⟩ u (by intro e; injection e with e1; omega)
  refine ⟨by simp [go_sem, f0], by simp [go_sem, f1], by simp [go_sem, f2], by simp [go_sem, f3], fun i => by simp [go_sem, fz], (ho.put hB _ _ _ _).nr, ?_, ?_, below_put4 bl gl _ _ _ _, gl, bg⟩
  · rw [ne, ne, ne, ne]; exact k0
  · rw [ne, ne, ne, ne]; exact k1
theorem cell_two {kb ko : Nat} (h : NR W (n9 ks vs A1 c1 (some ⟨kb, ko, none⟩) c2)) (n0 : Nat) (hn : n0 < vs.length) : W.cell? ⟨kb, ko + n0, none⟩ = some (.int .u64 ((vs.getD n0 0 : Nat))) := by
  obtain ⟨b, o, e, hc⟩ := h.at2 n0 hn
  simp only [Option.some.injEq, Addr.mk.injEq] at e
  obtain ⟨rfl, rfl, -⟩ := e
  exact hc
end
end Go.Proofs.Ytahpdifneajblaa
