/- A search among keys that rise comes behind those that pass; contract of the document's count. -/
import Derived.Test.YtabdpidngfncjaaSeekOf2
namespace Go.Proofs.Ytabdpidngfncjaa
set_option linter.unusedVariables false
open Go.RowKit
/-- How many of the first keys pass. -/
def cntN (k q : Int) (zs : List Int) : Nat → Nat
  | 0 => 0
  | i + 1 => cntN k q zs i + if passOf k q (zs.getD i 0) then 1 else 0
theorem cntN_le (k q : Int) (zs : List Int) : ∀ i, cntN k q zs i ≤ i
  | 0 => Nat.le_refl _
  | i + 1 => by have := cntN_le k q zs i; unfold cntN; split <;> omega
theorem cntN_all (k q : Int) (zs : List Int) : ∀ m, (∀ i, i < m → passOf k q (zs.getD i 0) = true) → cntN k q zs m = m
  | 0, _ => rfl
  | m + 1, h => by
    unfold cntN
    rw [if_pos (h m (by omega)), cntN_all k q zs m (fun i hi => h i (by omega))]
theorem cntN_eq (k q : Int) (zs : List Int) (m : Nat) (h1 : ∀ i, i < m → passOf k q (zs.getD i 0) = true) : ∀ d, (∀ i, m ≤ i → i < m + d → passOf k q (zs.getD i 0) = false) → cntN k q zs (m + d) = m
  | 0, _ => cntN_all k q zs m h1
  | d + 1, h => by
    show cntN k q zs (m + d) + (if passOf k q (zs.getD (m + d) 0) then 1 else 0) = m
    rw [h (m + d) (by omega) (by omega), cntN_eq k q zs m h1 d (fun i hi hd => h i hi (by omega))]
    simp
theorem pass_anti (k q x y : Int) (h : x ≤ y) (hp : passOf k q y = true) : passOf k q x = true := by
  unfold passOf at *
  split at hp <;> rename_i hk <;> simp only [hk, if_true, if_false, decide_eq_true_eq] at * <;> omega
/-- The keys rise. -/
def rises (zs : List Int) (n : Nat) : Prop := ∀ j, j + 1 < n → zs.getD j 0 ≤ zs.getD (j + 1) 0
theorem rises_le {zs : List Int} {n : Nat} (h : rises zs n) (i : Nat) : ∀ d, i + d < n → zs.getD i 0 ≤ zs.getD (i + d) 0
  | 0, _ => Int.le_refl _
  | d + 1, hd => Int.le_trans (rises_le h i d (by omega)) (h (i + d) (by omega))
theorem fin_comes (zs : List Int) (n : Nat) (hr : rises zs n) : ∀ (f : Nat) (s : Sk), (s.hi - s.lo).toNat ≤ f → 0 ≤ s.lo → s.lo ≤ s.hi → s.hi ≤ n →
    (∀ i : Nat, (i : Int) < s.lo → passOf s.k s.q (zs.getD i 0) = true) → (∀ i : Nat, s.hi ≤ (i : Int) → i < n → passOf s.k s.q (zs.getD i 0) = false) →
    (Sk.fin zs f s).lo = (cntN s.k s.q zs n : Nat) := by
  intro f
  induction f with
  | zero =>
    intro s h0 h1 h2 h3 ha hb
    have e : s.lo = s.hi := by omega
    obtain ⟨m, hm⟩ : ∃ m : Nat, s.lo = m := ⟨s.lo.toNat, by omega⟩
    show s.lo = _
    have h := cntN_eq s.k s.q zs m (fun i hi => ha i (by omega)) (n - m) (fun i hi hd => hb i (by omega) (by omega))
    rw [show m + (n - m) = n by omega] at h
    rw [h, hm]
  | succ f ih =>
    intro s h0 h1 h2 h3 ha hb
    by_cases hl : s.lo < s.hi
    · have hw := Sk.want_in s hl
      have hwe : s.want = s.lo + (s.hi - s.lo) / 2 := by unfold Sk.want wantOf; rw [if_pos hl]
      obtain ⟨m, hm⟩ : ∃ m : Nat, s.want = m := ⟨s.want.toNat, by omega⟩
      have hless := Sk.took_less s (zs.getD s.want.toNat 0) hl
      show (if s.lo < s.hi then Sk.fin zs f (s.took (zs.getD s.want.toNat 0)) else s).lo = _
      rw [if_pos hl]
      have hmn : s.want.toNat = m := by omega
      rw [hmn] at hless ⊢
      by_cases hp : passOf s.k s.q (zs.getD m 0) = true
      · have e : s.took (zs.getD m 0) = ⟨s.k, s.q, s.lo + (s.hi - s.lo) / 2 + 1, s.hi⟩ := by unfold Sk.took; rw [if_pos hl, if_pos hp]
        rw [e] at hless ⊢
        refine ih ⟨s.k, s.q, s.lo + (s.hi - s.lo) / 2 + 1, s.hi⟩ (by simp only at *; omega) (by simp only; omega) (by simp only; omega) (by simp only; omega) (fun i hi => ?_) (fun i hi hn => hb i hi hn)
        simp only at hi
        have hle := rises_le hr i (m - i) (by omega)
        rw [show i + (m - i) = m by omega] at hle
        exact pass_anti _ _ _ _ hle hp
      · have e : s.took (zs.getD m 0) = ⟨s.k, s.q, s.lo, s.lo + (s.hi - s.lo) / 2⟩ := by unfold Sk.took; rw [if_pos hl, if_neg hp]
        rw [e] at hless ⊢
        refine ih ⟨s.k, s.q, s.lo, s.lo + (s.hi - s.lo) / 2⟩ (by simp only at *; omega) (by simp only; omega) (by simp only; omega) (by simp only; omega) (fun i hi => ha i hi) (fun i hi hn => ?_)
        simp only at hi
        have hle := rises_le hr m (i - m) (by omega)
        rw [show m + (i - m) = i by omega] at hle
        simp only
        cases hq : passOf s.k s.q (zs.getD i 0) with
        | false => rfl
        | true => exact absurd (pass_anti _ _ _ _ hle hq) hp
    · have e : Sk.fin zs (f + 1) s = s := Sk.fin_come zs _ s hl
      rw [e]
      have he : s.lo = s.hi := by omega
      obtain ⟨m, hm⟩ : ∃ m : Nat, s.lo = m := ⟨s.lo.toNat, by omega⟩
      have h := cntN_eq s.k s.q zs m (fun i hi => ha i (by omega)) (n - m) (fun i hi hd => hb i (by omega) (by omega))
      rw [show m + (n - m) = n by omega] at h
      rw [h, hm]
theorem fin_take (zs : List Int) (n : Nat) : ∀ (f : Nat) (s : Sk), 0 ≤ s.lo → s.hi ≤ n → Sk.fin (zs.take n) f s = Sk.fin zs f s := by
  intro f
  induction f with
  | zero => intro s _ _; rfl
  | succ f ih =>
    intro s h0 h1
    by_cases hl : s.lo < s.hi
    · have hw := Sk.want_in s hl
      have e : (zs.take n).getD s.want.toNat 0 = zs.getD s.want.toNat 0 := by
        rw [List.getD_eq_getElem?_getD, List.getD_eq_getElem?_getD, List.getElem?_take, if_pos (by omega)]
      show (if s.lo < s.hi then Sk.fin (zs.take n) f (s.took ((zs.take n).getD s.want.toNat 0)) else s) = (if s.lo < s.hi then Sk.fin zs f (s.took (zs.getD s.want.toNat 0)) else s)
      rw [if_pos hl, if_pos hl, e]
      refine ih _ ?_ ?_
      · unfold Sk.took; rw [if_pos hl]; split <;> simp only <;> omega
      · exact Int.le_trans (Sk.took_hi s _) h1
    · rw [Sk.fin_come _ _ s hl, Sk.fin_come _ _ s hl]
theorem of_counts (k q : Int) (zs : List Int) (n : Nat) (hn : n ≤ zs.length) (hk : k = 1 ∨ k = 2) (hr : rises zs n) : ofN k (zs.take n) q = (cntN k q zs n : Nat) := by
  have hl : (zs.take n).length = n := by simp; omega
  unfold ofN
  rw [hl]
  have e : Sk.new k n q = ⟨k, q, 0, n⟩ := by unfold Sk.new; rw [if_pos hk]; congr 1; omega
  rw [e, fin_take zs n _ _ (by simp) (by simp)]
  exact fin_comes zs n hr _ ⟨k, q, 0, n⟩ (by simp) (by simp) (by simp) (by simp) (fun i hi => by simp only at hi; omega) (fun i hi h2 => by simp only at hi; omega)
theorem of_none (k q : Int) (ks : List Int) (hk : ¬ (k = 1 ∨ k = 2)) : ofN k ks q = 0 := by
  unfold ofN
  have e : Sk.new k ks.length q = ⟨0, 0, 0, 0⟩ := by unfold Sk.new; rw [if_neg hk]
  rw [e]; rfl
theorem sof_cut (k q : Int) (zs : List Int) (n b off c : Nat) (hn : n ≤ zs.length) (hm : n ≤ maxLen) (W : World) (hb : b < W.heap.size)
    (hx : ∀ i, i < n → W.cell? ⟨b, off + i, none⟩ = some (.int .u64 (zs.getD i 0))) :
    Calls Try.prog 21 #[.int .i64 k, .slice (some ⟨b, off, none⟩) n c, .int .u64 q] W fun e w' => e = .returned (.int .i64 (ofN k (zs.take n) q)) ∧ Below W.heap.size W w' := by
  have hl : (zs.take n).length = n := by simp; omega
  have h := sof_any k q (zs.take n) (some ⟨b, off, none⟩) b off c (by omega) W (fun _ => ⟨rfl, hb⟩) (fun i hi => by
    rw [hx i (by omega), List.getD_eq_getElem?_getD, List.getD_eq_getElem?_getD, List.getElem?_take, if_pos (by omega)])
  rw [hl] at h
  exact h
theorem count_any (k q : Int) (zs : List Int) (n b off c : Nat) (hk : k = 1 ∨ k = 2) (hm : n ≤ maxLen) (W : World)
    (hx : ∀ i, i < n → W.cell? ⟨b, off + i, none⟩ = some (.int .u64 (zs.getD i 0))) :
    Calls Try.prog 20 #[.int .i64 k, .slice (some ⟨b, off, none⟩) n c, .int .u64 q] W fun e w' => e = .returned (.int .i64 (cntN k q zs n : Nat)) ∧ W = w' := by
  have HX := Lib.hid hx
  have hm2 : n ≤ 9223372036854775807 := by unfold maxLen at hm; omega
  clear hx
  rcases hk with rfl | rfl
  · go_enter Try.func20, Try.ntmps20
    go_wp2
    go_loop [7, 8] (fun p i => ∃ j : Nat, j ≤ n ∧ i = .int .i64 j ∧ p = .int .i64 (cntN 1 q zs j : Nat)) (fun _ i => n - (intOf i).toNat)
    case atStart => exact ⟨0, by omega, rfl, rfl⟩
    case round =>
      obtain ⟨j, hj, rfl, rfl⟩ := hrel
      by_cases hlt : j < n
      · have hx := HX.out j hlt
        have hle := cntN_le 1 q zs j
        have hstep : cntN 1 q zs (j + 1) = cntN 1 q zs j + if passOf 1 q (zs.getD j 0) then 1 else 0 := rfl
        generalize zs.getD j 0 = x at hx hstep
        obtain ⟨u2, hu2⟩ : ∃ u2 : Nat, cntN 1 q zs (j + 1) = u2 := ⟨_, rfl⟩
        rw [hu2] at hstep
        have HU := Lib.hid hu2
        clear hu2
        by_cases h1 : x < q
        · have hs : u2 = cntN 1 q zs j + 1 := by rw [hstep, if_pos (by unfold passOf; simp; omega)]
          have HS := Lib.hid hs
          clear hstep hs
          go_wp2
          go_round
          case rel => exact ⟨j + 1, by omega, by go_num, int_v (by rw [HU.out, HS.out]; go_num)⟩
          case measure => simp [intOf]; omega
        · have hs : u2 = cntN 1 q zs j := by rw [hstep, if_neg (by unfold passOf; simp; omega)]; rfl
          have HS := Lib.hid hs
          clear hstep hs
          go_wp2
          go_round
          case rel => exact ⟨j + 1, by omega, by go_num, int_v (by rw [HU.out, HS.out])⟩
          case measure => simp [intOf]; omega
      · have hjn : j = n := by omega
        subst hjn
        go_wp2
        go_ret
        exact ⟨rfl, rfl⟩
  · go_enter Try.func20, Try.ntmps20
    go_wp2
    go_loop [7, 8] (fun p i => ∃ j : Nat, j ≤ n ∧ i = .int .i64 j ∧ p = .int .i64 (cntN 2 q zs j : Nat)) (fun _ i => n - (intOf i).toNat)
    case atStart => exact ⟨0, by omega, rfl, rfl⟩
    case round =>
      obtain ⟨j, hj, rfl, rfl⟩ := hrel
      by_cases hlt : j < n
      · have hx := HX.out j hlt
        have hle := cntN_le 2 q zs j
        have hstep : cntN 2 q zs (j + 1) = cntN 2 q zs j + if passOf 2 q (zs.getD j 0) then 1 else 0 := rfl
        generalize zs.getD j 0 = x at hx hstep
        obtain ⟨u2, hu2⟩ : ∃ u2 : Nat, cntN 2 q zs (j + 1) = u2 := ⟨_, rfl⟩
        rw [hu2] at hstep
        have HU := Lib.hid hu2
        clear hu2
        by_cases h1 : x < q
        · have hs : u2 = cntN 2 q zs j + 1 := by rw [hstep, if_pos (by unfold passOf; simp; omega)]
          have HS := Lib.hid hs
          clear hstep hs
          go_wp2
          go_round
          case rel => exact ⟨j + 1, by omega, by go_num, int_v (by rw [HU.out, HS.out]; go_num)⟩
          case measure => simp [intOf]; omega
        · by_cases h2 : x = q
          · subst h2
            have hs : u2 = cntN 2 x zs j + 1 := by rw [hstep, if_pos (by unfold passOf; simp)]
            have HS := Lib.hid hs
            clear hstep hs
            go_wp2
            go_round
            case rel => exact ⟨j + 1, by omega, by go_num, int_v (by rw [HU.out, HS.out]; go_num)⟩
            case measure => simp [intOf]; omega
          · have hs : u2 = cntN 2 q zs j := by rw [hstep, if_neg (by unfold passOf; simp; omega)]; rfl
            have HS := Lib.hid hs
            have hne : (x == q) = false := by simp; omega
            clear hstep hs h2
            go_wp2
            go_round
            case rel => exact ⟨j + 1, by omega, by go_num, int_v (by rw [HU.out, HS.out])⟩
            case measure => simp [intOf]; omega
      · have hjn : j = n := by omega
        subst hjn
        go_wp2
        go_ret
        exact ⟨rfl, rfl⟩
theorem count_zero (k q : Int) (A : Option Addr) (c : Nat) (W : World) :
    Calls Try.prog 20 #[.int .i64 k, .slice A 0 c, .int .u64 q] W fun e w' => e = .returned (.int .i64 0) ∧ W = w' := by
  go_enter Try.func20, Try.ntmps20
  go_wp2
  refine wp_loop_rounds 1 ?_
  rw [rounds_succ]
  go_wp2
  go_ret
  exact ⟨rfl, rfl⟩
end Go.Proofs.Ytabdpidngfncjaa
