/- Contracts of package seek: one search. -/
import Derived.Test.YtbajodaohgacmaaField
import Derived.Test.YtbajodaohgacmaaFrame
import Derived.Deep.RegionHeld3
import Derived.Deep.LoopGhost
namespace Go.Proofs.Ytbajodaohgacmaa
set_option linter.unusedVariables false
open Go.RowKit
theorem below_drewN {B : Nat} {a w : World} (h : Below B a w) (n : Nat) : Below B a (w.drewN n) := ⟨h.os, h.tape, h.output, h.size, h.block⟩

/-! ### Plain numbers -/
def wantOf (lo hi : Int) : Int := if lo < hi then lo + (hi - lo) / 2 else -1
def passOf (k q x : Int) : Bool := if k = 1 then decide (x < q) else decide (x ≤ q)

/-! ### The automaton -/
theorem swant_any (k q lo hi : Int) (h0 : 0 ≤ lo) (h1 : hi ≤ 9223372036854775807) (W : World) :
    Calls Try.prog 27 #[.agg #[.int .i64 k, .int .u64 q, .int .i64 lo, .int .i64 hi]] W fun e w' => e = .returned (.int .i64 (wantOf lo hi)) ∧ Below W.heap.size W w' := by
  by_cases h : lo < hi
  · go_enter Try.func27, Try.ntmps27
    go_wp2
    go_ret
    exact ⟨ret_i (by unfold wantOf; rw [if_pos h]), (Below.refl _ _).alloc (Nat.le_refl _) _⟩
  · go_enter Try.func27, Try.ntmps27
    go_wp2
    go_ret
    exact ⟨ret_i (by unfold wantOf; rw [if_neg (by omega)]), (Below.refl _ _).alloc (Nat.le_refl _) _⟩
theorem sat_any (k q lo hi : Int) (W : World) :
    Calls Try.prog 29 #[.agg #[.int .i64 k, .int .u64 q, .int .i64 lo, .int .i64 hi]] W fun e w' => e = .returned (.int .i64 lo) ∧ Below W.heap.size W w' := by
  go_enter Try.func29, Try.ntmps29
  go_wp2
  go_ret
  exact ⟨rfl, (Below.refl _ _).alloc (Nat.le_refl _) _⟩
theorem snew_in (k n q : Int) (hk : k = 1 ∨ k = 2) (W : World) :
    Calls Try.prog 25 #[.int .i64 k, .int .i64 n, .int .u64 q] W fun e w' => e = .returned (.agg #[.int .i64 k, .int .u64 q, .int .i64 0, .int .i64 (max n 0)]) ∧ Below W.heap.size W w' := by
  by_cases hn : 0 ≤ n
  · have hm : max n 0 = n := by omega
    rw [hm]
    clear hm
    rcases hk with rfl | rfl
    all_goals
      go_enter Try.func25, Try.ntmps25
      go_wp2
    · exact bodyPost_ret (v := .agg #[.int .i64 1, .int .u64 q, .int .i64 0, .int .i64 n]) (by simp [results, Try.results25, go_sem]) rfl ⟨rfl, by repeat (first | exact Below.refl _ _ | assumption | refine below_drewN ?_ _ | refine Below.alloc ?_ (by first | omega | (simp; done) | (simp; omega)) _ | refine Below.setCell ?_ (by first | omega | (simp; done) | (simp; omega)) _)⟩
    · exact bodyPost_ret (v := .agg #[.int .i64 2, .int .u64 q, .int .i64 0, .int .i64 n]) (by simp [results, Try.results25, go_sem]) rfl ⟨rfl, by repeat (first | exact Below.refl _ _ | assumption | refine below_drewN ?_ _ | refine Below.alloc ?_ (by first | omega | (simp; done) | (simp; omega)) _ | refine Below.setCell ?_ (by first | omega | (simp; done) | (simp; omega)) _)⟩
  · have hm : max n 0 = 0 := by omega
    rw [hm]
    clear hm
    rcases hk with rfl | rfl
    all_goals
      go_enter Try.func25, Try.ntmps25
      go_wp2
    · exact bodyPost_ret (v := .agg #[.int .i64 1, .int .u64 q, .int .i64 0, .int .i64 0]) (by simp [results, Try.results25, go_sem]) rfl ⟨rfl, by repeat (first | exact Below.refl _ _ | assumption | refine below_drewN ?_ _ | refine Below.alloc ?_ (by first | omega | (simp; done) | (simp; omega)) _ | refine Below.setCell ?_ (by first | omega | (simp; done) | (simp; omega)) _)⟩
    · exact bodyPost_ret (v := .agg #[.int .i64 2, .int .u64 q, .int .i64 0, .int .i64 0]) (by simp [results, Try.results25, go_sem]) rfl ⟨rfl, by repeat (first | exact Below.refl _ _ | assumption | refine below_drewN ?_ _ | refine Below.alloc ?_ (by first | omega | (simp; done) | (simp; omega)) _ | refine Below.setCell ?_ (by first | omega | (simp; done) | (simp; omega)) _)⟩
theorem snew_out (k n q : Int) (hk : ¬ (k = 1 ∨ k = 2)) (W : World) :
    Calls Try.prog 25 #[.int .i64 k, .int .i64 n, .int .u64 q] W fun e w' => e = .returned (.agg #[.int .i64 0, .int .u64 0, .int .i64 0, .int .i64 0]) ∧ Below W.heap.size W w' := by
  have h1 : (k != 1) = true := by simp; omega
  have h2 : (k != 2) = true := by simp; omega
  clear hk
  go_enter Try.func25, Try.ntmps25
  go_wp2
  exact bodyPost_ret (v := .agg #[.int .i64 0, .int .u64 0, .int .i64 0, .int .i64 0]) (by simp [results, Try.results25, go_sem]) rfl ⟨rfl, by repeat (first | exact Below.refl _ _ | assumption | refine below_drewN ?_ _ | refine Below.alloc ?_ (by first | omega | (simp; done) | (simp; omega)) _ | refine Below.setCell ?_ (by first | omega | (simp; done) | (simp; omega)) _)⟩
theorem stook_come (k q lo hi x : Int) (h : hi ≤ lo) (W : World) :
    Calls Try.prog 31 #[.agg #[.int .i64 k, .int .u64 q, .int .i64 lo, .int .i64 hi], .int .u64 x] W fun e w' => e = .returned (.agg #[.int .i64 k, .int .u64 q, .int .i64 lo, .int .i64 hi]) ∧ Below W.heap.size W w' := by
  go_enter Try.func31, Try.ntmps31
  go_wp2
  exact bodyPost_ret (v := .agg #[.int .i64 k, .int .u64 q, .int .i64 lo, .int .i64 hi]) (by simp [results, Try.results31, go_sem]) rfl ⟨rfl, by repeat (first | exact Below.refl _ _ | assumption | refine below_drewN ?_ _ | refine Below.alloc ?_ (by first | omega | (simp; done) | (simp; omega)) _ | refine Below.setCell ?_ (by first | omega | (simp; done) | (simp; omega)) _)⟩
theorem stook_pass (k q lo hi x : Int) (h0 : 0 ≤ lo) (h : lo < hi) (h1 : hi ≤ 9223372036854775807) (hp : passOf k q x = true) (W : World) :
    Calls Try.prog 31 #[.agg #[.int .i64 k, .int .u64 q, .int .i64 lo, .int .i64 hi], .int .u64 x] W fun e w' => e = .returned (.agg #[.int .i64 k, .int .u64 q, .int .i64 (lo + (hi - lo) / 2 + 1), .int .i64 hi]) ∧ Below W.heap.size W w' := by
  unfold passOf at hp
  have hc : (lo + (hi - lo) / 2 == -1) = false := by simp; omega
  by_cases hk : k = 1
  · subst hk
    rw [if_pos rfl] at hp
    go_enter Try.func31, Try.ntmps31
    go_wp2
    exact bodyPost_ret (v := .agg #[.int .i64 1, .int .u64 q, .int .i64 (lo + (hi - lo) / 2 + 1), .int .i64 hi]) (by simp [results, Try.results31, go_sem]) rfl ⟨rfl, by repeat (first | exact Below.refl _ _ | assumption | refine below_drewN ?_ _ | refine Below.alloc ?_ (by first | omega | (simp; done) | (simp; omega)) _ | refine Below.setCell ?_ (by first | omega | (simp; done) | (simp; omega)) _)⟩
  · rw [if_neg hk] at hp
    have hk1 : (k == 1) = false := by simp; omega
    clear hk
    go_enter Try.func31, Try.ntmps31
    go_wp2
    exact bodyPost_ret (v := .agg #[.int .i64 k, .int .u64 q, .int .i64 (lo + (hi - lo) / 2 + 1), .int .i64 hi]) (by simp [results, Try.results31, go_sem]) rfl ⟨rfl, by repeat (first | exact Below.refl _ _ | assumption | refine below_drewN ?_ _ | refine Below.alloc ?_ (by first | omega | (simp; done) | (simp; omega)) _ | refine Below.setCell ?_ (by first | omega | (simp; done) | (simp; omega)) _)⟩
theorem stook_stay (k q lo hi x : Int) (h0 : 0 ≤ lo) (h : lo < hi) (h1 : hi ≤ 9223372036854775807) (hp : passOf k q x = false) (W : World) :
    Calls Try.prog 31 #[.agg #[.int .i64 k, .int .u64 q, .int .i64 lo, .int .i64 hi], .int .u64 x] W fun e w' => e = .returned (.agg #[.int .i64 k, .int .u64 q, .int .i64 lo, .int .i64 (lo + (hi - lo) / 2)]) ∧ Below W.heap.size W w' := by
  unfold passOf at hp
  have hc : (lo + (hi - lo) / 2 == -1) = false := by simp; omega
  by_cases hk : k = 1
  · subst hk
    rw [if_pos rfl] at hp
    go_enter Try.func31, Try.ntmps31
    go_wp2
    exact bodyPost_ret (v := .agg #[.int .i64 1, .int .u64 q, .int .i64 lo, .int .i64 (lo + (hi - lo) / 2)]) (by simp [results, Try.results31, go_sem]) rfl ⟨rfl, by repeat (first | exact Below.refl _ _ | assumption | refine below_drewN ?_ _ | refine Below.alloc ?_ (by first | omega | (simp; done) | (simp; omega)) _ | refine Below.setCell ?_ (by first | omega | (simp; done) | (simp; omega)) _)⟩
  · rw [if_neg hk] at hp
    have hk1 : (k == 1) = false := by simp; omega
    clear hk
    go_enter Try.func31, Try.ntmps31
    go_wp2
    exact bodyPost_ret (v := .agg #[.int .i64 k, .int .u64 q, .int .i64 lo, .int .i64 (lo + (hi - lo) / 2)]) (by simp [results, Try.results31, go_sem]) rfl ⟨rfl, by repeat (first | exact Below.refl _ _ | assumption | refine below_drewN ?_ _ | refine Below.alloc ?_ (by first | omega | (simp; done) | (simp; omega)) _ | refine Below.setCell ?_ (by first | omega | (simp; done) | (simp; omega)) _)⟩
/-- One search, told a key. -/
structure Sk where
  k : Int
  q : Int
  lo : Int
  hi : Int
def Sk.val (s : Sk) : Value := .agg #[.int .i64 s.k, .int .u64 s.q, .int .i64 s.lo, .int .i64 s.hi]
def Sk.took (s : Sk) (x : Int) : Sk := if s.lo < s.hi then (if passOf s.k s.q x then ⟨s.k, s.q, s.lo + (s.hi - s.lo) / 2 + 1, s.hi⟩ else ⟨s.k, s.q, s.lo, s.lo + (s.hi - s.lo) / 2⟩) else s
def Sk.want (s : Sk) : Int := wantOf s.lo s.hi
/-- It may be. -/
def Sk.ok (s : Sk) : Prop := 0 ≤ s.lo ∧ s.hi ≤ 9223372036854775807
theorem Sk.ok_took (s : Sk) (h : s.ok) (x : Int) : (s.took x).ok := by
  unfold Sk.ok Sk.took at *
  split
  · split <;> simp only <;> omega
  · exact h
theorem stook_any (s : Sk) (x : Int) (h : s.ok) (W : World) :
    Calls Try.prog 31 #[s.val, .int .u64 x] W fun e w' => e = .returned (s.took x).val ∧ Below W.heap.size W w' := by
  obtain ⟨k, q, lo, hi⟩ := s
  obtain ⟨h0, h1⟩ := h
  simp only at h0 h1
  unfold Sk.took Sk.val
  simp only
  by_cases hl : lo < hi
  · rw [if_pos hl]
    by_cases hp : passOf k q x = true
    · rw [if_pos hp]; exact stook_pass k q lo hi x h0 hl h1 hp W
    · rw [if_neg hp]; exact stook_stay k q lo hi x h0 hl h1 (by simpa using hp) W
  · rw [if_neg hl]; exact stook_come k q lo hi x (by omega) W
theorem ssteps_any (n : Int) (h : n ≤ 9223372036854775807) (W : World) :
    Calls Try.prog 30 #[.int .i64 n] W fun e w' => e = .returned (.int .i64 (M.width n.toNat)) ∧ W = w' := by
  obtain ⟨d, hd⟩ : ∃ d : Nat, d = M.width n.toNat := ⟨_, rfl⟩
  have hle : d ≤ 64 := by rw [hd]; exact M.width_le 64 _ (by omega)
  rw [← hd]
  have H := Lib.hid hd
  clear hd
  go_enter Try.func30, Try.ntmps30
  go_wp2
  go_loop [0, 3] (fun x i => ∃ (y : Int) (k : Nat), y ≤ n ∧ k + M.width y.toNat = d ∧ x = .int .i64 y ∧ i = .int .i64 k) (fun x _ => (intOf x).toNat)
  case atStart => exact ⟨n, 0, by omega, by rw [H.out]; omega, rfl, rfl⟩
  case round =>
    obtain ⟨y, k, hy, hk, rfl, rfl⟩ := hrel
    by_cases hlt : 0 < y
    · have hw1 := M.width_pos y.toNat (by omega)
      have he : y.toNat / 2 = (y / 2).toNat := by omega
      rw [he] at hw1
      have hk2 : k + 1 + M.width (y / 2).toNat = d := by omega
      have H2 := Lib.hid hk2
      have hkd : k + 1 ≤ 64 := by omega
      clear hk hw1 hk2 he
      go_wp2
      go_round
      case rel => exact ⟨y / 2, k + 1, by omega, H2.out, rfl, by go_num⟩
      case measure => simp [intOf]; omega
    · have hz : y.toNat = 0 := by omega
      have hkd : k = d := by rw [← hk, hz, M.width_zero]; rfl
      subst hkd
      clear hk hz
      go_wp2
      go_ret
      exact ⟨rfl, rfl⟩
end Go.Proofs.Ytbajodaohgacmaa
