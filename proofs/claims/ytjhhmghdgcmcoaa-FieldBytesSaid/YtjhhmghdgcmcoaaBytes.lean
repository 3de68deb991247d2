/- Contracts of field.Bytes and field.Word. -/
import Derived.Test.YtjhhmghdgcmcoaaRef01
import Derived.Test.YtjhhmghdgcmcoaaFrame
namespace Go.Proofs.Ytjhhmghdgcmcoaa
set_option linter.unusedVariables false
open Go.RowKit
theorem or_add (i a b : Nat) (h : b < 2 ^ i) : b ||| (2 ^ i * a) = 2 ^ i * a + b := by
  rw [Nat.or_comm, ← Nat.two_pow_add_eq_or_of_lt h]
/-- The word of bytes. -/
def wN (f : Nat → Nat) : Nat → Nat
  | 0 => 0
  | i + 1 => 2 ^ (8 * i) * f i + wN f i
theorem wN_lt (f : Nat → Nat) (h : ∀ i, f i < 256) : ∀ i, wN f i < 2 ^ (8 * i)
  | 0 => by simp [wN]
  | i + 1 => by
    have h1 := wN_lt f h i
    have h2 := h i
    show 2 ^ (8 * i) * f i + wN f i < 2 ^ (8 * (i + 1))
    have e : 2 ^ (8 * (i + 1)) = 2 ^ (8 * i) * 256 := by rw [Nat.mul_add, Nat.pow_add]
    have h3 : 2 ^ (8 * i) * (f i + 1) ≤ 2 ^ (8 * i) * 256 := Nat.mul_le_mul_left _ h2
    rw [Nat.mul_add, Nat.mul_one] at h3
    omega
theorem wN_bytes (w : Nat) : ∀ i, wN (fun i => M.get w (8 * i) 8) i = w % 2 ^ (8 * i)
  | 0 => by simp [wN, Nat.mod_one]
  | i + 1 => by
    show 2 ^ (8 * i) * M.get w (8 * i) 8 + wN (fun i => M.get w (8 * i) 8) i = _
    rw [wN_bytes w i, show 8 * (i + 1) = 8 * i + 8 by omega, Nat.pow_add, Nat.mod_mul]
    unfold M.get
    omega
theorem wN_all (w : Nat) (h : w < 18446744073709551616) : wN (fun i => M.get w (8 * i) 8) 8 = w := by
  rw [wN_bytes]; exact Nat.mod_eq_of_lt h
theorem wN_or (f : Nat → Nat) (h : ∀ i, f i < 256) (i : Nat) (hi : i < 8) :
    bits .or .u64 (wN f i : Nat) (IntKind.u64.wrap ((f i : Int) * 2 ^ (8 * i))) = (wN f (i + 1) : Nat) := by
  have h1 := wN_lt f h i
  have h2 := wN_lt f h (i + 1)
  have h3 : 2 ^ (8 * (i + 1)) ≤ 2 ^ 64 := M.pow_le (by omega)
  have e : (f i : Int) * 2 ^ (8 * i) = ((2 ^ (8 * i) * f i : Nat) : Int) := by rw [Nat.mul_comm (2 ^ (8 * i))]; norm_cast
  have h4 : 2 ^ (8 * i) * f i + wN f i < 2 ^ (8 * (i + 1)) := h2
  have e64 : (2 : Nat) ^ 64 = 18446744073709551616 := rfl
  rw [e, IntWalk.u64_in _ ⟨by omega, by omega⟩, u64_or_nat _ _ (by omega) (by omega), or_add _ _ _ h1]
  rfl
/-- The word of a slice of bytes. -/
theorem word_any (zs : List Int) (b off c : Nat) (hz : 0 < zs.length) (hcap : zs.length ≤ c) (hn : zs.length ≤ maxLen) (W : World)
    (hx : ∀ i, i < zs.length → W.cell? ⟨b, off + i, none⟩ = some (.int .u8 (zs.getD i 0))) (hw : ∀ n ∈ zs, (Lit.int .u8 n).wf = true) :
    Calls Try.prog 23 #[.slice (some ⟨b, off, none⟩) zs.length c] W fun e w' => e = .returned (.int .u64 (wN (fun i => (zs.getD i 0).toNat) (min zs.length 8) : Nat)) ∧ W = w' := by
  have hb : ∀ i, 0 ≤ zs.getD i 0 ∧ zs.getD i 0 ≤ 255 := by
    intro i
    by_cases h : i < zs.length
    · have := hw (zs.getD i 0) (by rw [List.getD_eq_getElem?_getD, List.getElem?_eq_getElem h]; exact List.getElem_mem h)
      simp only [Lit.wf, Bool.and_eq_true, decide_eq_true_eq] at this
      exact this
    · rw [List.getD_eq_getElem?_getD, List.getElem?_eq_none (by omega)]; decide
  have hf : ∀ i, (zs.getD i 0).toNat < 256 := fun i => by have := hb i; omega
  have HO := Lib.hid (wN_or (fun i => (zs.getD i 0).toNat) hf)
  have HX := Lib.hid hx
  have HB := Lib.hid hb
  have hn2 : zs.length ≤ 9223372036854775807 := by unfold maxLen at hn; omega
  clear hx hw hb hf
  by_cases h8 : zs.length ≤ 8
  · have hm : min zs.length 8 = zs.length := by omega
    rw [hm]
    clear hm
    go_enter Try.func23, Try.ntmps23
    go_wp2
    go_loop [3, 12] (fun p i => ∃ k : Nat, k ≤ zs.length ∧ i = .int .i64 k ∧ p = .int .u64 (wN (fun i => (zs.getD i 0).toNat) k : Nat)) (fun _ i => zs.length - (intOf i).toNat)
    case atStart => exact ⟨0, by omega, rfl, rfl⟩
    case round =>
      obtain ⟨k, hk, rfl, rfl⟩ := hrel
      by_cases hlt : k < zs.length
      · have hx := HX.out k (by omega)
        have hb := HB.out k
        have ho := HO.out k (by omega)
        obtain ⟨y, hy⟩ : ∃ y : Nat, zs.getD k 0 = (y : Int) := ⟨(zs.getD k 0).toNat, by omega⟩
        rw [hy] at hx hb
        have hy2 : (zs.getD k 0).toNat = y := by omega
        simp only [hy2] at ho
        generalize wN (fun i => (zs.getD i 0).toNat) k = u at ho ⊢
        have HO2 := Lib.hid ho
        clear ho hy hy2
        go_wp2
        go_round
        case rel => exact ⟨k + 1, by omega, by go_num, int_v (by rw [← HO2.out])⟩
        case measure => simp [intOf]; omega
      · have hkk : k = zs.length := by omega
        subst hkk
        go_wp2
        go_ret
        exact ⟨rfl, rfl⟩
  · have hm : min zs.length 8 = 8 := by omega
    rw [hm]
    clear hm
    go_enter Try.func23, Try.ntmps23
    go_wp2
    go_loop [3, 12] (fun p i => ∃ k : Nat, k ≤ 8 ∧ i = .int .i64 k ∧ p = .int .u64 (wN (fun i => (zs.getD i 0).toNat) k : Nat)) (fun _ i => 8 - (intOf i).toNat)
    case atStart => exact ⟨0, by omega, rfl, rfl⟩
    case round =>
      obtain ⟨k, hk, rfl, rfl⟩ := hrel
      by_cases hlt : k < 8
      · have hx := HX.out k (by omega)
        have hb := HB.out k
        have ho := HO.out k (by omega)
        obtain ⟨y, hy⟩ : ∃ y : Nat, zs.getD k 0 = (y : Int) := ⟨(zs.getD k 0).toNat, by omega⟩
        rw [hy] at hx hb
        have hy2 : (zs.getD k 0).toNat = y := by omega
        simp only [hy2] at ho
        generalize wN (fun i => (zs.getD i 0).toNat) k = u at ho ⊢
        have HO2 := Lib.hid ho
        clear ho hy hy2
        go_wp2
        go_round
        case rel => exact ⟨k + 1, by omega, by go_num, int_v (by rw [← HO2.out])⟩
        case measure => simp [intOf]; omega
      · obtain rfl : k = 8 := by omega
        go_wp2
        go_ret
        exact ⟨rfl, rfl⟩
end Go.Proofs.Ytjhhmghdgcmcoaa
