/- Plain mathematics of words as natural numbers: fields, bits, widths, two's complement. -/
import Derived.Lib.Hide
import Derived.WalkKit
namespace Go.Proofs.YthcmgagmbioofaaDoor.M
set_option linter.unusedVariables false
open Go.RowKit (wrap64)

theorem pow_le {a b : Nat} (h : a ≤ b) : 2 ^ a ≤ 2 ^ b := Nat.pow_le_pow_right (by omega) h
theorem pow_pos (a : Nat) : 0 < 2 ^ a := Nat.two_pow_pos a

/-- What a field tells. -/
def get (w at' size : Nat) : Nat := w / 2 ^ at' % 2 ^ size
def bitn (w i : Nat) : Nat := w / 2 ^ i % 2

theorem bitn_lt (w i : Nat) : bitn w i < 2 := Nat.mod_lt _ (by omega)
theorem mod_succ (w k : Nat) : w % 2 ^ (k + 1) = w % 2 ^ k + bitn w k * 2 ^ k := by
  unfold bitn; rw [Nat.mod_pow_succ, Nat.mul_comm]
theorem get_succ (w a k : Nat) : get w a (k + 1) = get w a k + bitn w (a + k) * 2 ^ k := by
  unfold get
  rw [mod_succ]
  congr 2
  unfold bitn
  rw [Nat.div_div_eq_div_mul, ← Nat.pow_add]
theorem get_zero (w a : Nat) : get w a 0 = 0 := by unfold get; simp [Nat.mod_one]
theorem get_lt (w a k : Nat) : get w a k < 2 ^ k := Nat.mod_lt _ (pow_pos k)
theorem get_le (w a k : Nat) : get w a k ≤ w := Nat.le_trans (Nat.mod_le _ _) (Nat.div_le_self _ _)
/-- A field that passes the word's end tells what there is. -/
theorem get_over (w a k m : Nat) (hw : w < 2 ^ 64) (hk : 64 ≤ a + k) (hm : 64 ≤ a + m) : get w a k = get w a m := by
  unfold get
  have h : w / 2 ^ a < 2 ^ k := by
    rw [Nat.div_lt_iff_lt_mul (pow_pos a), ← Nat.pow_add]
    exact Nat.lt_of_lt_of_le hw (pow_le (by omega))
  have h2 : w / 2 ^ a < 2 ^ m := by
    rw [Nat.div_lt_iff_lt_mul (pow_pos a), ← Nat.pow_add]
    exact Nat.lt_of_lt_of_le hw (pow_le (by omega))
  rw [Nat.mod_eq_of_lt h, Nat.mod_eq_of_lt h2]
theorem bitn_testBit (w i : Nat) : bitn w i = (w.testBit i).toNat := by
  unfold bitn; rw [Nat.testBit_eq_decide_div_mod_eq]
  have := Nat.mod_lt (w / 2 ^ i) (by omega : 0 < 2)
  by_cases h : w / 2 ^ i % 2 = 1
  · simp [h]
  · have : w / 2 ^ i % 2 = 0 := by omega
    simp [this]

/-- How many bits there are in all. -/
def width (w : Nat) : Nat := if h : w = 0 then 0 else width (w / 2) + 1
termination_by w
decreasing_by omega
theorem width_zero : width 0 = 0 := by unfold width; simp
theorem width_pos (w : Nat) (h : 0 < w) : width w = width (w / 2) + 1 := by
  rw [width]; simp; omega
theorem width_le (k : Nat) : ∀ w, w < 2 ^ k → width w ≤ k := by
  induction k with
  | zero => intro w h; have : w = 0 := by simpa using h
            subst this; simp [width_zero]
  | succ k ih =>
    intro w h
    by_cases h0 : w = 0
    · subst h0; simp [width_zero]
    · rw [width_pos w (by omega)]
      have := ih (w / 2) (by rw [Nat.div_lt_iff_lt_mul (by omega)]; rw [Nat.pow_succ] at h; exact h)
      omega
theorem width_top (k : Nat) : ∀ w, w < 2 ^ k → width (w + 2 ^ k) = k + 1 := by
  induction k with
  | zero => intro w h; have : w = 0 := by simpa using h
            subst this; rw [width_pos _ (by omega)]; simp [width_zero]
  | succ k ih =>
    intro w h
    have hp := pow_pos k
    rw [Nat.pow_succ] at *
    rw [width_pos _ (by omega)]
    have e : (w + 2 ^ k * 2) / 2 = w / 2 + 2 ^ k := by omega
    rw [e, ih (w / 2) (by omega)]
theorem width_step (w k : Nat) : width (w % 2 ^ (k + 1)) = if bitn w k = 1 then k + 1 else width (w % 2 ^ k) := by
  rw [mod_succ]
  have h := bitn_lt w k
  by_cases hb : bitn w k = 1
  · rw [if_pos hb, hb, Nat.one_mul]; exact width_top k _ (Nat.mod_lt _ (pow_pos k))
  · have : bitn w k = 0 := by omega
    rw [if_neg hb, this]; simp

/-- The lowest n bits in two's complement (n from 1 on). -/
def signed (w n : Nat) : Int := if w % 2 ^ n < 2 ^ (n - 1) then (w % 2 ^ n : Nat) else (w % 2 ^ n : Nat) - (2 ^ n : Nat)

/-- A word with another field. -/
def msk (a k : Nat) : Nat := (2 ^ k - 1) * 2 ^ a % 2 ^ 64
def put (w a k v : Nat) : Nat := (w &&& (2 ^ 64 - 1 - msk a k)) ||| ((v * 2 ^ a % 2 ^ 64) &&& msk a k)
theorem msk_lt (a k : Nat) : msk a k < 2 ^ 64 := Nat.mod_lt _ (by decide)
theorem msk_bit (a k i : Nat) : (msk a k).testBit i = decide (i < 64 ∧ a ≤ i ∧ i - a < k) := by
  unfold msk
  rw [Nat.testBit_mod_two_pow, ← Nat.shiftLeft_eq, Nat.testBit_shiftLeft, Nat.testBit_two_pow_sub_one]
  by_cases h1 : i < 64 <;> by_cases h2 : a ≤ i <;> by_cases h3 : i - a < k <;> simp [h1, h2, h3]
theorem put_bit (w a k v i : Nat) (hi : i < 64) : (put w a k v).testBit i = if a ≤ i ∧ i - a < k then v.testBit (i - a) else w.testBit i := by
  unfold put
  have e : 2 ^ 64 - 1 - msk a k = 2 ^ 64 - (msk a k + 1) := by omega
  rw [Nat.testBit_or, Nat.testBit_and, Nat.testBit_and, e, Nat.testBit_two_pow_sub_succ (msk_lt a k), msk_bit, Nat.testBit_mod_two_pow, ← Nat.shiftLeft_eq, Nat.testBit_shiftLeft]
  by_cases h2 : a ≤ i <;> by_cases h3 : i - a < k <;> simp [h2, h3, hi]
theorem put_lt (w a k v : Nat) : put w a k v < 2 ^ 64 := by
  unfold put
  exact Nat.or_lt_two_pow (Nat.and_lt_two_pow _ (by have := msk_lt a k; omega)) (Nat.and_lt_two_pow _ (msk_lt a k))
theorem eq_of_bits (x y : Nat) (hx : x < 2 ^ 64) (hy : y < 2 ^ 64) (h : ∀ i, i < 64 → x.testBit i = y.testBit i) : x = y := by
  apply Nat.eq_of_testBit_eq
  intro i
  by_cases hi : i < 64
  · exact h i hi
  · have p : 2 ^ 64 ≤ 2 ^ i := pow_le (by omega)
    rw [Nat.testBit_lt_two_pow (by omega), Nat.testBit_lt_two_pow (by omega)]
theorem put_over (w a k m v : Nat) (hk : 64 ≤ a + k) (hm : 64 ≤ a + m) : put w a k v = put w a m v := by
  refine eq_of_bits _ _ (put_lt _ _ _ _) (put_lt _ _ _ _) fun i hi => ?_
  rw [put_bit _ _ _ _ _ hi, put_bit _ _ _ _ _ hi]
  by_cases h2 : a ≤ i
  · rw [if_pos ⟨h2, by omega⟩, if_pos ⟨h2, by omega⟩]
  · rw [if_neg (by omega), if_neg (by omega)]
theorem get_bit (w a k i : Nat) : (get w a k).testBit i = (decide (i < k) && w.testBit (a + i)) := by
  unfold get
  rw [Nat.testBit_mod_two_pow, ← Nat.shiftRight_eq_div_pow, Nat.testBit_shiftRight]
/-- What was put is got. -/
theorem get_put (w a k v : Nat) (h : a + k ≤ 64) : get (put w a k v) a k = v % 2 ^ k := by
  apply Nat.eq_of_testBit_eq
  intro i
  rw [get_bit, Nat.testBit_mod_two_pow]
  by_cases hi : i < k
  · rw [put_bit _ _ _ _ _ (by omega), if_pos ⟨by omega, by omega⟩, show a + i - a = i by omega]
  · simp [hi]
/-- A field that shares no bit with it stays. -/
theorem get_put_other (w a k v b m : Nat) (hw : w < 2 ^ 64) (h : b + m ≤ a ∨ a + k ≤ b) : get (put w a k v) b m = get w b m := by
  apply Nat.eq_of_testBit_eq
  intro i
  rw [get_bit, get_bit]
  by_cases hi : i < m
  · by_cases h64 : b + i < 64
    · rw [put_bit _ _ _ _ _ h64, if_neg (by omega)]
    · have p : 2 ^ 64 ≤ 2 ^ (b + i) := pow_le (by omega)
      rw [Nat.testBit_lt_two_pow (Nat.lt_of_lt_of_le (put_lt _ _ _ _) p), Nat.testBit_lt_two_pow (Nat.lt_of_lt_of_le hw p)]
  · simp [hi]
theorem put_none (w a v : Nat) (hw : w < 2 ^ 64) : put w a 0 v = w := by
  refine eq_of_bits _ _ (put_lt _ _ _ _) hw fun i hi => ?_
  rw [put_bit _ _ _ _ _ hi, if_neg (by omega)]

/-- Powers and masks under names that no rule opens. -/
def pw (k : Nat) : Nat := 2 ^ k
theorem pw_zero : pw 0 = 1 := rfl
theorem pw_succ (k : Nat) : pw (k + 1) = pw k * 2 := by unfold pw; rw [Nat.pow_succ]
theorem pw_pos (k : Nat) : 1 ≤ pw k := pow_pos k
theorem pw_le (k : Nat) (h : k ≤ 63) : pw k ≤ 9223372036854775808 := by unfold pw; exact pow_le h
def mask (k : Nat) : Nat := 2 ^ k - 1
theorem mask_le (k : Nat) (h : k ≤ 64) : mask k ≤ 18446744073709551615 := by
  unfold mask
  have : 2 ^ k ≤ 2 ^ 64 := pow_le h
  omega
/-- The size of a field, of whatever number. -/
def sz (n : Int) : Nat := min n.toNat 64
theorem sz_le (n : Int) : sz n ≤ 64 := by unfold sz; omega

def fget (w : Nat) (a size : Int) : Nat := if 0 ≤ a ∧ a < 64 then get w a.toNat (sz size) else 0
theorem and_mask (x k : Nat) (hx : x < 18446744073709551616) (hk : k ≤ 64) : bits .and .u64 (x : Int) (mask k : Nat) = (x % 2 ^ k : Nat) := by
  have := mask_le k hk
  rw [u64_and_nat x (mask k) hx (by omega)]
  unfold mask
  rw [Nat.and_two_pow_sub_one_eq_mod]
theorem and_get (w : Nat) (a size : Int) (hw : w < 18446744073709551616) (h0 : 0 ≤ a) (h1 : a < 64) :
    bits .and .u64 ((w : Int) / 2 ^ a.toNat) (mask (sz size) : Nat) = (get w a.toNat (sz size) : Nat) := by
  have e : (w : Int) / 2 ^ a.toNat = ((w / 2 ^ a.toNat : Nat) : Int) := by norm_cast
  have := Nat.div_le_self w (2 ^ a.toNat)
  rw [e, and_mask _ _ (by omega) (sz_le _)]
  rfl
theorem and_bit (w : Nat) (a : Int) (hw : w < 18446744073709551616) :
    (bits .and .u64 ((w : Int) / 2 ^ a.toNat) 1 == 1) = decide (bitn w a.toNat = 1) := by
  have e : (w : Int) / 2 ^ a.toNat = ((w / 2 ^ a.toNat : Nat) : Int) := by norm_cast
  have := Nat.div_le_self w (2 ^ a.toNat)
  have h := and_mask (w / 2 ^ a.toNat) 1 (by omega) (by omega)
  have m : ((mask 1 : Nat) : Int) = 1 := rfl
  rw [m] at h
  rw [e, h, Nat.pow_one]
  unfold bitn
  have := Nat.mod_lt (w / 2 ^ a.toNat) (by omega : 0 < 2)
  by_cases k : w / 2 ^ a.toNat % 2 = 1
  · rw [k]; rfl
  · have z : w / 2 ^ a.toNat % 2 = 0 := by omega
    rw [z]; rfl
theorem wrap_u64 (x : Nat) : IntKind.u64.wrap (x : Int) = (x % 2 ^ 64 : Nat) := by
  rw [IntKind.wrap_u64]; rfl
theorem put_code (w v : Nat) (a size : Int) (hw : w < 18446744073709551616) (hv : v < 18446744073709551616) (h0 : 0 ≤ a) (h1 : a < 64) :
    bits .or .u64 (bits .andNot .u64 (w : Int) (IntKind.u64.wrap ((mask (sz size) : Nat) * 2 ^ a.toNat)))
      (bits .and .u64 (IntKind.u64.wrap ((v : Int) * 2 ^ a.toNat)) (IntKind.u64.wrap ((mask (sz size) : Nat) * 2 ^ a.toNat))) = (put w a.toNat (sz size) v : Nat) := by
  have e1 : ((mask (sz size) : Nat) : Int) * 2 ^ a.toNat = ((mask (sz size) * 2 ^ a.toNat : Nat) : Int) := by norm_cast
  have e2 : (v : Int) * 2 ^ a.toNat = ((v * 2 ^ a.toNat : Nat) : Int) := by norm_cast
  have e3 : mask (sz size) * 2 ^ a.toNat % 2 ^ 64 = msk a.toNat (sz size) := rfl
  have l1 := msk_lt a.toNat (sz size)
  have l2 : v * 2 ^ a.toNat % 2 ^ 64 < 2 ^ 64 := Nat.mod_lt _ (by decide)
  rw [e1, e2, wrap_u64, wrap_u64, e3, u64_andNot_nat w _ hw l1, u64_and_nat _ _ l2 l1, u64_or_nat]
  · rfl
  · exact Nat.and_lt_two_pow (n := 64) _ (by omega)
  · exact Nat.and_lt_two_pow (n := 64) _ l1
theorem bit_code (w a : Nat) (hw : w < 18446744073709551616) : wrap64 ((IntKind.u64.wrap ((w : Int) / (pw a : Nat))).tmod 2) = (bitn w a : Nat) := by
  have e : (w : Int) / (pw a : Nat) = ((w / pw a : Nat) : Int) := by norm_cast
  have := Nat.div_le_self w (pw a)
  rw [e, IntWalk.u64_in _ ⟨Int.natCast_nonneg _, by omega⟩]
  have h : ((w / pw a : Nat) : Int).tmod 2 = ((w / pw a % 2 : Nat) : Int) := by
    rw [Int.tmod_eq_emod_of_nonneg (Int.natCast_nonneg _)]; rfl
  have := Nat.mod_lt (w / pw a) (by omega : 0 < 2)
  rw [h, IntWalk.wrap64_in _ ⟨by omega, by omega⟩]
  rfl
/-- How many bits of a field there are in the word. -/
def rsz (a : Nat) (size : Int) : Nat := min size.toNat (64 - a)
theorem get_rsz (w a : Nat) (size : Int) (hw : w < 18446744073709551616) (ha : a ≤ 63) : get w a (rsz a size) = get w a (sz size) := by
  by_cases h : size.toNat ≤ 64 - a
  · have : rsz a size = sz size := by unfold rsz sz; omega
    rw [this]
  · refine get_over w a _ _ hw ?_ ?_
    · unfold rsz; omega
    · unfold sz; omega

/-- The width of the lowest bits. -/
def wid (w k : Nat) : Nat := width (w % 2 ^ k)
theorem wid_succ (w k : Nat) : wid w (k + 1) = if bitn w k = 1 then k + 1 else wid w k := width_step w k
theorem wid_zero (w : Nat) : wid w 0 = 0 := by unfold wid; simp [Nat.mod_one, width_zero]
theorem wid_all (w : Nat) (h : w < 18446744073709551616) : wid w 64 = width w := by unfold wid; rw [Nat.mod_eq_of_lt h]
theorem wid_le (w k : Nat) : wid w k ≤ k := width_le k _ (Nat.mod_lt _ (pow_pos k))

/-- Two's complement, of whatever size. -/
def fsigned (w : Nat) (size : Int) : Int := if size < 1 then 0 else signed w (sz size)
def low (w k : Nat) : Nat := w % 2 ^ k
theorem low_zero (w : Nat) : low w 0 = 0 := by unfold low; simp [Nat.mod_one]
theorem low_succ (w k : Nat) : low w (k + 1) = low w k + bitn w k * pw k := mod_succ w k
theorem low_lt (w k : Nat) : low w k < pw k := Nat.mod_lt _ (pow_pos k)
theorem signed_split (w n : Nat) : signed w (n + 1) = if bitn w n = 1 then (low w n : Int) - (pw n : Nat) else (low w n : Int) := by
  have h := low_succ w n
  have l := low_lt w n
  have b := bitn_lt w n
  have p : 2 ^ (n + 1) = 2 ^ n * 2 := Nat.pow_succ ..
  unfold signed
  unfold low pw at *
  rw [Nat.add_sub_cancel, h]
  by_cases k : bitn w n = 1
  · rw [if_pos k, k, if_neg (by omega)]
    omega
  · have z : bitn w n = 0 := by omega
    rw [if_neg k, z, if_pos (by omega)]
    omega
theorem signed_full (w : Nat) (hw : w < 18446744073709551616) : wrap64 (w : Int) = signed w 64 := by
  unfold signed wrap64
  have e : (2 : Nat) ^ 64 = 18446744073709551616 := rfl
  have e3 : (2 : Nat) ^ (64 - 1) = 9223372036854775808 := rfl
  rw [e, e3]
  rw [Nat.mod_eq_of_lt hw]
  split <;> omega
theorem signed_code (w n : Nat) (h1 : 1 ≤ n) (h2 : n ≤ 63) : (wrap64 (IntKind.u64.wrap ((w : Int) * 2 ^ (64 - n)))) / 2 ^ (64 - n) = signed w n := by
  have e2 : (w : Int) * 2 ^ (64 - n) = ((w * 2 ^ (64 - n) : Nat) : Int) := by norm_cast
  rw [e2, wrap_u64]
  have e3 : (2 : Nat) ^ 64 = 2 ^ n * 2 ^ (64 - n) := by rw [← Nat.pow_add]; congr 1; omega
  rw [e3, Nat.mul_mod_mul_right]
  have l : w % 2 ^ n < 2 ^ n := Nat.mod_lt _ (pow_pos n)
  have p1 : 2 ^ n = 2 ^ (n - 1) * 2 := by rw [← Nat.pow_succ]; congr 1; omega
  have gp := pow_pos (64 - n)
  have e4 : (2 : Nat) ^ (n - 1) * 2 ^ (64 - n) = 9223372036854775808 := by
    rw [← Nat.pow_add, show n - 1 + (64 - n) = 63 by omega]
  have eg : (2 : Int) ^ (64 - n) = ((2 ^ (64 - n) : Nat) : Int) := by norm_cast
  rw [eg]
  unfold signed
  generalize w % 2 ^ n = r at *
  generalize hg : (2 : Nat) ^ (64 - n) = g at *
  generalize hq : (2 : Nat) ^ (n - 1) = q at *
  rw [p1] at l
  rw [p1]
  by_cases h : r < q
  · rw [if_pos h]
    have : r * g < q * g := Nat.mul_lt_mul_of_pos_right h gp
    rw [IntWalk.wrap64_in _ (by omega)]
    have : ((r * g : Nat) : Int) = (r : Int) * (g : Int) := by norm_cast
    rw [this, Int.mul_ediv_cancel _ (by omega)]
  · rw [if_neg h]
    have a1 : q * g ≤ r * g := Nat.mul_le_mul_right g (by omega)
    have a2 : r * g < q * 2 * g := Nat.mul_lt_mul_of_pos_right l gp
    have a3 : q * 2 * g = 18446744073709551616 := by rw [Nat.mul_right_comm, e4]
    have a4 : wrap64 ((r * g : Nat) : Int) = ((r : Int) - (q * 2 : Nat)) * (g : Int) := by
      have c1 : ((r : Int) - (q * 2 : Nat)) * (g : Int) = ((r * g : Nat) : Int) - ((q * 2 * g : Nat) : Int) := by
        rw [Int.sub_mul]; norm_cast
      rw [c1, a3]; unfold wrap64; omega
    rw [a4, Int.mul_ediv_cancel _ (by omega)]

/-- A word with another field, wherever it stands. -/
def fput (w : Nat) (a size : Int) (v : Nat) : Nat := if 0 ≤ a ∧ a < 64 then put w a.toNat (sz size) v else w
theorem fput_lt (w : Nat) (a size : Int) (v : Nat) (hw : w < 18446744073709551616) : fput w a size v < 18446744073709551616 := by
  unfold fput; split
  · exact put_lt _ _ _ _
  · exact hw
theorem fput_bit (w : Nat) (a size : Int) (v i : Nat) (hi : i < 64) (h : 0 ≤ a ∧ a ≤ i ∧ (i : Int) - a < size) : bitn (fput w a size v) i = bitn v (i - a.toNat) := by
  unfold fput
  rw [if_pos (by omega), bitn_testBit, bitn_testBit, put_bit _ _ _ _ _ hi, if_pos (by unfold sz; omega)]
theorem fput_bit_not (w : Nat) (a size : Int) (v i : Nat) (hi : i < 64) (h : ¬ (0 ≤ a ∧ a ≤ i ∧ (i : Int) - a < size)) : bitn (fput w a size v) i = bitn w i := by
  unfold fput
  split
  · rw [bitn_testBit, bitn_testBit, put_bit _ _ _ _ _ hi, if_neg (by unfold sz; omega)]
  · rfl
theorem low_all (w : Nat) (h : w < 18446744073709551616) : low w 64 = w := Nat.mod_eq_of_lt h
theorem pw_le2 (k : Nat) (h : k ≤ 62) : pw k ≤ 4611686018427387904 := by unfold pw; exact pow_le h
theorem fput_mask (size : Int) : fput 0 0 size 18446744073709551615 = mask (sz size) := by
  have hm := mask_le (sz size) (sz_le size)
  have e64 : (18446744073709551615 : Nat) = 2 ^ 64 - 1 := rfl
  unfold fput
  rw [if_pos ⟨by omega, by omega⟩]
  refine eq_of_bits _ _ (put_lt _ _ _ _) (by omega) fun i hi => ?_
  rw [put_bit _ _ _ _ _ hi]
  unfold mask
  rw [Nat.testBit_two_pow_sub_one]
  by_cases h : i < sz size
  · rw [if_pos ⟨by simp, by simpa using h⟩, e64, Nat.testBit_two_pow_sub_one]; simp [h]; omega
  · rw [if_neg (by simpa using h)]; simp [h]
/-- A word with another field, by division. -/
theorem put_eq (w a k v : Nat) (h : a + k ≤ 64) (hw : w < 18446744073709551616) : put w a k v = 2 ^ (a + k) * (w / 2 ^ (a + k)) + (2 ^ a * (v % 2 ^ k) + w % 2 ^ a) := by
  have l1 : w % 2 ^ a < 2 ^ a := Nat.mod_lt _ (pow_pos a)
  have l2 : v % 2 ^ k < 2 ^ k := Nat.mod_lt _ (pow_pos k)
  have l3 : 2 ^ a * (v % 2 ^ k) + w % 2 ^ a < 2 ^ (a + k) := by
    rw [Nat.pow_add]
    have : 2 ^ a * (v % 2 ^ k + 1) ≤ 2 ^ a * 2 ^ k := Nat.mul_le_mul_left _ l2
    rw [Nat.mul_add, Nat.mul_one] at this
    omega
  refine eq_of_bits _ _ (put_lt _ _ _ _) ?_ fun i hi => ?_
  · have h1 : w / 2 ^ (a + k) < 2 ^ (64 - (a + k)) := by
      rw [Nat.div_lt_iff_lt_mul (pow_pos _), ← Nat.pow_add, show 64 - (a + k) + (a + k) = 64 by omega]
      exact hw
    have h2 : 2 ^ (a + k) * (w / 2 ^ (a + k) + 1) ≤ 2 ^ (a + k) * 2 ^ (64 - (a + k)) := Nat.mul_le_mul_left _ h1
    rw [← Nat.pow_add, show a + k + (64 - (a + k)) = 64 by omega, Nat.mul_add, Nat.mul_one] at h2
    omega
  · rw [put_bit _ _ _ _ _ hi, Nat.testBit_two_pow_mul_add _ l3, Nat.testBit_two_pow_mul_add _ l1]
    by_cases h1 : i < a + k
    · rw [if_pos h1]
      by_cases h2 : i < a
      · rw [if_neg (by omega), if_pos h2, Nat.testBit_mod_two_pow]; simp [h2]
      · rw [if_pos (by omega), if_neg h2, Nat.testBit_mod_two_pow]
        have : i - a < k := by omega
        simp [this]
    · rw [if_neg h1, if_neg (by omega), ← Nat.shiftRight_eq_div_pow, Nat.testBit_shiftRight]
      congr 1; omega
theorem fput_eq (w : Nat) (a k : Nat) (v : Nat) (h : a + k ≤ 64) (h2 : a < 64) (hw : w < 18446744073709551616) : fput w a k v = 2 ^ (a + k) * (w / 2 ^ (a + k)) + (2 ^ a * (v % 2 ^ k) + w % 2 ^ a) := by
  unfold fput
  rw [if_pos (by omega)]
  have : sz k = k := by unfold sz; omega
  rw [this, Int.toNat_natCast, put_eq w a k v h hw]
end Go.Proofs.YthcmgagmbioofaaDoor.M
