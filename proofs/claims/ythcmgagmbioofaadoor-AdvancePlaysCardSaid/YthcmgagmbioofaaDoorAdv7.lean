/- The relation of both automata of stage 18; the law's class. -/
import Derived.Test.YthcmgagmbioofaaDoorAdv6e
import Derived.Test.YthcmgagmbioofaaDoorAdv6f
import Derived.Test.YthcmgagmbioofaaDoorAdv6s
namespace Go.Proofs.YthcmgagmbioofaaDoor
set_option linter.unusedVariables false
open Go.RowKit Go.Extern.Stop Go.Stop Go.Extern
def JJ (ju : Nat) (j : Int) : Prop := (ju = 0 ∧ j = -1) ∨ ∃ m : Nat, m < 64 ∧ ju = 2 ^ m ∧ j = (m : Nat)
theorem JJ.lt {ju : Nat} {j : Int} (h : JJ ju j) : ju < 18446744073709551616 := by
  rcases h with ⟨rfl, _⟩ | ⟨m, hm, rfl, _⟩
  · omega
  · exact pow64 hm
inductive Rel (s t f l p th : Int) : Ad → Rd → Prop
  | begins (hok : okC s t f l p) (h0 : 0 ≤ th) (ht : th < t) : Rel s t f l p th ⟨s, t, f, l, p, th, 1, 0, ((0 : Nat) : Int), 0, 0, ((0 : Nat) : Int), ((0 : Nat) : Int)⟩ ⟨th, 1, 0, ((0 : Nat) : Int), 0, 0, Option.none, 0, bitsTo 0 64, -1⟩
  | ann (ep v o wx ju : Nat) (wy j : Int) (A : Option Addr) (cap : Nat) (hok : okC s t f l p) (h0 : 0 ≤ th) (ht : th < t) (ho : (o : Int) < t) (hep : ep < 18446744073709551616) (hv : v < 18446744073709551616) (hb : ∀ i, o ≤ i → v.testBit i = false) (hj : JJ ju j) :
      Rel s t f l p th ⟨s, t, f, l, p, th, 2, 0, (ep : Nat), (o : Nat), (wx : Nat), (v : Nat), (ju : Nat)⟩ ⟨th, 2, 0, (ep : Nat), (o : Nat), wy, A, cap, bitsTo v 64, j⟩
  | clk (ep v o w : Nat) (A : Option Addr) (cap : Nat) (hok : okC s t f l p) (h0 : 0 ≤ th) (ht : th < t) (ho : (o : Int) < t) (hep : ep < 18446744073709551616) (hv : v < 18446744073709551616) (hb : ∀ i, o ≤ i → v.testBit i = false) (hw : w < 18446744073709551616) :
      Rel s t f l p th ⟨s, t, f, l, p, th, 3, 0, (ep : Nat), (o : Nat), (w : Nat), (v : Nat), ((0 : Nat) : Int)⟩ ⟨th, 3, 0, (ep : Nat), (o : Nat), (w : Nat), A, cap, bitsTo v 64, -1⟩
  | evi (ep v o w : Nat) (A : Option Addr) (cap : Nat) (hok : okC s t f l p) (h0 : 0 ≤ th) (ht : th < t) (ho : (o : Int) < t) (hep : ep < 18446744073709551616) (hv : v < 18446744073709551616) (hb : ∀ i, o ≤ i → v.testBit i = false) (hw : w < 18446744073709551616) :
      Rel s t f l p th ⟨s, t, f, l, p, th, 4, 0, (ep : Nat), (o : Nat), (w : Nat), (v : Nat), ((0 : Nat) : Int)⟩ ⟨th, 4, 0, (ep : Nat), (o : Nat), (w : Nat), A, cap, bitsTo v 64, -1⟩
  | go (ep v wx ju : Nat) (yt wy j : Int) (A : Option Addr) (cap : Nat) (hok : okC s t f l p) (h0 : 0 ≤ th) (ht : th < t) (hep : ep < 18446744073709551616) (hv : v < 18446744073709551616) (hj : JJ ju j) :
      Rel s t f l p th ⟨s, t, f, l, p, th, 5, 0, (ep : Nat), 0, (wx : Nat), (v : Nat), (ju : Nat)⟩ ⟨th, 5, 0, (ep : Nat), yt, wy, A, cap, bitsTo v 64, j⟩
  | ended (s' t' f' l' p' th' oc ot wd own oc' yt wy : Int) (ep v : Nat) (A : Option Addr) (cap : Nat) (hok : okL s' t' f' l' p') (hoc : (oc = 0 ∧ oc' = 1) ∨ (1 ≤ oc ∧ oc' = oc)) (hep : ep < 18446744073709551616) (hv : v < 18446744073709551616) :
      Rel s t f l p th ⟨s', t', f', l', p', th', 0, oc, (ep : Nat), ot, wd, (v : Nat), ((0 : Nat) : Int)⟩ ⟨own, 0, oc', (ep : Nat), yt, wy, A, cap, bitsTo v 64, -1⟩
/-- The list's row. -/
def RO (B : Nat) (W : World) (y : Rd) : Prop := W.ownsRow B 3 1 (.slice y.A y.L.length y.cap) y.L.length (ivs y.L)
theorem RO.next {B : Nat} {W W' : World} {y : Rd} (h : RO B W y) (hn : Below W.heap.size W W') : RO B W' y := rowNx h hn
theorem rel_turn {s t f l p th : Int} (ep v wx ju n : Nat) (st ot a yt wy j : Int) (A : Option Addr) (cap : Nat) (hok : okC s t f l p) (h0 : 0 ≤ th) (ht : th < t) (hep : ep < 18446744073709551616) (hv : v < 18446744073709551616) (hb : ∀ i, n ≤ i → v.testBit i = false) (hj : JJ ju j) :
    Rel s t f l p th (Ad.turn ⟨s, t, f, l, p, th, st, 0, (ep : Nat), ot, (wx : Nat), (v : Nat), (ju : Nat)⟩ (n : Nat)) (Rd.next t ⟨th, a, 0, (ep : Nat), yt, wy, A, cap, bitsTo v 64, j⟩ (n : Nat)) := by
  unfold Ad.turn Rd.next
  simp only
  obtain ⟨m, hm, hm2⟩ : ∃ m : Nat, (if (n : Int) = th then (n : Int) + 1 else (n : Int)) = (m : Nat) ∧ n ≤ m := by
    by_cases he : (n : Int) = th
    · rw [if_pos he]; exact ⟨n + 1, by omega, by omega⟩
    · rw [if_neg he]; exact ⟨n, rfl, Nat.le_refl _⟩
  rw [hm]
  by_cases hl : t ≤ (m : Int)
  · rw [if_pos hl, if_pos hl]; exact .go ep v wx ju _ wy j A cap hok h0 ht hep hv hj
  · rw [if_neg hl, if_neg hl]; exact .ann ep v m wx ju wy j A cap hok h0 ht (by omega) hep hv (fun i hi => hb i (by omega)) hj
section
variable {s t f l p th : Int} {x : Ad} {y : Rd}
theorem rel_done (h : Rel s t f l p th x y) :
    (y.a = 0 → ∀ W : World, Calls Tryd.prog 10 #[adV x] W fun e w' => e = .returned (.tuple #[.int .i64 y.oc, .bool true]) ∧ Below W.heap.size W w') ∧
    (y.a ≠ 0 → ∀ W : World, Calls Tryd.prog 10 #[adV x] W fun e w' => e = .returned (.tuple #[.int .i64 0, .bool false]) ∧ Below W.heap.size W w') := by
  cases h with
  | begins => exact ⟨fun h => by simp at h, fun _ W => adone_no _ _ _ _ _ _ _ _ _ _ _ _ _ (by omega) W⟩
  | ann => exact ⟨fun h => by simp at h, fun _ W => adone_no _ _ _ _ _ _ _ _ _ _ _ _ _ (by omega) W⟩
  | clk => exact ⟨fun h => by simp at h, fun _ W => adone_no _ _ _ _ _ _ _ _ _ _ _ _ _ (by omega) W⟩
  | evi => exact ⟨fun h => by simp at h, fun _ W => adone_no _ _ _ _ _ _ _ _ _ _ _ _ _ (by omega) W⟩
  | go => exact ⟨fun h => by simp at h, fun _ W => adone_no _ _ _ _ _ _ _ _ _ _ _ _ _ (by omega) W⟩
  | ended s' t' f' l' p' th' oc ot wd own oc' yt wy ep v A cap hok hoc =>
    refine ⟨fun _ W => ?_, fun h => absurd rfl h⟩
    rcases hoc with ⟨rfl, rfl⟩ | ⟨h1, rfl⟩
    · exact adone_zero _ _ _ _ _ _ _ _ _ _ _ W
    · exact adone_yes _ _ _ _ _ _ _ _ _ _ _ _ h1 W
theorem rel_want (h : Rel s t f l p th x y) : ∃ k a o m : Int,
    (∀ W : World, Calls Tryd.prog 11 #[adV x] W fun e w' => e = .returned (askV k a o m) ∧ Below W.heap.size W w') ∧
    (∀ W : World, Calls Tryd.prog 12 #[cfgV s t f l p, rdV y] W fun e w' => e = .returned (askV k a o m) ∧ Below W.heap.size W w') := by
  have ha : okC s t f l p → ∀ o : Nat, (o : Int) < t → atL s t f 4 o 0 = 3 + o := fun hok o ho => by unfold atL; rw [if_neg (by omega), if_pos rfl, if_neg (by omega)]
  have hb : okC s t f l p → atL s t f 1 0 0 = 0 := fun hok => by have := hok.1.1; unfold atL; rw [if_pos (by omega), if_neg (by omega)]; rfl
  have hc : okC s t f l p → atL s t f 2 0 0 = 1 := fun hok => by have := hok.1.1; unfold atL; rw [if_pos (by omega), if_neg (by omega)]; rfl
  cases h with
  | begins hok h0 ht => exact ⟨1, 0, 0, 0, fun W => by have h := awant_1 s t f l p th 0 ((0 : Nat) : Int) 0 0 ((0 : Nat) : Int) ((0 : Nat) : Int) (.inl hok) W; rw [hb hok] at h; exact h, fun W => rwant_1 s t f l p _ _ _ _ _ _ _ _ _ W⟩
  | ann ep v o wx ju wy j A cap hok h0 ht ho => exact ⟨1, 3 + o, 0, 0, fun W => by have h := awant_2 s t f l p th 0 (ep : Nat) (o : Nat) (wx : Nat) (v : Nat) (ju : Nat) (.inl hok) W; rw [ha hok o ho] at h; exact h, fun W => rwant_2 s t f l p _ _ _ _ _ _ _ _ _ (by omega) (by have := hok.2.1.2; omega) W⟩
  | clk ep v o w A cap hok h0 ht ho => exact ⟨1, 1, 0, 0, fun W => by have h := awant_3 s t f l p th 0 (ep : Nat) (o : Nat) (w : Nat) (v : Nat) ((0 : Nat) : Int) (.inl hok) W; rw [hc hok] at h; exact h, fun W => rwant_3 s t f l p _ _ _ _ _ _ _ _ _ W⟩
  | evi ep v o w A cap hok h0 ht ho hep hv hbb hw => exact ⟨3, 3 + o, (w : Nat), (w - w % 4 + 2 : Nat), fun W => by have h := awant_4 s t f l p th 0 (ep : Nat) (o : Nat) (v : Nat) ((0 : Nat) : Int) w hw (.inl hok) W; rw [ha hok o ho] at h; exact h, fun W => rwant_4 s t f l p _ _ _ _ _ _ _ _ w hw (by omega) (by have := hok.2.1.2; omega) W⟩
  | go ep v wx ju yt wy j A cap hok => exact ⟨3, 0, (ep : Nat), IntKind.u64.wrap ((ep : Nat) + 1), fun W => by have h := awant_5 s t f l p th 0 (ep : Nat) 0 (wx : Nat) (v : Nat) (ju : Nat) (.inl hok) W; rw [hb hok] at h; exact h, fun W => rwant_5 s t f l p _ _ _ _ _ _ _ _ _ W⟩
  | ended s' t' f' l' p' th' oc ot wd own oc' yt wy ep v A cap hok => exact ⟨0, 0, 0, 0, fun W => awant_0 s' t' f' l' p' th' oc (ep : Nat) ot wd (v : Nat) ((0 : Nat) : Int) hok W, fun W => rwant_0 s t f l p _ _ _ _ _ _ _ _ _ W⟩
theorem rel_epoch (h : Rel s t f l p th x y) (W : World) : Calls Tryd.prog 13 #[adV x] W fun e w' => e = .returned (.int .u64 y.ep) ∧ Below W.heap.size W w' := by
  have e : x.ep = y.ep := by cases h <;> rfl
  rw [← e]; exact aepochof_any x W
theorem rel_just (h : Rel s t f l p th x y) (W : World) : Calls Tryd.prog 14 #[adV x] W fun e w' => e = .returned (.int .i64 y.ju) ∧ Below W.heap.size W w' := by
  cases h with
  | begins => exact just_of _ _ _ _ _ _ _ _ _ _ _ _ 0 (-1) (by omega) (.inl ⟨rfl, rfl⟩) W
  | ann ep v o wx ju wy j A cap hok h0 ht ho hep hv hb hj => exact just_of _ _ _ _ _ _ _ _ _ _ _ _ ju j hj.lt hj W
  | clk => exact just_of _ _ _ _ _ _ _ _ _ _ _ _ 0 (-1) (by omega) (.inl ⟨rfl, rfl⟩) W
  | evi => exact just_of _ _ _ _ _ _ _ _ _ _ _ _ 0 (-1) (by omega) (.inl ⟨rfl, rfl⟩) W
  | go ep v wx ju yt wy j A cap hok h0 ht hep hv hj => exact just_of _ _ _ _ _ _ _ _ _ _ _ _ ju j hj.lt hj W
  | ended => exact just_of _ _ _ _ _ _ _ _ _ _ _ _ 0 (-1) (by omega) (.inl ⟨rfl, rfl⟩) W
theorem rel_evicted (h : Rel s t f l p th x y) : y.L.length ≤ 64 ∧ ∀ W : World, Calls Tryd.prog 16 #[adV x] W fun e w' => ∃ (A : Option Addr) (c : Nat), e = .returned (.slice A y.L.length c) ∧ RI w' A y.L ∧ Below W.heap.size W w' := by
  have k : ∀ (s t f l p th st oc ep ot wd ju : Int) (v : Nat), v < 18446744073709551616 → (bitsTo v 64).length ≤ 64 ∧ ∀ W : World, Calls Tryd.prog 16 #[adV ⟨s, t, f, l, p, th, st, oc, ep, ot, wd, (v : Nat), ju⟩] W fun e w' => ∃ (A : Option Addr) (c : Nat), e = .returned (.slice A (bitsTo v 64).length c) ∧ RI w' A (bitsTo v 64) ∧ Below W.heap.size W w' :=
    fun s t f l p th st oc ep ot wd ju v hv => ⟨bitsTo_len v 64, fun W => (evicted_any s t f l p th st oc ep ot wd ju v hv W).mono fun e w' ⟨vv, h1, h2, h3⟩ => by
      obtain ⟨A, c, rfl⟩ := own_sln h2
      exact ⟨A, c, h1, RI.of_own h2, h3⟩⟩
  cases h with
  | begins => exact k _ _ _ _ _ _ _ _ _ _ _ _ 0 (by omega)
  | ann ep v o wx ju wy j A cap hok h0 ht ho hep hv => exact k _ _ _ _ _ _ _ _ _ _ _ _ v hv
  | clk ep v o w A cap hok h0 ht ho hep hv => exact k _ _ _ _ _ _ _ _ _ _ _ _ v hv
  | evi ep v o w A cap hok h0 ht ho hep hv => exact k _ _ _ _ _ _ _ _ _ _ _ _ v hv
  | go ep v wx ju yt wy j A cap hok h0 ht hep hv => exact k _ _ _ _ _ _ _ _ _ _ _ _ v hv
  | ended s' t' f' l' p' th' oc ot wd own oc' yt wy ep v A cap hok hoc hep hv => exact k _ _ _ _ _ _ _ _ _ _ _ _ v hv
theorem evict_any (s t f l p : Int) (own oc ep wd ju : Int) (th : Nat) (A : Option Addr) (cap : Nat) (L : List Int) (h1 : th < 64) (hL : L.length ≤ 64) (W : World) (hr : RI W A L) :
    Calls Tryd.prog 18 #[cfgV s t f l p, rdV ⟨own, 4, oc, ep, (th : Nat), wd, A, cap, L, ju⟩, .int .u64 1] W fun e w' => ∃ A' c', e = .returned (rdV (Rd.next t ⟨own, 4, oc, ep, (th : Nat), wd, A', c', L ++ [((th : Nat) : Int)], (th : Nat)⟩ (th + 1))) ∧ w'.ownsRow W.heap.size 3 1 (.slice A' (L ++ [((th : Nat) : Int)]).length c') (L ++ [((th : Nat) : Int)]).length (ivs (L ++ [((th : Nat) : Int)])) ∧ Below W.heap.size W w' := by
  by_cases h0 : 0 < L.length
  · obtain ⟨g, rfl, hc⟩ := hr h0
    exact rtook_4s s t f l p own oc ep wd ju th cap g L h1 hL h0 W hc
  · have hn : L = [] := by
      cases L with
      | nil => rfl
      | cons a b => simp at h0
    subst hn
    cases A with
    | none => exact rtook_4e0 s t f l p own oc ep wd ju th cap h1 W
    | some a => exact rtook_4e1 s t f l p own oc ep wd ju th a cap h1 W
theorem rel_took (h : Rel s t f l p th x y) (n : Nat) (hn : n < 18446744073709551616) : ∃ x', (∀ W : World, Calls Tryd.prog 17 #[adV x, .int .u64 (n : Nat)] W fun e w' => e = .returned (adV x') ∧ Below W.heap.size W w') ∧
    ∀ (B : Nat) (W : World), B ≤ W.heap.size → RO B W y → Calls Tryd.prog 18 #[cfgV s t f l p, rdV y, .int .u64 (n : Nat)] W fun e w' => ∃ y', e = .returned (rdV y') ∧ Rel s t f l p th x' y' ∧ RO B w' y' ∧ Below W.heap.size W w' := by
  have hp : okC s t f l p → p ≤ 9223372036854775807 := fun h => by have := h.2.2.2.2.2; omega
  have ht64 : okC s t f l p → t ≤ 64 := fun h => h.2.1.2
  have kp : ∀ {B : Nat} {W w' : World} {y y' : Rd}, RO B W y → Below W.heap.size W w' → y'.A = y.A → y'.L = y.L → y'.cap = y.cap → RO B w' y' := fun hr hb e1 e2 e3 => by
    unfold RO; rw [e1, e2, e3]; exact rowNx hr hb
  have nA : ∀ (n : Int) (y : Rd), (y.next t n).A = y.A ∧ (y.next t n).L = y.L ∧ (y.next t n).cap = y.cap := fun n y => by unfold Rd.next; split <;> split <;> exact ⟨rfl, rfl, rfl⟩
  have J0 : JJ 0 (-1) := .inl ⟨rfl, rfl⟩
  cases h with
  | begins hok h0 ht =>
    refine ⟨_, fun W => atook_1 s t f l p th 0 _ 0 0 _ _ (n : Nat) _ (fun W => turn_any _ 0 (by omega) (by omega) W) W, fun B W hB hr => (rtook_1 s t f l p th 0 _ 0 0 (-1) Option.none 0 (bitsTo 0 64) n hn _ (fun W => rnext_any s t f l p _ 0 (by omega) (by omega) W) W).mono ?_⟩
    rintro e w' ⟨rfl, hb⟩
    exact ⟨_, rfl, rel_turn n 0 0 0 0 1 0 1 0 0 (-1) Option.none 0 hok h0 ht hn (by omega) (fun i _ => Nat.zero_testBit i) J0, kp hr hb (nA _ _).1 (nA _ _).2.1 (nA _ _).2.2, hb⟩
  | ann ep v o wx ju wy j A cap hok h0 ht ho hep hv hb hj =>
    cases hk : awBlocks n ep with
    | true =>
      refine ⟨_, fun W => atook_2 s t f l p th 0 _ _ _ _ _ (n : Nat) _ (fun W => ann_kept s t f l p th 2 0 _ _ _ 0 ep n hep hn hk W) W, fun B W hB hr => (rtook_2y s t f l p th 0 _ wy j A cap (bitsTo v 64) n hn ep hep hk W).mono ?_⟩
      rintro e w' ⟨rfl, hb'⟩
      exact ⟨_, rfl, .clk ep v o n A cap hok h0 ht ho hep hv hb hn, kp hr hb' rfl rfl rfl, hb'⟩
    | false =>
      refine ⟨_, fun W => atook_2 s t f l p th 0 _ _ _ _ _ (n : Nat) _ (fun W => ann_free s t f l p th 2 0 _ _ _ 0 ep n hep hn hk (by omega) (by have := ht64 hok; omega) W) W, fun B W hB hr => (rtook_2n s t f l p th 0 _ wy j A cap (bitsTo v 64) n hn ep hep hk (by omega) (by have := ht64 hok; omega) _ (fun W => rnext_any s t f l p _ (o + 1) (by omega) (by have := ht64 hok; omega) W) W).mono ?_⟩
      rintro e w' ⟨rfl, hb'⟩
      exact ⟨_, rfl, rel_turn ep v wx 0 (o + 1) 2 o 2 o n (-1) A cap hok h0 ht hep hv (fun i hi => hb i (by omega)) J0, kp hr hb' (nA _ _).1 (nA _ _).2.1 (nA _ _).2.2, hb'⟩
  | clk ep v o w A cap hok h0 ht ho hep hv hb hw =>
    cases hk : awStalled w n p with
    | true =>
      refine ⟨_, fun W => atook_3 s t f l p th 0 _ _ _ _ _ (n : Nat) _ (fun W => clk_yes s t f l p th 3 0 _ _ _ 0 w n hw hn (hp hok) hk W) W, fun B W hB hr => (rtook_3y s t f l p th 0 _ _ (-1) A cap (bitsTo v 64) n hn w hw (hp hok) hk W).mono ?_⟩
      rintro e w' ⟨rfl, hb'⟩
      exact ⟨_, rfl, .evi ep v o w A cap hok h0 ht ho hep hv hb hw, kp hr hb' rfl rfl rfl, hb'⟩
    | false =>
      refine ⟨_, fun W => atook_3 s t f l p th 0 _ _ _ _ _ (n : Nat) _ (fun W => clk_no s t f l p th 3 0 _ _ _ 0 w n hw hn (hp hok) hk W) W, fun B W hB hr => (rtook_3n s t f l p th 0 _ _ (-1) A cap (bitsTo v 64) n hn w hw (hp hok) hk W).mono ?_⟩
      rintro e w' ⟨rfl, hb'⟩
      exact ⟨_, rfl, .ended s t f l p th 1 o w th 1 o w ep v A cap (.inl hok) (.inr ⟨by omega, rfl⟩) hep hv, kp hr hb' rfl rfl rfl, hb'⟩
  | evi ep v o w A cap hok h0 ht ho hep hv hb hw =>
    by_cases hk : n = 1
    · subst hk
      have ho64 : o < 64 := by have := ht64 hok; omega
      refine ⟨_, fun W => atook_4 s t f l p th 0 _ _ _ _ _ 1 _ (fun W => evi_hit s t f l p th 4 0 _ _ 0 o v ho64 hv W) W, fun B W hB hr => (evict_any s t f l p th 0 ep w (-1) o A cap (bitsTo v 64) ho64 (bitsTo_len v 64) W (RI.of_own hr)).mono ?_⟩
      rintro e w' ⟨A', c', rfl, hrow, hb'⟩
      have hbt : bitsTo (v ||| 2 ^ o) 64 = bitsTo v 64 ++ [((o : Nat) : Int)] := by rw [bitsTo_or v o hb 64, if_neg (by omega)]
      rw [← hbt] at hrow ⊢
      refine ⟨_, rfl, rel_turn ep (v ||| 2 ^ o) w (2 ^ o) (o + 1) 4 o 4 o w o A' c' hok h0 ht hep (or64 hv (pow64 ho64)) (fun i hi => ?_) (.inr ⟨o, ho64, rfl, rfl⟩), ?_, hb'⟩
      · rw [Nat.testBit_or, hb i (by omega), Nat.testBit_two_pow]; simp; omega
      · unfold RO
        rw [(nA _ _).1, (nA _ _).2.1, (nA _ _).2.2]
        exact rowLw hrow hB
    · refine ⟨_, fun W => atook_4 s t f l p th 0 _ _ _ _ _ (n : Nat) _ (fun W => evi_miss s t f l p th 4 0 _ _ _ _ 0 n hn hk W) W, fun B W hB hr => (rtook_4n s t f l p th 0 _ _ _ (-1) A cap (bitsTo v 64) n hn hk W).mono ?_⟩
      rintro e w' ⟨rfl, hb'⟩
      exact ⟨_, rfl, .ann ep v o w 0 w (-1) A cap hok h0 ht ho hep hv hb J0, kp hr hb' rfl rfl rfl, hb'⟩
  | go ep v wx ju yt wy j A cap hok h0 ht hep hv hj =>
    by_cases hk : n = 1
    · subst hk
      refine ⟨_, fun W => atook_5y s t f l p th 0 _ _ _ _ _ W, fun B W hB hr => (rtook_5y s t f l p th 0 _ _ _ _ A cap (bitsTo v 64) W).mono ?_⟩
      rintro e w' ⟨rfl, hb'⟩
      exact ⟨_, rfl, .ended s t f l p th 3 0 wx th 3 yt wy ep v A cap (.inl hok) (.inr ⟨by omega, rfl⟩) hep hv, kp hr hb' rfl rfl rfl, hb'⟩
    · refine ⟨_, fun W => atook_5n s t f l p th 0 _ _ _ _ _ (n : Nat) (by omega) W, fun B W hB hr => (rtook_5n s t f l p th 0 _ _ _ _ A cap (bitsTo v 64) n hn hk W).mono ?_⟩
      rintro e w' ⟨rfl, hb'⟩
      exact ⟨_, rfl, .ended s t f l p th 2 0 wx th 2 yt wy ep v A cap (.inl hok) (.inr ⟨by omega, rfl⟩) hep hv, kp hr hb' rfl rfl rfl, hb'⟩
  | ended s' t' f' l' p' th' oc ot wd own oc' yt wy ep v A cap hok hoc hep hv =>
    refine ⟨_, fun W => atook_0 s' t' f' l' p' th' oc _ ot wd _ _ (n : Nat) W, fun B W hB hr => (rtook_0 s t f l p own oc' _ yt wy (-1) A cap (bitsTo v 64) n hn W).mono ?_⟩
    rintro e w' ⟨rfl, hb'⟩
    exact ⟨_, rfl, .ended s' t' f' l' p' th' oc ot wd own oc' yt wy ep v A cap hok hoc hep hv, kp hr hb' rfl rfl rfl, hb'⟩
end
/-- Both begin alike. -/
theorem rel_new (s t f l p th : Int) : ∃ (s' t' f' l' p' : Int) (x : Ad) (y : Rd), Rel s t f l p th x y ∧ (∀ B W, RO B W y) ∧
    (∀ W, GL W → Calls Tryd.prog 8 #[cfgV s t f l p] W fun e w' => e = .returned (layV s' t' f' l' p') ∧ Below W.heap.size W w') ∧
    (∀ W : World, Calls Tryd.prog 7 #[layV s' t' f' l' p', .int .i64 th] W fun e w' => e = .returned (adV x) ∧ Below W.heap.size W w') ∧
    (∀ W : World, Calls Tryd.prog 9 #[cfgV s t f l p, .int .i64 th] W fun e w' => e = .returned (rdV y) ∧ Below W.heap.size W w') := by
  have hz : okL 0 0 0 0 0 := .inr ⟨rfl, rfl, rfl, rfl, rfl⟩
  have hnil : ∀ {own a oc ep th wd ju : Int} (B : Nat) (W : World), RO B W ⟨own, a, oc, ep, th, wd, Option.none, 0, bitsTo 0 64, ju⟩ := fun B W => by
    unfold RO; simp only [bitsTo_none]; exact World.ownsRow_nil _ _ _ _
  by_cases hok : okC s t f l p
  · by_cases ht : 0 ≤ th ∧ th < t
    · exact ⟨s, t, f, l, p, _, _, .begins hok ht.1 ht.2, hnil, fun W hG => new_yes s t f l p W hG hok, fun W => anew_yes s t f l p th (.inl hok) ht.1 ht.2 W, fun W => rnew_yes s t f l p th (fun W => rhas_yes s t f l p th hok ht.1 ht.2 W) W⟩
    · exact ⟨s, t, f, l, p, _, _, .ended 0 0 0 0 0 0 0 0 0 0 1 0 0 0 0 Option.none 0 hz (.inl ⟨rfl, rfl⟩) (by omega) (by omega), hnil, fun W hG => new_yes s t f l p W hG hok, fun W => anew_no s t f l p th (.inl hok) (by omega) W, fun W => rnew_no s t f l p th (fun W => rhas_out s t f l p th hok (by omega) W) W⟩
  · exact ⟨0, 0, 0, 0, 0, _, _, .ended 0 0 0 0 0 0 0 0 0 0 1 0 0 0 0 Option.none 0 hz (.inl ⟨rfl, rfl⟩) (by omega) (by omega), hnil, fun W hG => new_no s t f l p W hG hok, fun W => anew_no 0 0 0 0 0 th hz (by omega) W, fun W => rnew_no s t f l p th (fun W => rhas_no s t f l p th hok W) W⟩

/-- A block of one type. -/
def TB (W : World) (g : Nat) (T : TypeId) : Prop := ∃ cs : Array Value, W.heap[g]? = some (.cells cs T (0, 0))
theorem TB.lt {W : World} {g : Nat} {T : TypeId} (h : TB W g T) : g < W.heap.size := by
  obtain ⟨cs, h⟩ := h
  exact (Array.getElem?_eq_some_iff.1 h).1
theorem TB.next {W W' : World} {g : Nat} {T : TypeId} (h : TB W g T) (hn : Below W.heap.size W W') : TB W' g T := by
  have hl := h.lt
  obtain ⟨cs, h⟩ := h
  exact ⟨cs, (hn.block g hl).trans h⟩
theorem TB.set {W : World} {g : Nat} {T : TypeId} (h : TB W g T) (a : Addr) (v : Value) : TB (W.setCell a v) g T := by
  obtain ⟨cs, h⟩ := h
  by_cases e : g = a.block
  · refine ⟨if a.spot.isSome = true then cs else cs.setIfInBounds a.off v, ?_⟩
    simp only [World.setCell, Array.getElem?_modify]
    rw [if_pos e.symm, h]; rfl
  · exact ⟨cs, (Below.heap_setCell W a v g e).trans h⟩
theorem RO.kept {B : Nat} {W : World} {y : Rd} {q : Nat} {T : TypeId} (h : RO B W y) (hT : T ≠ 3) (hq : TB W q T) (i : Nat) (v : Value) : RO B (W.setCell ⟨q, i, none⟩ v) y := by
  obtain ⟨cs, hq⟩ := hq
  refine World.ownsRow.kept h (grown_set W ⟨q, i, none⟩ v) ?_
  rcases h.2 with ⟨hv, _⟩ | ⟨gg, cap, cur, hv, _, hh, _⟩
  · rw [hv]; exact .inl rfl
  · rw [hv]
    refine .inr (fun e => ?_)
    simp [Value.ownBlock] at e
    subst e
    rw [hq] at hh
    simp at hh
    exact hT hh.2
/-- The law's three blocks: the configuration, the program's automaton, the document's, and its list. -/
structure KY (w : World) (g0 : Nat) (s t f l p : Int) (g1 : Nat) (x : Ad) (g2 : Nat) (y : Rd) (W : World) : Prop where
  k : K5 w.heap.size w g0 s t f l p W
  e : AC g1 x W
  r : RC g2 y W
  ro : RO w.heap.size W y
  t1 : TB W g1 30
  t2 : TB W g2 35
  l1 : w.heap.size ≤ g1
  l2 : w.heap.size ≤ g2
  n0 : g1 ≠ g0
  n1 : g2 ≠ g0
  n2 : g1 ≠ g2
/-- What a store into a block of one type keeps of the rest. -/
structure SK (w : World) (g0 : Nat) (s t f l p : Int) (g1 g2 : Nat) (y : Rd) (W : World) : Prop where
  k : K5 w.heap.size w g0 s t f l p W
  ro : RO w.heap.size W y
  t1 : TB W g1 30
  t2 : TB W g2 35
theorem SK.s1 {w : World} {g0 : Nat} {s t f l p : Int} {g1 g2 : Nat} {y : Rd} {W : World} (h : SK w g0 s t f l p g1 g2 y W) (n0 : g1 ≠ g0) (l1 : w.heap.size ≤ g1) (i : Nat) (v : Value) : SK w g0 s t f l p g1 g2 y (W.setCell ⟨g1, i, none⟩ v) :=
  ⟨h.k.set n0 l1 v, h.ro.kept (by decide) h.t1 i v, h.t1.set _ _, h.t2.set _ _⟩
theorem SK.s2 {w : World} {g0 : Nat} {s t f l p : Int} {g1 g2 : Nat} {y : Rd} {W : World} (h : SK w g0 s t f l p g1 g2 y W) (n0 : g2 ≠ g0) (l1 : w.heap.size ≤ g2) (i : Nat) (v : Value) : SK w g0 s t f l p g1 g2 y (W.setCell ⟨g2, i, none⟩ v) :=
  ⟨h.k.set n0 l1 v, h.ro.kept (by decide) h.t2 i v, h.t1.set _ _, h.t2.set _ _⟩
section
variable {w : World} {g0 : Nat} {s t f l p : Int} {g1 : Nat} {x : Ad} {g2 : Nat} {y : Rd} {W W' : World}
theorem KY.next (h : KY w g0 s t f l p g1 x g2 y W) (hn : Below W.heap.size W W') : KY w g0 s t f l p g1 x g2 y W' := ⟨h.k.next hn, h.e.next hn, h.r.next hn, h.ro.next hn, h.t1.next hn, h.t2.next hn, h.l1, h.l2, h.n0, h.n1, h.n2⟩
theorem KY.drew (h : KY w g0 s t f l p g1 x g2 y W) : KY w g0 s t f l p g1 x g2 y W.drew := h.next (Below.refl _ _).drew
theorem KY.store1 (h : KY w g0 s t f l p g1 x g2 y W) (z : Ad) : KY w g0 s t f l p g1 z g2 y (putA W g1 z) := by
  have k : SK w g0 s t f l p g1 g2 y (putA W g1 z) := ((((((((((((((SK.mk h.k h.ro h.t1 h.t2).s1 h.n0 h.l1 _ _).s1 h.n0 h.l1 _ _).s1 h.n0 h.l1 _ _).s1 h.n0 h.l1 _ _).s1 h.n0 h.l1 _ _).s1 h.n0 h.l1 _ _).s1 h.n0 h.l1 _ _).s1 h.n0 h.l1 _ _).s1 h.n0 h.l1 _ _).s1 h.n0 h.l1 _ _).s1 h.n0 h.l1 _ _).s1 h.n0 h.l1 _ _).s1 h.n0 h.l1 _ _)
  exact ⟨k.k, h.e.store z, h.r.keep h.n2 z, k.ro, k.t1, k.t2, h.l1, h.l2, h.n0, h.n1, h.n2⟩
theorem KY.store2 (h : KY w g0 s t f l p g1 x g2 y W) (z : Rd) (hz : RO w.heap.size W z) : KY w g0 s t f l p g1 x g2 z (putR W g2 z) := by
  have k : SK w g0 s t f l p g1 g2 z (putR W g2 z) := (((((((((SK.mk h.k hz h.t1 h.t2).s2 h.n1 h.l2 _ _).s2 h.n1 h.l2 _ _).s2 h.n1 h.l2 _ _).s2 h.n1 h.l2 _ _).s2 h.n1 h.l2 _ _).s2 h.n1 h.l2 _ _).s2 h.n1 h.l2 _ _).s2 h.n1 h.l2 _ _)
  exact ⟨k.k, h.e.keepR (fun e => h.n2 e.symm) z, h.r.store z, k.ro, k.t1, k.t2, h.l1, h.l2, h.n0, h.n1, h.n2⟩
theorem KY.name (h : KY w g0 s t f l p g1 x g2 y W) : ∃ wy, W = wy ∧ KY w g0 s t f l p g1 x g2 y wy := ⟨_, rfl, h⟩
theorem wp_at {P : Program} {c : Code} {Q : Exit → Act → World → Prop} {a : Act} {W W' : World} (h : W = W') (k : c.wp P Q a W') : c.wp P Q a W := by subst h; exact k
theorem TB.new1 (W : World) (x : Ad) : TB (W.alloc (adRow x)) W.heap.size 30 := ⟨_, World.alloc_heap_new W _⟩
theorem TB.new2 (W : World) (y : Rd) : TB (W.alloc (rdRow y)) W.heap.size 35 := ⟨_, World.alloc_heap_new W _⟩
structure KYX (w : World) (g0 : Nat) (s t f l p : Int) (g1 : Nat) (x : Ad) (g2 : Nat) (y : Rd) (a : Addr) (v : Value) (W : World) : Prop extends KY w g0 s t f l p g1 x g2 y W where
  xc : W.cell? a = some v
  xb : a.block < w.heap.size
theorem KYX.next {a : Addr} {v : Value} (h : KYX w g0 s t f l p g1 x g2 y a v W) (hn : Below W.heap.size W W') : KYX w g0 s t f l p g1 x g2 y a v W' :=
  ⟨h.toKY.next hn, (hn.cell (Nat.lt_of_lt_of_le h.xb h.k.bl.size)).trans h.xc, h.xb⟩
theorem KYX.mk' {a : Addr} {v : Value} (h : KY w g0 s t f l p g1 x g2 y W) (hb : a.block < w.heap.size) (hx : w.cell? a = some v) : KYX w g0 s t f l p g1 x g2 y a v W.drew :=
  ⟨h.drew, (h.k.bl.drew.cell hb).trans hx, hb⟩

theorem KY.b0 (h : KY w g0 s t f l p g1 x g2 y W) : W.cell? ⟨g0, 0, none⟩ = some (.int .i64 s) := h.k.c0
theorem KY.b1 (h : KY w g0 s t f l p g1 x g2 y W) : W.cell? ⟨g0, 1, none⟩ = some (.int .i64 t) := h.k.c1
theorem KY.b2 (h : KY w g0 s t f l p g1 x g2 y W) : W.cell? ⟨g0, 2, none⟩ = some (.int .i64 f) := h.k.c2
theorem KY.b3 (h : KY w g0 s t f l p g1 x g2 y W) : W.cell? ⟨g0, 3, none⟩ = some (.int .i64 l) := h.k.c3
theorem KY.b4 (h : KY w g0 s t f l p g1 x g2 y W) : W.cell? ⟨g0, 4, none⟩ = some (.int .i64 p) := h.k.c4
theorem KY.d0 (h : KY w g0 s t f l p g1 x g2 y W) : W.cell? ⟨g2, 0, none⟩ = some (.int .i64 y.own) := h.r.c0
theorem KY.d1 (h : KY w g0 s t f l p g1 x g2 y W) : W.cell? ⟨g2, 1, none⟩ = some (.int .i64 y.a) := h.r.c1
theorem KY.d2 (h : KY w g0 s t f l p g1 x g2 y W) : W.cell? ⟨g2, 2, none⟩ = some (.int .i64 y.oc) := h.r.c2
theorem KY.d3 (h : KY w g0 s t f l p g1 x g2 y W) : W.cell? ⟨g2, 3, none⟩ = some (.int .u64 y.ep) := h.r.c3
theorem KY.d4 (h : KY w g0 s t f l p g1 x g2 y W) : W.cell? ⟨g2, 4, none⟩ = some (.int .i64 y.th) := h.r.c4
theorem KY.d5 (h : KY w g0 s t f l p g1 x g2 y W) : W.cell? ⟨g2, 5, none⟩ = some (.int .u64 y.wd) := h.r.c5
theorem KY.d6 (h : KY w g0 s t f l p g1 x g2 y W) : W.cell? ⟨g2, 6, none⟩ = some (.slice y.A y.L.length y.cap) := h.r.c6
theorem KY.d7 (h : KY w g0 s t f l p g1 x g2 y W) : W.cell? ⟨g2, 7, none⟩ = some (.int .i64 y.ju) := h.r.c7
theorem KY.c0 (h : KY w g0 s t f l p g1 x g2 y W) : W.cell? ⟨g1, 0, none⟩ = some (.int .i64 x.s) := h.e.c0
theorem KY.c1 (h : KY w g0 s t f l p g1 x g2 y W) : W.cell? ⟨g1, 1, none⟩ = some (.int .i64 x.t) := h.e.c1
theorem KY.c2 (h : KY w g0 s t f l p g1 x g2 y W) : W.cell? ⟨g1, 2, none⟩ = some (.int .i64 x.f) := h.e.c2
theorem KY.c3 (h : KY w g0 s t f l p g1 x g2 y W) : W.cell? ⟨g1, 3, none⟩ = some (.int .i64 x.l) := h.e.c3
theorem KY.c4 (h : KY w g0 s t f l p g1 x g2 y W) : W.cell? ⟨g1, 4, none⟩ = some (.int .i64 x.p) := h.e.c4
theorem KY.c5 (h : KY w g0 s t f l p g1 x g2 y W) : W.cell? ⟨g1, 5, none⟩ = some (.int .i64 x.th) := h.e.c5
theorem KY.c6 (h : KY w g0 s t f l p g1 x g2 y W) : W.cell? ⟨g1, 6, none⟩ = some (.int .i64 x.st) := h.e.c6
theorem KY.c7 (h : KY w g0 s t f l p g1 x g2 y W) : W.cell? ⟨g1, 7, none⟩ = some (.int .i64 x.oc) := h.e.c7
theorem KY.c8 (h : KY w g0 s t f l p g1 x g2 y W) : W.cell? ⟨g1, 8, none⟩ = some (.int .u64 x.ep) := h.e.c8
theorem KY.c9 (h : KY w g0 s t f l p g1 x g2 y W) : W.cell? ⟨g1, 9, none⟩ = some (.int .i64 x.ot) := h.e.c9
theorem KY.c10 (h : KY w g0 s t f l p g1 x g2 y W) : W.cell? ⟨g1, 10, none⟩ = some (.int .u64 x.wd) := h.e.c10
theorem KY.c11 (h : KY w g0 s t f l p g1 x g2 y W) : W.cell? ⟨g1, 11, none⟩ = some (.int .u64 x.ev) := h.e.c11
theorem KY.c12 (h : KY w g0 s t f l p g1 x g2 y W) : W.cell? ⟨g1, 12, none⟩ = some (.int .u64 x.ju) := h.e.c12
end
end Go.Proofs.YthcmgagmbioofaaDoor
