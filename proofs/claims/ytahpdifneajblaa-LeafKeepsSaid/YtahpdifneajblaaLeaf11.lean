/- leaf.FromRight, leaf.FromLeft. -/
import Derived.Test.YtahpdifneajblaaLeaf10
namespace Go.Proofs.Ytahpdifneajblaa
set_option linter.unusedVariables false
open Go.RowKit
structure FS (w0 : World) (a b : Nd) (kb o kv : Nat) (W : World) : Prop where
  na : NC w0.heap.size a W
  nb : NC (w0.heap.size + 1) b W
  kc : W.cell? ⟨kb, o, none⟩ = some (.int .u64 (kv : Nat))
  kl : kb < w0.heap.size
  ra : NR w0 a
  rb : NR w0 b
  g1 : PT (w0.heap.size + 1 + 1) W
  g2 : PT (w0.heap.size + 1 + 1 + 1) W
  bl : Below w0.heap.size w0 W
section
variable {w0 : World} {a b : Nd} {kb o kv : Nat} {W W' : World}
theorem FS.xa (h : FS w0 a b kb o kv W) : NR W a := h.ra.next h.bl
theorem FS.xb (h : FS w0 a b kb o kv W) : NR W b := h.rb.next h.bl
theorem FS.next (h : FS w0 a b kb o kv W) (hn : Below W.heap.size W W') : FS w0 a b kb o kv W' :=
  ⟨h.na.next hn, h.nb.next hn, (hn.cell (p := ⟨kb, o, none⟩) (World.block_lt_of_cell? W _ h.kc)).trans h.kc, h.kl, h.ra, h.rb, h.g1.next hn, h.g2.next hn, h.bl.trans (hn.mono h.bl.size)⟩
theorem FS.set (h : FS w0 a b kb o kv W) {g i : Nat} (hg : w0.heap.size + 1 < g) (v : Value) : FS w0 a b kb o kv (W.setCell ⟨g, i, none⟩ v) := by
  have hk := h.kl
  exact ⟨h.na.set (by omega) v, h.nb.set (by omega) v, (World.cell?_setCell_other _ ⟨g, i, none⟩ ⟨kb, o, none⟩ v (by intro e; injection e with e1; omega)).trans h.kc, h.kl, h.ra, h.rb, h.g1.set _ _, h.g2.set _ _, h.bl.setCell (by show w0.heap.size ≤ g; omega) _⟩
theorem FS.put (h : FS w0 a b kb o kv W) {g : Nat} (hg : w0.heap.size + 1 < g) (u c d e : Value) : FS w0 a b kb o kv ((((W.setCell ⟨g, 0, none⟩ u).setCell ⟨g, 1, none⟩ c).setCell ⟨g, 2, none⟩ d).setCell ⟨g, 3, none⟩ e) := (((h.set hg u).set hg c).set hg d).set hg e
theorem FS.all (h : FS w0 a b kb o kv W) : W.cell? ⟨w0.heap.size, 0, none⟩ = some (.bool a.inner) ∧ W.cell? ⟨w0.heap.size, 1, none⟩ = some (.slice a.A1 a.ks.length a.c1) ∧ W.cell? ⟨w0.heap.size, 2, none⟩ = some (.slice a.A2 a.vs.length a.c2) ∧ W.cell? ⟨w0.heap.size, 3, none⟩ = some (.int .u64 (a.link : Nat)) ∧ W.cell? ⟨w0.heap.size + 1, 0, none⟩ = some (.bool b.inner) ∧ W.cell? ⟨w0.heap.size + 1, 1, none⟩ = some (.slice b.A1 b.ks.length b.c1) ∧ W.cell? ⟨w0.heap.size + 1, 2, none⟩ = some (.slice b.A2 b.vs.length b.c2) ∧ W.cell? ⟨w0.heap.size + 1, 3, none⟩ = some (.int .u64 (b.link : Nat)) ∧ W.cell? ⟨kb, o, none⟩ = some (.int .u64 (kv : Nat)) ∧ W.cell? ⟨w0.heap.size + 1 + 1, 0, none⟩ = some (oldV W ⟨w0.heap.size + 1 + 1, 0, none⟩) ∧ W.cell? ⟨w0.heap.size + 1 + 1, 1, none⟩ = some (oldV W ⟨w0.heap.size + 1 + 1, 1, none⟩) ∧ W.cell? ⟨w0.heap.size + 1 + 1, 2, none⟩ = some (oldV W ⟨w0.heap.size + 1 + 1, 2, none⟩) ∧ W.cell? ⟨w0.heap.size + 1 + 1, 3, none⟩ = some (oldV W ⟨w0.heap.size + 1 + 1, 3, none⟩) ∧ W.cell? ⟨w0.heap.size + 1 + 1 + 1, 0, none⟩ = some (oldV W ⟨w0.heap.size + 1 + 1 + 1, 0, none⟩) ∧ W.cell? ⟨w0.heap.size + 1 + 1 + 1, 1, none⟩ = some (oldV W ⟨w0.heap.size + 1 + 1 + 1, 1, none⟩) ∧ W.cell? ⟨w0.heap.size + 1 + 1 + 1, 2, none⟩ = some (oldV W ⟨w0.heap.size + 1 + 1 + 1, 2, none⟩) ∧ W.cell? ⟨w0.heap.size + 1 + 1 + 1, 3, none⟩ = some (oldV W ⟨w0.heap.size + 1 + 1 + 1, 3, none⟩) ∧ (∀ i, W.frozen? ⟨w0.heap.size + 1 + 1, i, none⟩ = false) ∧ (∀ i, W.frozen? ⟨w0.heap.size + 1 + 1 + 1, i, none⟩ = false) ∧ FS w0 a b kb o kv W :=
  ⟨h.na.c0, h.na.c1, h.na.c2, h.na.c3, h.nb.c0, h.nb.c1, h.nb.c2, h.nb.c3, h.kc, h.g1.c 0 (by omega), h.g1.c 1 (by omega), h.g1.c 2 (by omega), h.g1.c 3 (by omega), h.g2.c 0 (by omega), h.g2.c 1 (by omega), h.g2.c 2 (by omega), h.g2.c 3 (by omega), h.g1.fz, h.g2.fz, h⟩
theorem FS.of (h : W.cell? ⟨w0.heap.size, 0, none⟩ = some (.bool a.inner) ∧ W.cell? ⟨w0.heap.size, 1, none⟩ = some (.slice a.A1 a.ks.length a.c1) ∧ W.cell? ⟨w0.heap.size, 2, none⟩ = some (.slice a.A2 a.vs.length a.c2) ∧ W.cell? ⟨w0.heap.size, 3, none⟩ = some (.int .u64 (a.link : Nat)) ∧ W.cell? ⟨w0.heap.size + 1, 0, none⟩ = some (.bool b.inner) ∧ W.cell? ⟨w0.heap.size + 1, 1, none⟩ = some (.slice b.A1 b.ks.length b.c1) ∧ W.cell? ⟨w0.heap.size + 1, 2, none⟩ = some (.slice b.A2 b.vs.length b.c2) ∧ W.cell? ⟨w0.heap.size + 1, 3, none⟩ = some (.int .u64 (b.link : Nat)) ∧ W.cell? ⟨kb, o, none⟩ = some (.int .u64 (kv : Nat)) ∧ W.cell? ⟨w0.heap.size + 1 + 1, 0, none⟩ = some (oldV W ⟨w0.heap.size + 1 + 1, 0, none⟩) ∧ W.cell? ⟨w0.heap.size + 1 + 1, 1, none⟩ = some (oldV W ⟨w0.heap.size + 1 + 1, 1, none⟩) ∧ W.cell? ⟨w0.heap.size + 1 + 1, 2, none⟩ = some (oldV W ⟨w0.heap.size + 1 + 1, 2, none⟩) ∧ W.cell? ⟨w0.heap.size + 1 + 1, 3, none⟩ = some (oldV W ⟨w0.heap.size + 1 + 1, 3, none⟩) ∧ W.cell? ⟨w0.heap.size + 1 + 1 + 1, 0, none⟩ = some (oldV W ⟨w0.heap.size + 1 + 1 + 1, 0, none⟩) ∧ W.cell? ⟨w0.heap.size + 1 + 1 + 1, 1, none⟩ = some (oldV W ⟨w0.heap.size + 1 + 1 + 1, 1, none⟩) ∧ W.cell? ⟨w0.heap.size + 1 + 1 + 1, 2, none⟩ = some (oldV W ⟨w0.heap.size + 1 + 1 + 1, 2, none⟩) ∧ W.cell? ⟨w0.heap.size + 1 + 1 + 1, 3, none⟩ = some (oldV W ⟨w0.heap.size + 1 + 1 + 1, 3, none⟩) ∧ (∀ i, W.frozen? ⟨w0.heap.size + 1 + 1, i, none⟩ = false) ∧ (∀ i, W.frozen? ⟨w0.heap.size + 1 + 1 + 1, i, none⟩ = false) ∧ FS w0 a b kb o kv W) : FS w0 a b kb o kv W := h.2.2.2.2.2.2.2.2.2.2.2.2.2.2.2.2.2.2.2
theorem FS.start (w : World) (a b : Nd) (ha : NR w a) (hb : NR w b) (kl : kb < w.heap.size) (kc : w.cell? ⟨kb, o, none⟩ = some (.int .u64 (kv : Nat))) : FS w a b kb o kv ((((w.alloc (ndRow a)).alloc (ndRow b)).alloc (ndRow Nd.zero)).alloc (ndRow Nd.zero)) := by
  have f3 := F3.start w a b ha hb
  have f4 := f3.next (nl1 _ (ndRow Nd.zero))
  have p1 := (PT.alloc ((w.alloc (ndRow a)).alloc (ndRow b)) Nd.zero).next (nl1 _ (ndRow Nd.zero))
  have p2 := PT.alloc (((w.alloc (ndRow a)).alloc (ndRow b)).alloc (ndRow Nd.zero)) Nd.zero
  simp only [World.size_alloc] at p1 p2
  exact ⟨f4.na, f4.nb, (f4.bl.cell (p := ⟨kb, o, none⟩) kl).trans kc, kl, ha, hb, p1, p2, f4.bl⟩
end
theorem cutL_le (us : List Nat) (f t : Nat) : (cutL us f t).length ≤ us.length := by
  show ((us.drop f).take (t - f)).length ≤ _
  rw [List.length_take, List.length_drop]; omega
theorem part_lit (x : Nd) (W : World) (hx : NR W x) (h1 : 1 ≤ x.ks.length) (h2 : 1 ≤ x.vs.length) :
    Calls Try.prog 28 #[ndV x, .int .i64 0, .int .i64 1] W fun e w' => (∃ p : Nd, RowKit.Hid (p = x.part 0 1) ∧ e = .returned (ndV p)) ∧ Below W.heap.size W w' := part_ex x 0 1 (by omega) h1 h2 W hx
theorem part_lit1 (x : Nd) (t : Nat) (W : World) (hx : NR W x) (h0 : 1 ≤ t) (h1 : t ≤ x.ks.length) (h2 : t ≤ x.vs.length) :
    Calls Try.prog 28 #[ndV x, .int .i64 1, .int .i64 t] W fun e w' => (∃ p : Nd, RowKit.Hid (p = x.part 1 t) ∧ e = .returned (ndV p)) ∧ Below W.heap.size W w' := part_ex x 1 t h0 h1 h2 W hx

set_option maxHeartbeats 2000000 in
theorem fromRight_no (a b : Nd) (l1 : a.ks.length ≤ 500) (l2 : a.vs.length ≤ 500) (l3 : b.ks.length ≤ 500) (l4 : b.vs.length ≤ 500) (hno : ¬ (folP a b ∧ 2 ≤ b.ks.length)) (W : World) (ha : NR W a) (hb : NR W b) :
    Calls Try.prog 22 #[ndV a, ndV b] W fun e w' => e = .returned (.tuple #[ndV Nd.zero, ndV Nd.zero, .int .u64 0]) ∧ Below W.heap.size W w' := by
  obtain ⟨r, hr⟩ : ∃ r : Bool, r = true ↔ folP a b := by
    by_cases h : folP a b
    · exact ⟨true, by simp [h]⟩
    · exact ⟨false, by simp [h]⟩
  have K := Lib.hid ((F3.start W a b ha hb).next (nl1 _ (ndRow Nd.zero)))
  have Y0 := NC.alloc (((W.alloc (ndRow a)).alloc (ndRow b)).alloc (ndRow Nd.zero)) Nd.zero
  simp only [World.size_alloc] at Y0
  have Y := Lib.hid Y0
  have FL := Lib.hid (fun W' h h' => follow_any a b (by omega) (by omega) (by omega) (by omega) r hr W' h h')
  have hl2 : r = true → (b.ks.length : Int) < 2 := fun h => by have hk : ¬ 2 ≤ b.ks.length := fun k => hno ⟨hr.1 h, k⟩; omega
  have HL2 := Lib.hid hl2
  clear ha hb hr hno hl2 Y0
  cases r with
  | true =>
    have hlt := HL2.out rfl
    have hd : decide ((b.ks.length : Int) < 2) = true := by simpa using hlt
    go_enter Try.func22, Try.ntmps22
    go_wp2_with (go_at_call 31; refine (FL.out _ K.out.ra K.out.rb).mono ?_; rintro e w1 ⟨rfl, hn⟩; have K1 := Lib.hid (K.out.next hn); have Y1 := Y.out.next hn; clear hn; have c1' := K1.out.nb.c1; have z0 := K1.out.z.c0; have z1 := K1.out.z.c1; have z2 := K1.out.z.c2; have z3 := K1.out.z.c3; have fz := K1.out.z.fz; have y0 := Y1.c0; have y1 := Y1.c1; have y2 := Y1.c2; have y3 := Y1.c3; have fy := Y1.fz; clear Y1)
    exact bodyPost_ret (v := .tuple #[ndV Nd.zero, ndV Nd.zero, .int .u64 0]) (by simp [results, Try.results22, go_sem, z0, z1, z2, z3, y0, y1, y2, y3]) rfl ⟨rfl, below_put4 (below_put4 K1.out.bl (by omega) _ _ _ _) (by omega) _ _ _ _⟩
  | false =>
    go_enter Try.func22, Try.ntmps22
    go_wp2_with (go_at_call 31; refine (FL.out _ K.out.ra K.out.rb).mono ?_; rintro e w1 ⟨rfl, hn⟩; have K1 := Lib.hid (K.out.next hn); have Y1 := Y.out.next hn; clear hn; have z0 := K1.out.z.c0; have z1 := K1.out.z.c1; have z2 := K1.out.z.c2; have z3 := K1.out.z.c3; have fz := K1.out.z.fz; have y0 := Y1.c0; have y1 := Y1.c1; have y2 := Y1.c2; have y3 := Y1.c3; have fy := Y1.fz; clear Y1)
    exact bodyPost_ret (v := .tuple #[ndV Nd.zero, ndV Nd.zero, .int .u64 0]) (by simp [results, Try.results22, go_sem, z0, z1, z2, z3, y0, y1, y2, y3]) rfl ⟨rfl, below_put4 (below_put4 K1.out.bl (by omega) _ _ _ _) (by omega) _ _ _ _⟩
set_option maxHeartbeats 2000000 in
theorem fromRight_yes (a b : Nd) (l1 : a.ks.length ≤ 500) (l2 : a.vs.length ≤ 500) (l3 : b.ks.length ≤ 500) (l4 : b.vs.length ≤ 500) (hr : folP a b) (h2 : 2 ≤ b.ks.length) (W : World) (ha : NR W a) (hb : NR W b) :
    Calls Try.prog 22 #[ndV a, ndV b] W fun e w' => ∃ y z : Nd, e = .returned (.tuple #[ndV y, ndV z, .int .u64 ((b.ks.getD 1 0 : Nat))]) ∧ Below W.heap.size W w' ∧ ON W.heap.size y w' ∧ ON W.heap.size z w' ∧ y.inner = false ∧ z.inner = false ∧ y.link = a.link ∧ z.link = b.link ∧
      y.ks = a.ks ++ cutL b.ks 0 1 ∧ y.vs = a.vs ++ cutL b.vs 0 1 ∧ z.ks = cutL b.ks 1 b.ks.length ∧ z.vs = cutL b.vs 1 b.ks.length := by
  have FL := Lib.hid (fun W' h h' => follow_any a b (by omega) (by omega) (by omega) (by omega) true (by simp [hr]) W' h h')
  have hv := hr.2.1.2.1
  obtain ⟨kb, o, hA, hk⟩ := hb.at1 1 (by omega)
  have P1 := Lib.hid (fun W' h => part_lit b W' h (by omega) (by omega))
  have P2 := Lib.hid (fun W' h => part_lit1 b b.ks.length W' h (by omega) (by omega) (by omega))
  generalize hkv : b.ks.getD 1 0 = kv at hk ⊢
  have hkl := World.block_lt_of_cell? W _ hk
  obtain ⟨inner, ks, vs, lk, A1, c1, A2, c2⟩ := b
  simp only at hA hk l3 l4 hv h2
  subst hA
  have HS := Lib.hid (FS.start W a ⟨inner, ks, vs, lk, some ⟨kb, o, none⟩, c1, A2, c2⟩ ha hb hkl hk)
  have AB := Lib.hid (And.intro ha hb)
  have LL := Lib.hid (And.intro l1 (And.intro l2 (And.intro l3 l4)))
  have HV := Lib.hid (And.intro hv h2)
  have hmx : ks.length ≤ maxLen := by unfold maxLen; omega
  have hnn : (2 : Int) ≤ (ks.length : Int) := by omega
  have h1n : (1 : Int) < (ks.length : Int) := by omega
  have hnd : decide ((ks.length : Int) < 2) = false := by simp; omega
  clear ha hb hr hk hkl hkv hv h2
  go_enter Try.func22, Try.ntmps22
  go_wp2_with (go_at_call 31; refine (FL.out _ HS.out.xa HS.out.xb).mono ?_; rintro e w1 ⟨rfl, hn⟩; clear FL; have S1 := Lib.hid (HS.out.next hn); clear hn HS; have c1' := S1.out.nb.c1)
  have hs := FS.all (S1.out.next (Below.refl _ _).drew)
  have QL := Lib.hid (fun (p : Nd) (f t : Nat) (hp : p = (⟨inner, ks, vs, lk, some ⟨kb, o, none⟩, c1, A2, c2⟩ : Nd).part f t) => part_len _ f t p hp (by have := LL.out; show ks.length ≤ _; omega) (by have := LL.out; show vs.length ≤ _; omega))
  have QM := Lib.hid (fun (p : Nd) (hp : p = (⟨inner, ks, vs, lk, some ⟨kb, o, none⟩, c1, A2, c2⟩ : Nd).part 0 1 ∨ p = (⟨inner, ks, vs, lk, some ⟨kb, o, none⟩, c1, A2, c2⟩ : Nd).part 1 ks.length) => show p.ks.length ≤ 500 ∧ p.vs.length ≤ 500 by
    have := LL.out
    have h1 : ks.length ≤ 500 := by omega
    have h2 : vs.length ≤ 500 := by omega
    rcases hp with rfl | rfl
    · exact ⟨Nat.le_trans (cutL_le _ _ _) h1, Nat.le_trans (cutL_le _ _ _) h2⟩
    · exact ⟨Nat.le_trans (cutL_le _ _ _) h1, Nat.le_trans (cutL_le _ _ _) h2⟩)
  have ap1 := Lib.hid (fun p (hp : p = (⟨inner, ks, vs, lk, some ⟨kb, o, none⟩, c1, A2, c2⟩ : Nd).part 0 1) W' (h : NR W' ⟨inner, ks, vs, lk, some ⟨kb, o, none⟩, c1, A2, c2⟩) => NR.of_part hp h (by have := HV.out; omega) (by have := HV.out; show 1 ≤ ks.length; omega) (by have := HV.out; show 1 ≤ vs.length; omega))
  have ap2 := Lib.hid (fun p (hp : p = (⟨inner, ks, vs, lk, some ⟨kb, o, none⟩, c1, A2, c2⟩ : Nd).part 1 ks.length) W' (h : NR W' ⟨inner, ks, vs, lk, some ⟨kb, o, none⟩, c1, A2, c2⟩) => NR.of_part hp h (by have := HV.out; omega) (by have := HV.out; show ks.length ≤ ks.length; omega) (by have := HV.out; show ks.length ≤ vs.length; omega))
  have t1 : True := trivial
  have t2 : True := trivial
  have t3 : True := trivial
  have t4 : True := trivial
  clear c1'
  go_region_held3 (fun w' => w'.cell? ⟨W.heap.size, 0, none⟩ = some (.bool a.inner) ∧ w'.cell? ⟨W.heap.size, 1, none⟩ = some (.slice a.A1 a.ks.length a.c1) ∧ w'.cell? ⟨W.heap.size, 2, none⟩ = some (.slice a.A2 a.vs.length a.c2) ∧ w'.cell? ⟨W.heap.size, 3, none⟩ = some (.int .u64 (a.link : Nat)) ∧ w'.cell? ⟨W.heap.size + 1, 0, none⟩ = some (.bool inner) ∧ w'.cell? ⟨W.heap.size + 1, 1, none⟩ = some (.slice (some ⟨kb, o, none⟩) ks.length c1) ∧ w'.cell? ⟨W.heap.size + 1, 2, none⟩ = some (.slice A2 vs.length c2) ∧ w'.cell? ⟨W.heap.size + 1, 3, none⟩ = some (.int .u64 (lk : Nat)) ∧ w'.cell? ⟨kb, o + 1, none⟩ = some (.int .u64 (kv : Nat)) ∧ w'.cell? ⟨W.heap.size + 1 + 1, 0, none⟩ = some (oldV w' ⟨W.heap.size + 1 + 1, 0, none⟩) ∧ w'.cell? ⟨W.heap.size + 1 + 1, 1, none⟩ = some (oldV w' ⟨W.heap.size + 1 + 1, 1, none⟩) ∧ w'.cell? ⟨W.heap.size + 1 + 1, 2, none⟩ = some (oldV w' ⟨W.heap.size + 1 + 1, 2, none⟩) ∧ w'.cell? ⟨W.heap.size + 1 + 1, 3, none⟩ = some (oldV w' ⟨W.heap.size + 1 + 1, 3, none⟩) ∧ w'.cell? ⟨W.heap.size + 1 + 1 + 1, 0, none⟩ = some (oldV w' ⟨W.heap.size + 1 + 1 + 1, 0, none⟩) ∧ w'.cell? ⟨W.heap.size + 1 + 1 + 1, 1, none⟩ = some (oldV w' ⟨W.heap.size + 1 + 1 + 1, 1, none⟩) ∧ w'.cell? ⟨W.heap.size + 1 + 1 + 1, 2, none⟩ = some (oldV w' ⟨W.heap.size + 1 + 1 + 1, 2, none⟩) ∧ w'.cell? ⟨W.heap.size + 1 + 1 + 1, 3, none⟩ = some (oldV w' ⟨W.heap.size + 1 + 1 + 1, 3, none⟩) ∧ (∀ i, w'.frozen? ⟨W.heap.size + 1 + 1, i, none⟩ = false) ∧ (∀ i, w'.frozen? ⟨W.heap.size + 1 + 1 + 1, i, none⟩ = false) ∧ FS W a ⟨inner, ks, vs, lk, some ⟨kb, o, none⟩, c1, A2, c2⟩ kb (o + 1) kv w') (first | with_reducible exact hs | with_reducible exact FS.all (FS.put (FS.of (w0 := W) (a := a) (b := ⟨inner, ks, vs, lk, some ⟨kb, o, none⟩, c1, A2, c2⟩) (kb := kb) (o := o + 1) (kv := kv) (by assumption)) (by omega) _ _ _ _) | with_reducible exact FS.all (FS.next (FS.of (w0 := W) (a := a) (b := ⟨inner, ks, vs, lk, some ⟨kb, o, none⟩, c1, A2, c2⟩) (kb := kb) (o := o + 1) (kv := kv) (by assumption)) (nl1 _ _)))
    (first
      | (go_at_call 28; have _t := t1; refine (P1.out _ (FS.of (w0 := W) (a := a) (b := ⟨inner, ks, vs, lk, some ⟨kb, o, none⟩, c1, A2, c2⟩) (kb := kb) (o := o + 1) (kv := kv) (by assumption)).xb).mono ?_; rintro e k1 ⟨⟨p1, hp1, rfl⟩, hn⟩; clear t1; have hs := FS.all ((FS.of (w0 := W) (a := a) (b := ⟨inner, ks, vs, lk, some ⟨kb, o, none⟩, c1, A2, c2⟩) (kb := kb) (o := o + 1) (kv := kv) (by assumption)).next hn); have hz1 := Lib.hid (FS.of (w0 := W) (a := a) (b := ⟨inner, ks, vs, lk, some ⟨kb, o, none⟩, c1, A2, c2⟩) (kb := kb) (o := o + 1) (kv := kv) hs).g2.lt; have S3 := Lib.hid (FS.of (w0 := W) (a := a) (b := ⟨inner, ks, vs, lk, some ⟨kb, o, none⟩, c1, A2, c2⟩) (kb := kb) (o := o + 1) (kv := kv) hs); clear hn)
      | (go_at_call 28; have _t := t3; refine (P2.out _ (FS.of (w0 := W) (a := a) (b := ⟨inner, ks, vs, lk, some ⟨kb, o, none⟩, c1, A2, c2⟩) (kb := kb) (o := o + 1) (kv := kv) (by assumption)).xb).mono ?_; rintro e k3 ⟨⟨p2, hp2, rfl⟩, hn⟩; clear t3; have hs := FS.all ((FS.of (w0 := W) (a := a) (b := ⟨inner, ks, vs, lk, some ⟨kb, o, none⟩, c1, A2, c2⟩) (kb := kb) (o := o + 1) (kv := kv) (by assumption)).next hn); have hz3 := Lib.hid (FS.of (w0 := W) (a := a) (b := ⟨inner, ks, vs, lk, some ⟨kb, o, none⟩, c1, A2, c2⟩) (kb := kb) (o := o + 1) (kv := kv) hs).g2.lt; have S4 := Lib.hid (FS.of (w0 := W) (a := a) (b := ⟨inner, ks, vs, lk, some ⟨kb, o, none⟩, c1, A2, c2⟩) (kb := kb) (o := o + 1) (kv := kv) hs); have o2 := o1.next hn; clear hn)
      | (go_at_call 27; have _t := t2; refine (glued_two a.link a p1 _ (by have := LL.out; omega) (by have := LL.out; omega) (Nat.le_trans (QM.out p1 (.inl hp1.out)).1 (by omega)) (Nat.le_trans (QM.out p1 (.inl hp1.out)).2 (by omega)) k1 S3.out.xa (ap1.out p1 hp1.out _ S3.out.xb)).mono ?_; rintro e kx ⟨y1, rfl, e1, e2, e3, e4, o1, hn0⟩; clear t2; have hn := hn0; have E1 := Lib.hid (And.intro e1 (And.intro e2 (And.intro e3 e4))); have hs := FS.all (S3.out.next hn); clear hn e1 e2 e3 e4)
      | (go_at_call 27; have _t := t4; refine (glued_one lk p2 _ _ (QL.out p2 _ _ hp2.out).1 (QL.out p2 _ _ hp2.out).2 _ (NB.of1 (ap2.out p2 hp2.out _ (FS.of (w0 := W) (a := a) (b := ⟨inner, ks, vs, lk, some ⟨kb, o, none⟩, c1, A2, c2⟩) (kb := kb) (o := o + 1) (kv := kv) (by assumption)).xb))).mono ?_; rintro e kw ⟨y2, rfl, e1, e2, e3, e4, o3, hn⟩; clear t4; have E2 := Lib.hid (And.intro e1 (And.intro e2 (And.intro e3 e4))); have hs := FS.all ((FS.of (w0 := W) (a := a) (b := ⟨inner, ks, vs, lk, some ⟨kb, o, none⟩, c1, A2, c2⟩) (kb := kb) (o := o + 1) (kv := kv) (by assumption)).next hn); have o4 := (o2.next (nl1 _ _)).next hn; clear hn e1 e2 e3 e4))
  all_goals (
    have S5 := Lib.hid (FS.of (w0 := W) (a := a) (b := ⟨inner, ks, vs, lk, some ⟨kb, o, none⟩, c1, A2, c2⟩) (kb := kb) (o := o + 1) (kv := kv) hs)
    obtain ⟨-, -, -, -, -, -, -, -, -, z0, z1, z2, z3, y0, y1', y2', y3, fz, fy, -⟩ := hs
    go_wp2
    have q1 := hz1.out
    have q3 := hz3.out
    exact bodyPost_ret (v := .tuple #[ndV y1, ndV y2, .int .u64 (kv : Nat)]) (by simp [results, Try.results22, go_sem, z0, z1, z2, z3, y0, y1', y2', y3]) rfl ⟨y1, y2, rfl, below_put4 (below_put4 S5.out.bl (by omega) _ _ _ _) (by omega) _ _ _ _, ((o4.put (by first | omega | (simp; omega)) _ _ _ _).put (by first | omega | (simp; omega)) _ _ _ _).le (by first | omega | (simp; omega)), ((o3.put (by first | omega | (simp; omega)) _ _ _ _).put (by first | omega | (simp; omega)) _ _ _ _).le (by first | omega | (simp; omega)), E1.out.1, E2.out.1, E1.out.2.1, E2.out.2.1, E1.out.2.2.1.trans (by rw [hp1.out]), E1.out.2.2.2.trans (by rw [hp1.out]), E2.out.2.2.1.trans (by rw [hp2.out]), E2.out.2.2.2.trans (by rw [hp2.out])⟩)

set_option maxHeartbeats 2000000 in
theorem fromLeft_no (a b : Nd) (l1 : a.ks.length ≤ 500) (l2 : a.vs.length ≤ 500) (l3 : b.ks.length ≤ 500) (l4 : b.vs.length ≤ 500) (hno : ¬ (folP a b ∧ 1 ≤ a.ks.length)) (W : World) (ha : NR W a) (hb : NR W b) :
    Calls Try.prog 23 #[ndV a, ndV b] W fun e w' => e = .returned (.tuple #[ndV Nd.zero, ndV Nd.zero, .int .u64 0]) ∧ Below W.heap.size W w' := by
  obtain ⟨r, hr⟩ : ∃ r : Bool, r = true ↔ folP a b := by
    by_cases h : folP a b
    · exact ⟨true, by simp [h]⟩
    · exact ⟨false, by simp [h]⟩
  have K := Lib.hid ((F3.start W a b ha hb).next (nl1 _ (ndRow Nd.zero)))
  have Y0 := NC.alloc (((W.alloc (ndRow a)).alloc (ndRow b)).alloc (ndRow Nd.zero)) Nd.zero
  simp only [World.size_alloc] at Y0
  have Y := Lib.hid Y0
  have FL := Lib.hid (fun W' h h' => follow_any a b (by omega) (by omega) (by omega) (by omega) r hr W' h h')
  have hl2 : r = true → (a.ks.length : Int) < 1 := fun h => by have hk : ¬ 1 ≤ a.ks.length := fun k => hno ⟨hr.1 h, k⟩; omega
  have HL2 := Lib.hid hl2
  clear ha hb hr hno hl2 Y0
  cases r with
  | true =>
    have hlt := HL2.out rfl
    have hd : decide ((a.ks.length : Int) < 1) = true := by simpa using hlt
    go_enter Try.func23, Try.ntmps23
    go_wp2_with (go_at_call 31; refine (FL.out _ K.out.ra K.out.rb).mono ?_; rintro e w1 ⟨rfl, hn⟩; have K1 := Lib.hid (K.out.next hn); have Y1 := Y.out.next hn; clear hn; have c1' := K1.out.na.c1; have z0 := K1.out.z.c0; have z1 := K1.out.z.c1; have z2 := K1.out.z.c2; have z3 := K1.out.z.c3; have fz := K1.out.z.fz; have y0 := Y1.c0; have y1 := Y1.c1; have y2 := Y1.c2; have y3 := Y1.c3; have fy := Y1.fz; clear Y1)
    exact bodyPost_ret (v := .tuple #[ndV Nd.zero, ndV Nd.zero, .int .u64 0]) (by simp [results, Try.results23, go_sem, z0, z1, z2, z3, y0, y1, y2, y3]) rfl ⟨rfl, below_put4 (below_put4 K1.out.bl (by omega) _ _ _ _) (by omega) _ _ _ _⟩
  | false =>
    go_enter Try.func23, Try.ntmps23
    go_wp2_with (go_at_call 31; refine (FL.out _ K.out.ra K.out.rb).mono ?_; rintro e w1 ⟨rfl, hn⟩; have K1 := Lib.hid (K.out.next hn); have Y1 := Y.out.next hn; clear hn; have z0 := K1.out.z.c0; have z1 := K1.out.z.c1; have z2 := K1.out.z.c2; have z3 := K1.out.z.c3; have fz := K1.out.z.fz; have y0 := Y1.c0; have y1 := Y1.c1; have y2 := Y1.c2; have y3 := Y1.c3; have fy := Y1.fz; clear Y1)
    exact bodyPost_ret (v := .tuple #[ndV Nd.zero, ndV Nd.zero, .int .u64 0]) (by simp [results, Try.results23, go_sem, z0, z1, z2, z3, y0, y1, y2, y3]) rfl ⟨rfl, below_put4 (below_put4 K1.out.bl (by omega) _ _ _ _) (by omega) _ _ _ _⟩
set_option maxHeartbeats 2000000 in
theorem fromLeft_yes (a b : Nd) (l1 : a.ks.length ≤ 500) (l2 : a.vs.length ≤ 500) (l3 : b.ks.length ≤ 500) (l4 : b.vs.length ≤ 500) (hr : folP a b) (h2 : 1 ≤ a.ks.length) (W : World) (ha : NR W a) (hb : NR W b) :
    Calls Try.prog 23 #[ndV a, ndV b] W fun e w' => ∃ y z : Nd, e = .returned (.tuple #[ndV y, ndV z, .int .u64 ((a.ks.getD (a.ks.length - 1) 0 : Nat))]) ∧ Below W.heap.size W w' ∧ ON W.heap.size y w' ∧ ON W.heap.size z w' ∧ y.inner = false ∧ z.inner = false ∧ y.link = a.link ∧ z.link = b.link ∧
      y.ks = cutL a.ks 0 (a.ks.length - 1) ∧ y.vs = cutL a.vs 0 (a.ks.length - 1) ∧ z.ks = cutL a.ks (a.ks.length - 1) a.ks.length ++ b.ks ∧ z.vs = cutL a.vs (a.ks.length - 1) a.ks.length ++ b.vs := by
  have FL := Lib.hid (fun W' h h' => follow_any a b (by omega) (by omega) (by omega) (by omega) true (by simp [hr]) W' h h')
  have hv := hr.1.2.1
  obtain ⟨kb, o, hA, hk⟩ := ha.at1 (a.ks.length - 1) (by omega)
  have P1 := Lib.hid (fun W' h => part_ex0 a (a.ks.length - 1) (by omega) (by omega) W' h)
  have P2 := Lib.hid (fun W' h => part_ex a (a.ks.length - 1) a.ks.length (by omega) (by omega) (by omega) W' h)
  generalize hat : a.ks.length - 1 = at0 at hk P1 P2 ⊢
  have hati : (at0 : Int) < (a.ks.length : Int) := by omega
  have hati0 : (0 : Int) ≤ (at0 : Int) := by omega
  have hw1 : RowKit.wrap64 ((a.ks.length : Int) - 1) = (at0 : Int) := by rw [IntWalk.wrap64_in _ ⟨by omega, by omega⟩]; omega
  have hw2 : RowKit.wrap64 ((at0 : Int) + 1) = (a.ks.length : Int) := by rw [IntWalk.wrap64_in _ ⟨by omega, by omega⟩]; omega
  have hw3 : (a.ks.length : Int) - 1 = (at0 : Int) := by omega
  have hw4 : (at0 : Int) + 1 = (a.ks.length : Int) := by omega
  generalize hkv : a.ks.getD at0 0 = kv at hk ⊢
  have P3 := Lib.hid (fun W' (h : NR W' a) => (show Calls Try.prog 28 #[ndV a, .int .i64 at0, .int .i64 (IntKind.i64.wrap (a.ks.length : Int))] W' (fun e w' => (∃ p : Nd, RowKit.Hid (p = a.part at0 a.ks.length) ∧ e = .returned (ndV p)) ∧ Below W'.heap.size W' w') by rw [IntWalk.i64_in _ ⟨by omega, by omega⟩]; exact P2.out W' h))
  have hkl := World.block_lt_of_cell? W _ hk
  obtain ⟨inner, ks, vs, lk, A1, c1, A2, c2⟩ := a
  simp only at hA hk l1 l2 hv h2 hat hati hw1 hw2 hw3 hw4
  subst hA
  have HS := Lib.hid (FS.start W ⟨inner, ks, vs, lk, some ⟨kb, o, none⟩, c1, A2, c2⟩ b ha hb hkl hk)
  have AB := Lib.hid (And.intro ha hb)
  have LL := Lib.hid (And.intro l1 (And.intro l2 (And.intro l3 l4)))
  have HV := Lib.hid (And.intro hv h2)
  have hmx : ks.length ≤ maxLen := by unfold maxLen; omega
  have hnn : (1 : Int) ≤ (ks.length : Int) := by omega
  have h1n : (1 : Int) ≤ (ks.length : Int) := by omega
  have hnd : decide ((ks.length : Int) < 1) = false := by simp; omega
  clear ha hb hr hk hkl hkv hv h2 hat
  go_enter Try.func23, Try.ntmps23
  go_wp2_with (go_at_call 31; refine (FL.out _ HS.out.xa HS.out.xb).mono ?_; rintro e w1 ⟨rfl, hn⟩; clear FL; have S1 := Lib.hid (HS.out.next hn); clear hn HS; have c1' := S1.out.na.c1)
  have hs := FS.all (S1.out.next (Below.refl _ _).drew)
  have QL := Lib.hid (fun (p : Nd) (f t : Nat) (hp : p = (⟨inner, ks, vs, lk, some ⟨kb, o, none⟩, c1, A2, c2⟩ : Nd).part f t) => part_len _ f t p hp (by have := LL.out; show ks.length ≤ _; omega) (by have := LL.out; show vs.length ≤ _; omega))
  have QM := Lib.hid (fun (p : Nd) (hp : p = (⟨inner, ks, vs, lk, some ⟨kb, o, none⟩, c1, A2, c2⟩ : Nd).part 0 at0 ∨ p = (⟨inner, ks, vs, lk, some ⟨kb, o, none⟩, c1, A2, c2⟩ : Nd).part at0 ks.length) => show p.ks.length ≤ 500 ∧ p.vs.length ≤ 500 by
    have := LL.out
    have h1 : ks.length ≤ 500 := by omega
    have h2 : vs.length ≤ 500 := by omega
    rcases hp with rfl | rfl
    · exact ⟨Nat.le_trans (cutL_le _ _ _) h1, Nat.le_trans (cutL_le _ _ _) h2⟩
    · exact ⟨Nat.le_trans (cutL_le _ _ _) h1, Nat.le_trans (cutL_le _ _ _) h2⟩)
  have ap1 := Lib.hid (fun p (hp : p = (⟨inner, ks, vs, lk, some ⟨kb, o, none⟩, c1, A2, c2⟩ : Nd).part 0 at0) W' (h : NR W' ⟨inner, ks, vs, lk, some ⟨kb, o, none⟩, c1, A2, c2⟩) => NR.of_part hp h (by have := HV.out; omega) (by have := HV.out; show at0 ≤ ks.length; omega) (by have := HV.out; show at0 ≤ vs.length; omega))
  have ap2 := Lib.hid (fun p (hp : p = (⟨inner, ks, vs, lk, some ⟨kb, o, none⟩, c1, A2, c2⟩ : Nd).part at0 ks.length) W' (h : NR W' ⟨inner, ks, vs, lk, some ⟨kb, o, none⟩, c1, A2, c2⟩) => NR.of_part hp h (by have := HV.out; omega) (by have := HV.out; show ks.length ≤ ks.length; omega) (by have := HV.out; show ks.length ≤ vs.length; omega))
  have t1 : True := trivial
  have t2 : True := trivial
  have t3 : True := trivial
  have t4 : True := trivial
  clear c1'
  go_region_held3 (fun w' => w'.cell? ⟨W.heap.size, 0, none⟩ = some (.bool inner) ∧ w'.cell? ⟨W.heap.size, 1, none⟩ = some (.slice (some ⟨kb, o, none⟩) ks.length c1) ∧ w'.cell? ⟨W.heap.size, 2, none⟩ = some (.slice A2 vs.length c2) ∧ w'.cell? ⟨W.heap.size, 3, none⟩ = some (.int .u64 (lk : Nat)) ∧ w'.cell? ⟨W.heap.size + 1, 0, none⟩ = some (.bool b.inner) ∧ w'.cell? ⟨W.heap.size + 1, 1, none⟩ = some (.slice b.A1 b.ks.length b.c1) ∧ w'.cell? ⟨W.heap.size + 1, 2, none⟩ = some (.slice b.A2 b.vs.length b.c2) ∧ w'.cell? ⟨W.heap.size + 1, 3, none⟩ = some (.int .u64 (b.link : Nat)) ∧ w'.cell? ⟨kb, o + at0, none⟩ = some (.int .u64 (kv : Nat)) ∧ w'.cell? ⟨W.heap.size + 1 + 1, 0, none⟩ = some (oldV w' ⟨W.heap.size + 1 + 1, 0, none⟩) ∧ w'.cell? ⟨W.heap.size + 1 + 1, 1, none⟩ = some (oldV w' ⟨W.heap.size + 1 + 1, 1, none⟩) ∧ w'.cell? ⟨W.heap.size + 1 + 1, 2, none⟩ = some (oldV w' ⟨W.heap.size + 1 + 1, 2, none⟩) ∧ w'.cell? ⟨W.heap.size + 1 + 1, 3, none⟩ = some (oldV w' ⟨W.heap.size + 1 + 1, 3, none⟩) ∧ w'.cell? ⟨W.heap.size + 1 + 1 + 1, 0, none⟩ = some (oldV w' ⟨W.heap.size + 1 + 1 + 1, 0, none⟩) ∧ w'.cell? ⟨W.heap.size + 1 + 1 + 1, 1, none⟩ = some (oldV w' ⟨W.heap.size + 1 + 1 + 1, 1, none⟩) ∧ w'.cell? ⟨W.heap.size + 1 + 1 + 1, 2, none⟩ = some (oldV w' ⟨W.heap.size + 1 + 1 + 1, 2, none⟩) ∧ w'.cell? ⟨W.heap.size + 1 + 1 + 1, 3, none⟩ = some (oldV w' ⟨W.heap.size + 1 + 1 + 1, 3, none⟩) ∧ (∀ i, w'.frozen? ⟨W.heap.size + 1 + 1, i, none⟩ = false) ∧ (∀ i, w'.frozen? ⟨W.heap.size + 1 + 1 + 1, i, none⟩ = false) ∧ FS W ⟨inner, ks, vs, lk, some ⟨kb, o, none⟩, c1, A2, c2⟩ b kb (o + at0) kv w') (first | with_reducible exact hs | with_reducible exact FS.all (FS.put (FS.of (w0 := W) (a := ⟨inner, ks, vs, lk, some ⟨kb, o, none⟩, c1, A2, c2⟩) (b := b) (kb := kb) (o := o + at0) (kv := kv) (by assumption)) (by omega) _ _ _ _) | with_reducible exact FS.all (FS.next (FS.of (w0 := W) (a := ⟨inner, ks, vs, lk, some ⟨kb, o, none⟩, c1, A2, c2⟩) (b := b) (kb := kb) (o := o + at0) (kv := kv) (by assumption)) (nl1 _ _)))
    (first
      | (go_at_call 28; have _t := t1; refine (P1.out _ (FS.of (w0 := W) (a := ⟨inner, ks, vs, lk, some ⟨kb, o, none⟩, c1, A2, c2⟩) (b := b) (kb := kb) (o := o + at0) (kv := kv) (by assumption)).xa).mono ?_; rintro e k1 ⟨⟨p1, hp1, rfl⟩, hn⟩; clear t1; have hs := FS.all ((FS.of (w0 := W) (a := ⟨inner, ks, vs, lk, some ⟨kb, o, none⟩, c1, A2, c2⟩) (b := b) (kb := kb) (o := o + at0) (kv := kv) (by assumption)).next hn); have hz1 := Lib.hid (FS.of (w0 := W) (a := ⟨inner, ks, vs, lk, some ⟨kb, o, none⟩, c1, A2, c2⟩) (b := b) (kb := kb) (o := o + at0) (kv := kv) hs).g2.lt; have S3 := Lib.hid (FS.of (w0 := W) (a := ⟨inner, ks, vs, lk, some ⟨kb, o, none⟩, c1, A2, c2⟩) (b := b) (kb := kb) (o := o + at0) (kv := kv) hs); clear hn)
      | (go_at_call 28; have _t := t3; with_reducible refine (P2.out _ (FS.of (w0 := W) (a := ⟨inner, ks, vs, lk, some ⟨kb, o, none⟩, c1, A2, c2⟩) (b := b) (kb := kb) (o := o + at0) (kv := kv) (by assumption)).xa).mono ?_; rintro e k3 ⟨⟨p2, hp2, rfl⟩, hn⟩; clear t3; have hs := FS.all ((FS.of (w0 := W) (a := ⟨inner, ks, vs, lk, some ⟨kb, o, none⟩, c1, A2, c2⟩) (b := b) (kb := kb) (o := o + at0) (kv := kv) (by assumption)).next hn); have hz3 := Lib.hid (FS.of (w0 := W) (a := ⟨inner, ks, vs, lk, some ⟨kb, o, none⟩, c1, A2, c2⟩) (b := b) (kb := kb) (o := o + at0) (kv := kv) hs).g2.lt; have S4 := Lib.hid (FS.of (w0 := W) (a := ⟨inner, ks, vs, lk, some ⟨kb, o, none⟩, c1, A2, c2⟩) (b := b) (kb := kb) (o := o + at0) (kv := kv) hs); have o2 := o1.next hn; clear hn)
      | (go_at_call 28; have _t := t3; with_reducible refine (P3.out _ (FS.of (w0 := W) (a := ⟨inner, ks, vs, lk, some ⟨kb, o, none⟩, c1, A2, c2⟩) (b := b) (kb := kb) (o := o + at0) (kv := kv) (by assumption)).xa).mono ?_; rintro e k3 ⟨⟨p2, hp2, rfl⟩, hn⟩; clear t3; have hs := FS.all ((FS.of (w0 := W) (a := ⟨inner, ks, vs, lk, some ⟨kb, o, none⟩, c1, A2, c2⟩) (b := b) (kb := kb) (o := o + at0) (kv := kv) (by assumption)).next hn); have hz3 := Lib.hid (FS.of (w0 := W) (a := ⟨inner, ks, vs, lk, some ⟨kb, o, none⟩, c1, A2, c2⟩) (b := b) (kb := kb) (o := o + at0) (kv := kv) hs).g2.lt; have S4 := Lib.hid (FS.of (w0 := W) (a := ⟨inner, ks, vs, lk, some ⟨kb, o, none⟩, c1, A2, c2⟩) (b := b) (kb := kb) (o := o + at0) (kv := kv) hs); have o2 := o1.next hn; clear hn)
      | (go_at_call 27; have _t := t2; refine (glued_one lk p1 _ _ (QL.out p1 _ _ hp1.out).1 (QL.out p1 _ _ hp1.out).2 _ (NB.of1 (ap1.out p1 hp1.out _ (FS.of (w0 := W) (a := ⟨inner, ks, vs, lk, some ⟨kb, o, none⟩, c1, A2, c2⟩) (b := b) (kb := kb) (o := o + at0) (kv := kv) (by assumption)).xa))).mono ?_; rintro e kw ⟨y1, rfl, e1, e2, e3, e4, o1, hn⟩; clear t2; have E1 := Lib.hid (And.intro e1 (And.intro e2 (And.intro e3 e4))); have hs := FS.all ((FS.of (w0 := W) (a := ⟨inner, ks, vs, lk, some ⟨kb, o, none⟩, c1, A2, c2⟩) (b := b) (kb := kb) (o := o + at0) (kv := kv) (by assumption)).next hn); clear hn e1 e2 e3 e4)
      | (go_at_call 27; have _t := t4; refine (glued_two b.link p2 b _ (Nat.le_trans (QM.out p2 (.inr hp2.out)).1 (by omega)) (Nat.le_trans (QM.out p2 (.inr hp2.out)).2 (by omega)) (by have := LL.out; omega) (by have := LL.out; omega) k3 (ap2.out p2 hp2.out _ S4.out.xa) S4.out.xb).mono ?_; rintro e kx ⟨y2, rfl, e1, e2, e3, e4, o3, hn0⟩; clear t4; have hn := hn0; have E2 := Lib.hid (And.intro e1 (And.intro e2 (And.intro e3 e4))); have hs := FS.all (S4.out.next hn); have o4 := o2.next hn; clear hn e1 e2 e3 e4))
  all_goals (
    have S5 := Lib.hid (FS.of (w0 := W) (a := ⟨inner, ks, vs, lk, some ⟨kb, o, none⟩, c1, A2, c2⟩) (b := b) (kb := kb) (o := o + at0) (kv := kv) hs)
    obtain ⟨-, -, -, -, -, -, -, -, -, z0, z1, z2, z3, y0, y1', y2', y3, fz, fy, -⟩ := hs
    go_wp2
    have q1 := hz1.out
    have q3 := hz3.out
    exact bodyPost_ret (v := .tuple #[ndV y1, ndV y2, .int .u64 (kv : Nat)]) (by simp [results, Try.results23, go_sem, z0, z1, z2, z3, y0, y1', y2', y3]) rfl ⟨y1, y2, rfl, below_put4 (below_put4 S5.out.bl (by omega) _ _ _ _) (by omega) _ _ _ _, ((o4.put (by first | omega | (simp; omega)) _ _ _ _).put (by first | omega | (simp; omega)) _ _ _ _).le (by first | omega | (simp; omega)), ((o3.put (by first | omega | (simp; omega)) _ _ _ _).put (by first | omega | (simp; omega)) _ _ _ _).le (by first | omega | (simp; omega)), E1.out.1, E2.out.1, E1.out.2.1, E2.out.2.1, E1.out.2.2.1.trans (by rw [hp1.out]), E1.out.2.2.2.trans (by rw [hp1.out]), E2.out.2.2.1.trans (by rw [hp2.out]), E2.out.2.2.2.trans (by rw [hp2.out])⟩)
end Go.Proofs.Ytahpdifneajblaa
