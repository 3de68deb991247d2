/- leaf.Split. -/
import Derived.Test.YtahpdifneajblaaLeaf3
import Derived.Deep.RegionHeld3
namespace Go.Proofs.Ytahpdifneajblaa
set_option linter.unusedVariables false
open Go.RowKit
def oldV (W : World) (a : Addr) : Value := (W.cell? a).getD (.bool false)
/-- A block of four cells. -/
structure PT (g : Nat) (W : World) : Prop where
  c : ∀ i, i < 4 → W.cell? ⟨g, i, none⟩ = some (oldV W ⟨g, i, none⟩)
  fz : ∀ i, W.frozen? ⟨g, i, none⟩ = false
theorem PT.lt {g : Nat} {W : World} (h : PT g W) : g < W.heap.size := World.block_lt_of_cell? W _ (h.c 0 (by omega))
theorem PT.next {g : Nat} {W W' : World} (h : PT g W) (hn : Below W.heap.size W W') : PT g W' := by
  have c : ∀ j, W'.cell? ⟨g, j, none⟩ = W.cell? ⟨g, j, none⟩ := fun j => hn.cell (p := ⟨g, j, none⟩) h.lt
  exact ⟨fun i hi => by unfold oldV; rw [c i]; exact h.c i hi, fun i => (hn.frozen (p := ⟨g, i, none⟩) h.lt).trans (h.fz i)⟩
theorem PT.of {g : Nat} {W : World} (h : ∀ i, i < 4 → ∃ v, W.cell? ⟨g, i, none⟩ = some v) (fz : ∀ i, W.frozen? ⟨g, i, none⟩ = false) : PT g W :=
  ⟨fun i hi => by obtain ⟨v, e⟩ := h i hi; unfold oldV; rw [e]; rfl, fz⟩
theorem PT.set {g : Nat} {W : World} (h : PT g W) (a : Addr) (v : Value) : PT g (W.setCell a v) := by
  exact PT.of (fun i hi => cell?_setCell_some (h.c i hi)) (fun i => by simpa [go_sem] using h.fz i)
theorem PT.alloc (W : World) (x : Nd) : PT W.heap.size (W.alloc (ndRow x)) :=
  PT.of (fun i hi => by
    match i, hi with
    | 0, _ => exact ⟨_, (NC.alloc W x).c0⟩
    | 1, _ => exact ⟨_, (NC.alloc W x).c1⟩
    | 2, _ => exact ⟨_, (NC.alloc W x).c2⟩
    | 3, _ => exact ⟨_, (NC.alloc W x).c3⟩) (NC.alloc W x).fz
/-- What a split holds: the node's block, its rows, a key's cell, two results that wait. -/
structure SP (w0 : World) (x : Nd) (b o kv : Nat) (W : World) : Prop where
  n : NC w0.heap.size x W
  kc : W.cell? ⟨b, o, none⟩ = some (.int .u64 (kv : Nat))
  kb : b < w0.heap.size
  r0 : NR w0 x
  g1 : PT (w0.heap.size + 1) W
  g2 : PT (w0.heap.size + 1 + 1) W
  bl : Below w0.heap.size w0 W
section
variable {w0 : World} {x : Nd} {b o kv : Nat} {W W' : World}
theorem SP.nx (h : SP w0 x b o kv W) : NR W x := h.r0.next h.bl
theorem SP.next (h : SP w0 x b o kv W) (hn : Below W.heap.size W W') : SP w0 x b o kv W' :=
  ⟨h.n.next hn, (hn.cell (p := ⟨b, o, none⟩) (World.block_lt_of_cell? W _ h.kc)).trans h.kc, h.kb, h.r0, h.g1.next hn, h.g2.next hn, h.bl.trans (hn.mono h.bl.size)⟩
theorem SP.set (h : SP w0 x b o kv W) {g i : Nat} (hg : w0.heap.size < g) (v : Value) : SP w0 x b o kv (W.setCell ⟨g, i, none⟩ v) := by
  have hk := h.kb
  exact ⟨h.n.set (by omega) v, (World.cell?_setCell_other _ ⟨g, i, none⟩ ⟨b, o, none⟩ v (by intro e; injection e with e1; omega)).trans h.kc, h.kb, h.r0, h.g1.set _ _, h.g2.set _ _, h.bl.setCell (by show w0.heap.size ≤ g; omega) _⟩
theorem SP.put (h : SP w0 x b o kv W) {g : Nat} (hg : w0.heap.size < g) (a c d e : Value) : SP w0 x b o kv ((((W.setCell ⟨g, 0, none⟩ a).setCell ⟨g, 1, none⟩ c).setCell ⟨g, 2, none⟩ d).setCell ⟨g, 3, none⟩ e) := (((h.set hg a).set hg c).set hg d).set hg e
theorem SP.of (h : W.cell? ⟨w0.heap.size, 0, none⟩ = some (.bool x.inner) ∧ W.cell? ⟨w0.heap.size, 1, none⟩ = some (.slice x.A1 x.ks.length x.c1) ∧ W.cell? ⟨w0.heap.size, 2, none⟩ = some (.slice x.A2 x.vs.length x.c2) ∧ W.cell? ⟨w0.heap.size, 3, none⟩ = some (.int .u64 (x.link : Nat)) ∧ W.cell? ⟨b, o, none⟩ = some (.int .u64 (kv : Nat)) ∧ W.cell? ⟨w0.heap.size + 1, 0, none⟩ = some (oldV W ⟨w0.heap.size + 1, 0, none⟩) ∧ W.cell? ⟨w0.heap.size + 1, 1, none⟩ = some (oldV W ⟨w0.heap.size + 1, 1, none⟩) ∧ W.cell? ⟨w0.heap.size + 1, 2, none⟩ = some (oldV W ⟨w0.heap.size + 1, 2, none⟩) ∧ W.cell? ⟨w0.heap.size + 1, 3, none⟩ = some (oldV W ⟨w0.heap.size + 1, 3, none⟩) ∧ W.cell? ⟨w0.heap.size + 1 + 1, 0, none⟩ = some (oldV W ⟨w0.heap.size + 1 + 1, 0, none⟩) ∧ W.cell? ⟨w0.heap.size + 1 + 1, 1, none⟩ = some (oldV W ⟨w0.heap.size + 1 + 1, 1, none⟩) ∧ W.cell? ⟨w0.heap.size + 1 + 1, 2, none⟩ = some (oldV W ⟨w0.heap.size + 1 + 1, 2, none⟩) ∧ W.cell? ⟨w0.heap.size + 1 + 1, 3, none⟩ = some (oldV W ⟨w0.heap.size + 1 + 1, 3, none⟩) ∧ (∀ i, W.frozen? ⟨w0.heap.size + 1, i, none⟩ = false) ∧ (∀ i, W.frozen? ⟨w0.heap.size + 1 + 1, i, none⟩ = false) ∧ SP w0 x b o kv W) : SP w0 x b o kv W := h.2.2.2.2.2.2.2.2.2.2.2.2.2.2.2
theorem SP.all (h : SP w0 x b o kv W) : W.cell? ⟨w0.heap.size, 0, none⟩ = some (.bool x.inner) ∧ W.cell? ⟨w0.heap.size, 1, none⟩ = some (.slice x.A1 x.ks.length x.c1) ∧ W.cell? ⟨w0.heap.size, 2, none⟩ = some (.slice x.A2 x.vs.length x.c2) ∧ W.cell? ⟨w0.heap.size, 3, none⟩ = some (.int .u64 (x.link : Nat)) ∧ W.cell? ⟨b, o, none⟩ = some (.int .u64 (kv : Nat)) ∧ W.cell? ⟨w0.heap.size + 1, 0, none⟩ = some (oldV W ⟨w0.heap.size + 1, 0, none⟩) ∧ W.cell? ⟨w0.heap.size + 1, 1, none⟩ = some (oldV W ⟨w0.heap.size + 1, 1, none⟩) ∧ W.cell? ⟨w0.heap.size + 1, 2, none⟩ = some (oldV W ⟨w0.heap.size + 1, 2, none⟩) ∧ W.cell? ⟨w0.heap.size + 1, 3, none⟩ = some (oldV W ⟨w0.heap.size + 1, 3, none⟩) ∧ W.cell? ⟨w0.heap.size + 1 + 1, 0, none⟩ = some (oldV W ⟨w0.heap.size + 1 + 1, 0, none⟩) ∧ W.cell? ⟨w0.heap.size + 1 + 1, 1, none⟩ = some (oldV W ⟨w0.heap.size + 1 + 1, 1, none⟩) ∧ W.cell? ⟨w0.heap.size + 1 + 1, 2, none⟩ = some (oldV W ⟨w0.heap.size + 1 + 1, 2, none⟩) ∧ W.cell? ⟨w0.heap.size + 1 + 1, 3, none⟩ = some (oldV W ⟨w0.heap.size + 1 + 1, 3, none⟩) ∧ (∀ i, W.frozen? ⟨w0.heap.size + 1, i, none⟩ = false) ∧ (∀ i, W.frozen? ⟨w0.heap.size + 1 + 1, i, none⟩ = false) ∧ SP w0 x b o kv W :=
  ⟨h.n.c0, h.n.c1, h.n.c2, h.n.c3, h.kc, h.g1.c 0 (by omega), h.g1.c 1 (by omega), h.g1.c 2 (by omega), h.g1.c 3 (by omega), h.g2.c 0 (by omega), h.g2.c 1 (by omega), h.g2.c 2 (by omega), h.g2.c 3 (by omega), h.g1.fz, h.g2.fz, h⟩
end
theorem NB.of1 {W : World} {p : Nd} (h : NR (W.alloc (ndRow p)) p) : NB (W.alloc (ndRow p)) W.heap.size [p] := by
  intro j hj
  obtain rfl : j = 0 := by simpa using hj
  exact ⟨by simp, by simp, by simp, by simp, h⟩
/-- What 'glued' makes of one part. -/
theorem glued_one (link : Nat) (p : Nd) (h c : Nat) (l1 : p.ks.length ≤ 10000) (l2 : p.vs.length ≤ 10000) (W : World) (hx : NB W h [p]) :
    Calls Try.prog 27 #[.int .u64 (link : Nat), .slice (some ⟨h, 0, none⟩) 1 c] W fun e w' => ∃ y : Nd, e = .returned (ndV y) ∧ y.inner = false ∧ y.link = link ∧ y.ks = p.ks ∧ y.vs = p.vs ∧ ON W.heap.size y w' ∧ Below W.heap.size W w' := by
  have := glued_any link [p] h c (by simp) (by simpa using l1) (by simpa using l2) W hx
  refine this.mono ?_
  rintro e w' ⟨y, he, h1, h2, h3, h4, h5⟩
  exact ⟨y, he, h1, h2, by simpa using h3, by simpa using h4, h5⟩
theorem part_ex (x : Nd) (f t : Nat) (hf : f ≤ t) (h1 : t ≤ x.ks.length) (h2 : t ≤ x.vs.length) (W : World) (hx : NR W x) :
    Calls Try.prog 28 #[ndV x, .int .i64 f, .int .i64 t] W fun e w' => (∃ p : Nd, RowKit.Hid (p = x.part f t) ∧ e = .returned (ndV p)) ∧ Below W.heap.size W w' := by
  refine (part_any x f t hf h1 h2 hx.k.le hx.v.le hx.k.max hx.v.max W).mono ?_
  rintro e w' ⟨he, hn⟩
  exact ⟨⟨_, Lib.hid rfl, he⟩, hn⟩
theorem NR.of_part {W : World} {x p : Nd} {f t : Nat} (hp : p = x.part f t) (h : NR W x) (hf : f ≤ t) (h1 : t ≤ x.ks.length) (h2 : t ≤ x.vs.length) : NR W p := by subst hp; exact h.part f t hf h1 h2
theorem part_ex0 (x : Nd) (t : Nat) (h1 : t ≤ x.ks.length) (h2 : t ≤ x.vs.length) (W : World) (hx : NR W x) :
    Calls Try.prog 28 #[ndV x, .int .i64 0, .int .i64 t] W fun e w' => (∃ p : Nd, RowKit.Hid (p = x.part 0 t) ∧ e = .returned (ndV p)) ∧ Below W.heap.size W w' := part_ex x 0 t (by omega) h1 h2 W hx
theorem glued_one0 (p : Nd) (h c : Nat) (l1 : p.ks.length ≤ 10000) (l2 : p.vs.length ≤ 10000) (W : World) (hx : NB W h [p]) :
    Calls Try.prog 27 #[.int .u64 0, .slice (some ⟨h, 0, none⟩) 1 c] W fun e w' => ∃ y : Nd, e = .returned (ndV y) ∧ y.inner = false ∧ y.link = 0 ∧ y.ks = p.ks ∧ y.vs = p.vs ∧ ON W.heap.size y w' ∧ Below W.heap.size W w' := glued_one 0 p h c l1 l2 W hx
theorem part_len (x : Nd) (f t : Nat) (p : Nd) (hp : p = x.part f t) (hl : x.ks.length ≤ 10000) (hv : x.vs.length ≤ 10000) : p.ks.length ≤ 10000 ∧ p.vs.length ≤ 10000 := by
  subst hp
  simp only [cutL, List.length_take, List.length_drop]
  omega

set_option maxHeartbeats 2000000 in
theorem split_no (x : Nd) (hl : x.ks.length ≤ 10000) (hno : ¬ (rightP x ∧ 2 ≤ x.ks.length)) (W : World) (hx : NR W x) :
    Calls Try.prog 19 #[ndV x] W fun e w' => e = .returned (.tuple #[ndV Nd.zero, ndV Nd.zero, .int .u64 0]) ∧ Below W.heap.size W w' := by
  obtain ⟨r, hr⟩ : ∃ r : Bool, r = true ↔ rightP x := by
    by_cases h : rightP x
    · exact ⟨true, by simp [h]⟩
    · exact ⟨false, by simp [h]⟩
  have H3 := Lib.hid (nl3 W (ndRow x) (ndRow Nd.zero) (ndRow Nd.zero))
  have R1 := Lib.hid (fun W' h => right_any x (by omega) r hr W' h)
  have HX := Lib.hid hx
  have HN := Lib.hid (NC.alloc W x)
  have HR := Lib.hid hr
  have HO := Lib.hid hno
  have hl2 : r = true → (x.ks.length : Int) < 2 := fun h => by have hk : ¬ 2 ≤ x.ks.length := fun k => hno ⟨hr.1 h, k⟩; omega
  have HL2 := Lib.hid hl2
  clear hx hr hno hl2
  cases r with
  | true =>
    have hlt := HL2.out rfl
    have hd : decide ((x.ks.length : Int) < 2) = true := by simpa using hlt
    go_enter Try.func19, Try.ntmps19
    go_wp2_with (go_at_call 14; refine (R1.out _ (HX.out.next H3.out)).mono ?_; rintro e w1 ⟨rfl, hn⟩; have c1 := (((HN.out.next (nl1 _ (ndRow Nd.zero))).next (nl1 _ (ndRow Nd.zero))).next hn).c1; have BL := Lib.hid (H3.out.trans (hn.mono H3.out.size)); have Z1 := ((NC.alloc (W.alloc (ndRow x)) Nd.zero).next (nl1 _ (ndRow Nd.zero))).next hn; have Z2 := (NC.alloc ((W.alloc (ndRow x)).alloc (ndRow Nd.zero)) Nd.zero).next hn; simp only [World.size_alloc] at Z1 Z2; have z0 := Z1.c0; have z1 := Z1.c1; have z2 := Z1.c2; have z3 := Z1.c3; have fz := Z1.fz; have y0 := Z2.c0; have y1 := Z2.c1; have y2 := Z2.c2; have y3 := Z2.c3; have fy := Z2.fz; clear Z1 Z2; clear hn)
    exact bodyPost_ret (v := .tuple #[ndV Nd.zero, ndV Nd.zero, .int .u64 0]) (by simp [results, Try.results19, go_sem, z0, z1, z2, z3, y0, y1, y2, y3]) rfl ⟨rfl, below_put4 (below_put4 BL.out (by omega) _ _ _ _) (by omega) _ _ _ _⟩
  | false =>
    go_enter Try.func19, Try.ntmps19
    go_wp2_with (go_at_call 14; refine (R1.out _ (HX.out.next H3.out)).mono ?_; rintro e w1 ⟨rfl, hn⟩; have BL := Lib.hid (H3.out.trans (hn.mono H3.out.size)); have Z1 := ((NC.alloc (W.alloc (ndRow x)) Nd.zero).next (nl1 _ (ndRow Nd.zero))).next hn; have Z2 := (NC.alloc ((W.alloc (ndRow x)).alloc (ndRow Nd.zero)) Nd.zero).next hn; simp only [World.size_alloc] at Z1 Z2; have z0 := Z1.c0; have z1 := Z1.c1; have z2 := Z1.c2; have z3 := Z1.c3; have fz := Z1.fz; have y0 := Z2.c0; have y1 := Z2.c1; have y2 := Z2.c2; have y3 := Z2.c3; have fy := Z2.fz; clear Z1 Z2; clear hn)
    exact bodyPost_ret (v := .tuple #[ndV Nd.zero, ndV Nd.zero, .int .u64 0]) (by simp [results, Try.results19, go_sem, z0, z1, z2, z3, y0, y1, y2, y3]) rfl ⟨rfl, below_put4 (below_put4 BL.out (by omega) _ _ _ _) (by omega) _ _ _ _⟩

set_option maxHeartbeats 2000000 in
theorem split_yes (x : Nd) (hl : x.ks.length ≤ 10000) (hr : rightP x) (h2 : 2 ≤ x.ks.length) (W : World) (hx : NR W x) :
    Calls Try.prog 19 #[ndV x] W fun e w' => ∃ y z : Nd, e = .returned (.tuple #[ndV y, ndV z, .int .u64 ((x.ks.getD (x.ks.length - x.ks.length / 2) 0 : Nat))]) ∧ Below W.heap.size W w' ∧ ON W.heap.size y w' ∧ ON W.heap.size z w' ∧ y.inner = false ∧ z.inner = false ∧ y.link = 0 ∧ z.link = x.link ∧
      y.ks = cutL x.ks 0 (x.ks.length - x.ks.length / 2) ∧ y.vs = cutL x.vs 0 (x.ks.length - x.ks.length / 2) ∧ z.ks = cutL x.ks (x.ks.length - x.ks.length / 2) x.ks.length ∧ z.vs = cutL x.vs (x.ks.length - x.ks.length / 2) x.ks.length := by
  have R1 := Lib.hid (fun W' h => right_any x (by omega) true (by simp [hr]) W' h)
  obtain ⟨b, o, hA, hcm, hcx, hc⟩ := hx.k.at (by omega)
  have hv := hr.2.1
  have hk := hc (x.ks.length - x.ks.length / 2) (by omega)
  have hbl := World.block_lt_of_cell? W _ hk
  have P1 := Lib.hid (fun W' h => part_ex0 x (x.ks.length - x.ks.length / 2) (by omega) (by omega) W' h)
  have P2 := Lib.hid (fun W' h => part_ex x (x.ks.length - x.ks.length / 2) x.ks.length (by omega) (by omega) (by omega) W' h)
  generalize hat : x.ks.length - x.ks.length / 2 = at0 at hk hbl P1 P2 ⊢
  have hatn : at0 < x.ks.length := by omega
  have hati : (at0 : Int) < (x.ks.length : Int) := by omega
  have hati0 : (0 : Int) ≤ (at0 : Int) := by omega
  have htd : RowKit.wrap64 ((x.ks.length : Int) - RowKit.wrap64 ((x.ks.length : Int) / 2)) = (at0 : Int) := by rw [IntWalk.wrap64_in ((x.ks.length : Int) / 2) ⟨by omega, by omega⟩, IntWalk.wrap64_in _ ⟨by omega, by omega⟩]; omega
  obtain ⟨inner, ks, vs, link, A1, c1, A2, c2⟩ := x
  simp only at hA hl h2 hk hbl hat hatn hati htd hv hcm hcx hc
  subst hA
  generalize hkv : ks.getD at0 0 = kv at hk ⊢
  have H3 := Lib.hid (nl3 W (ndRow ⟨inner, ks, vs, link, some ⟨b, o, none⟩, c1, A2, c2⟩) (ndRow Nd.zero) (ndRow Nd.zero))
  have HX := Lib.hid hx
  have Z1 := PT.alloc (W.alloc (ndRow ⟨inner, ks, vs, link, some ⟨b, o, none⟩, c1, A2, c2⟩)) Nd.zero
  have Z2 := PT.alloc ((W.alloc (ndRow ⟨inner, ks, vs, link, some ⟨b, o, none⟩, c1, A2, c2⟩)).alloc (ndRow Nd.zero)) Nd.zero
  simp only [World.size_alloc] at Z1 Z2
  have HS := Lib.hid (show SP W ⟨inner, ks, vs, link, some ⟨b, o, none⟩, c1, A2, c2⟩ b (o + at0) kv (((W.alloc (ndRow ⟨inner, ks, vs, link, some ⟨b, o, none⟩, c1, A2, c2⟩)).alloc (ndRow Nd.zero)).alloc (ndRow Nd.zero)) from ⟨((NC.alloc W _).next (nl1 _ _)).next (nl1 _ _), (H3.out.cell (p := ⟨b, o + at0, none⟩) hbl).trans hk, hbl, hx, Z1.next (nl1 _ _), Z2, nl3 _ _ _ _⟩)
  have HV := Lib.hid hv
  have HAT := Lib.hid hat
  have HLN := Lib.hid hl
  have hmx : ks.length ≤ maxLen := by unfold maxLen; omega
  have hnn : (2 : Int) ≤ (ks.length : Int) := by omega
  have hnd : decide ((ks.length : Int) < 2) = false := by simp; omega
  clear hx Z1 Z2 hv hat hr h2 hl hc hcx hcm hk hbl hkv
  go_enter Try.func19, Try.ntmps19
  go_wp2_with (go_at_call 14; refine (R1.out _ (HX.out.next H3.out)).mono ?_; rintro e w1 ⟨rfl, hn⟩; clear R1 H3; have S1 := Lib.hid (HS.out.next hn); clear hn HS; have c1' := S1.out.n.c1)
  have S2 := S1.out.next (Below.refl _ _).drew
  have hs := SP.all S2
  have ap1 := Lib.hid (fun p (hp : p = (⟨inner, ks, vs, link, some ⟨b, o, none⟩, c1, A2, c2⟩ : Nd).part 0 at0) W' (h : NR W' ⟨inner, ks, vs, link, some ⟨b, o, none⟩, c1, A2, c2⟩) => NR.of_part hp h (by omega) (by show at0 ≤ ks.length; omega) (by show at0 ≤ vs.length; have := HV.out; omega))
  have ap2 := Lib.hid (fun p (hp : p = (⟨inner, ks, vs, link, some ⟨b, o, none⟩, c1, A2, c2⟩ : Nd).part at0 ks.length) W' (h : NR W' ⟨inner, ks, vs, link, some ⟨b, o, none⟩, c1, A2, c2⟩) => NR.of_part hp h (by omega) (by show ks.length ≤ ks.length; omega) (by show ks.length ≤ vs.length; have := HV.out; omega))
  have t1 : True := trivial
  have t2 : True := trivial
  have t3 : True := trivial
  have t4 : True := trivial
  clear c1'
  go_region_held3 (fun w' => w'.cell? ⟨W.heap.size, 0, none⟩ = some (.bool inner) ∧ w'.cell? ⟨W.heap.size, 1, none⟩ = some (.slice (some ⟨b, o, none⟩) ks.length c1) ∧ w'.cell? ⟨W.heap.size, 2, none⟩ = some (.slice A2 vs.length c2) ∧ w'.cell? ⟨W.heap.size, 3, none⟩ = some (.int .u64 (link : Nat)) ∧ w'.cell? ⟨b, o + at0, none⟩ = some (.int .u64 (kv : Nat)) ∧ w'.cell? ⟨W.heap.size + 1, 0, none⟩ = some (oldV w' ⟨W.heap.size + 1, 0, none⟩) ∧ w'.cell? ⟨W.heap.size + 1, 1, none⟩ = some (oldV w' ⟨W.heap.size + 1, 1, none⟩) ∧ w'.cell? ⟨W.heap.size + 1, 2, none⟩ = some (oldV w' ⟨W.heap.size + 1, 2, none⟩) ∧ w'.cell? ⟨W.heap.size + 1, 3, none⟩ = some (oldV w' ⟨W.heap.size + 1, 3, none⟩) ∧ w'.cell? ⟨W.heap.size + 1 + 1, 0, none⟩ = some (oldV w' ⟨W.heap.size + 1 + 1, 0, none⟩) ∧ w'.cell? ⟨W.heap.size + 1 + 1, 1, none⟩ = some (oldV w' ⟨W.heap.size + 1 + 1, 1, none⟩) ∧ w'.cell? ⟨W.heap.size + 1 + 1, 2, none⟩ = some (oldV w' ⟨W.heap.size + 1 + 1, 2, none⟩) ∧ w'.cell? ⟨W.heap.size + 1 + 1, 3, none⟩ = some (oldV w' ⟨W.heap.size + 1 + 1, 3, none⟩) ∧ (∀ i, w'.frozen? ⟨W.heap.size + 1, i, none⟩ = false) ∧ (∀ i, w'.frozen? ⟨W.heap.size + 1 + 1, i, none⟩ = false) ∧ SP W ⟨inner, ks, vs, link, some ⟨b, o, none⟩, c1, A2, c2⟩ b (o + at0) kv w') (first | with_reducible exact hs | with_reducible exact SP.all (SP.put (SP.of (w0 := W) (x := ⟨inner, ks, vs, link, some ⟨b, o, none⟩, c1, A2, c2⟩) (b := b) (o := o + at0) (kv := kv) (by assumption)) (by omega) _ _ _ _) | with_reducible exact SP.all (SP.next (SP.of (w0 := W) (x := ⟨inner, ks, vs, link, some ⟨b, o, none⟩, c1, A2, c2⟩) (b := b) (o := o + at0) (kv := kv) (by assumption)) (nl1 _ _)))
    (first
      | (go_at_call 28; have _t := t1; refine (P1.out _ (SP.of (w0 := W) (x := ⟨inner, ks, vs, link, some ⟨b, o, none⟩, c1, A2, c2⟩) (b := b) (o := o + at0) (kv := kv) (by assumption)).nx).mono ?_; rintro e k1 ⟨⟨p1, hp1, rfl⟩, hn⟩; clear t1; have hs := SP.all (SP.next (SP.of (w0 := W) (x := ⟨inner, ks, vs, link, some ⟨b, o, none⟩, c1, A2, c2⟩) (b := b) (o := o + at0) (kv := kv) (by assumption)) hn); have hz1 := Lib.hid (SP.of (w0 := W) (x := ⟨inner, ks, vs, link, some ⟨b, o, none⟩, c1, A2, c2⟩) (b := b) (o := o + at0) (kv := kv) hs).g2.lt; clear hn)
      | (go_at_call 28; have _t := t3; refine (P2.out _ (SP.of (w0 := W) (x := ⟨inner, ks, vs, link, some ⟨b, o, none⟩, c1, A2, c2⟩) (b := b) (o := o + at0) (kv := kv) (by assumption)).nx).mono ?_; rintro e k3 ⟨⟨p2, hp2, rfl⟩, hn⟩; clear t3; have hs := SP.all (SP.next (SP.of (w0 := W) (x := ⟨inner, ks, vs, link, some ⟨b, o, none⟩, c1, A2, c2⟩) (b := b) (o := o + at0) (kv := kv) (by assumption)) hn); have o2 := o1.next hn; have hz3 := Lib.hid (SP.of (w0 := W) (x := ⟨inner, ks, vs, link, some ⟨b, o, none⟩, c1, A2, c2⟩) (b := b) (o := o + at0) (kv := kv) hs).g2.lt; clear hn)
      | (go_at_call 27; have _t := t2; refine (glued_one0 p1 _ _ (part_len _ _ _ _ hp1.out HLN.out (by have := HV.out; have := HLN.out; show vs.length ≤ _; omega)).1 (part_len _ _ _ _ hp1.out HLN.out (by have := HV.out; have := HLN.out; show vs.length ≤ _; omega)).2 _ (NB.of1 (ap1.out p1 hp1.out _ (SP.of (w0 := W) (x := ⟨inner, ks, vs, link, some ⟨b, o, none⟩, c1, A2, c2⟩) (b := b) (o := o + at0) (kv := kv) (by assumption)).nx))).mono ?_; rintro e k2 ⟨y1, rfl, e1, e2, e3, e4, o1, hn⟩; clear t2; have E1 := Lib.hid e1; have E2 := Lib.hid e2; have E3 := Lib.hid e3; have E4 := Lib.hid e4; have hs := SP.all (SP.next (SP.of (w0 := W) (x := ⟨inner, ks, vs, link, some ⟨b, o, none⟩, c1, A2, c2⟩) (b := b) (o := o + at0) (kv := kv) (by assumption)) hn); clear hn e1 e2 e3 e4)
      | (go_at_call 27; have _t := t4; refine (glued_one link p2 _ _ (part_len _ _ _ _ hp2.out HLN.out (by have := HV.out; have := HLN.out; show vs.length ≤ _; omega)).1 (part_len _ _ _ _ hp2.out HLN.out (by have := HV.out; have := HLN.out; show vs.length ≤ _; omega)).2 _ (NB.of1 (ap2.out p2 hp2.out _ (SP.of (w0 := W) (x := ⟨inner, ks, vs, link, some ⟨b, o, none⟩, c1, A2, c2⟩) (b := b) (o := o + at0) (kv := kv) (by assumption)).nx))).mono ?_; rintro e k4 ⟨y2, rfl, f1, f2, f3, f4, o3, hn⟩; clear t4; have F1 := Lib.hid f1; have F2 := Lib.hid f2; have F3 := Lib.hid f3; have F4 := Lib.hid f4; have hs := SP.all (SP.next (SP.of (w0 := W) (x := ⟨inner, ks, vs, link, some ⟨b, o, none⟩, c1, A2, c2⟩) (b := b) (o := o + at0) (kv := kv) (by assumption)) hn); have o4 := (o2.next (nl1 _ _)).next hn; clear hn f1 f2 f3 f4))
  all_goals (
    have S4 := Lib.hid (SP.of (w0 := W) (x := ⟨inner, ks, vs, link, some ⟨b, o, none⟩, c1, A2, c2⟩) (b := b) (o := o + at0) (kv := kv) hs)
    obtain ⟨-, -, -, -, -, z0, z1, z2, z3, y0, y1', y2', y3, fz, fy, -⟩ := hs
    go_wp2
    have q1 := hz1.out
    have q3 := hz3.out
    exact bodyPost_ret (v := .tuple #[ndV y1, ndV y2, .int .u64 (kv : Nat)]) (by simp [results, Try.results19, go_sem, z0, z1, z2, z3, y0, y1', y2', y3]) rfl ⟨y1, y2, rfl, below_put4 (below_put4 S4.out.bl (by omega) _ _ _ _) (by omega) _ _ _ _, ((o4.put (by simp; omega) _ _ _ _).put (by simp; omega) _ _ _ _).le (by simp; omega), ((o3.put (by simp; omega) _ _ _ _).put (by simp; omega) _ _ _ _).le (by simp; omega), E1.out, F1.out, E2.out, F2.out, E3.out.trans (by rw [hp1.out]), E4.out.trans (by rw [hp1.out]), F3.out.trans (by rw [hp2.out]), F4.out.trans (by rw [hp2.out])⟩)
end Go.Proofs.Ytahpdifneajblaa
