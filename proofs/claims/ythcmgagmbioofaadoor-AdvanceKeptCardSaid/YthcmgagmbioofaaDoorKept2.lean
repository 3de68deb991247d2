/- gleaningref10.New: some words; gleaningref09.Copy. -/
import Derived.Test.YthcmgagmbioofaaDoorKept
import Derived.Maps.AppendAt
namespace Go.Proofs.YthcmgagmbioofaaDoor
set_option linter.unusedVariables false
open Go.RowKit Go.Extern.Stop Go.Stop Go.Extern
theorem rword_1 (W : World) : Calls Tryd.prog 44 #[.agg #[.bool false, .bool false, .int .u64 0, .int .u64 1]] W fun e w' => e = .returned (.int .u64 1099511627776) ∧ Below W.heap.size W w' := by
  have HB := Lib.hid (below1 W)
  go_enter Tryd.func44, Tryd.ntmps44
  go_wp2
  go_ret
  exact ⟨rfl, HB.out _⟩
theorem K5.setV {B : Nat} {w0 : World} {g : Nat} {s t f l p : Int} {W : World} (h : K5 B w0 g s t f l p W) {q i : Nat} (hne : q ≠ g) (hq : B ≤ q) (v : Value) : K5 B w0 g s t f l p (W.setCell ⟨q, i, none⟩ v) := by
  obtain ⟨c0, c1, c2, c3, c4, bl, le⟩ := h
  have hne2 : g ≠ q := fun e => hne e.symm
  exact ⟨by simp [go_sem, c0], by simp [go_sem, c1], by simp [go_sem, c2], by simp [go_sem, c3], by simp [go_sem, c4], bl.setCell hq _, by simpa using le⟩
/-- A configuration's block, and n words. -/
structure NW (w : World) (s t f l p : Int) (g n : Nat) (us : List Nat) (W : World) : Prop where
  k : K5 w.heap.size w w.heap.size s t f l p W
  b : WB g us W
  len : us.length = n
  lg : w.heap.size < g
  sm : ∀ u ∈ us, u < 18446744073709551616
theorem NW.next {w : World} {s t f l p : Int} {g n : Nat} {us : List Nat} {W W' : World} (h : NW w s t f l p g n us W) (hn : Below W.heap.size W W') : NW w s t f l p g n us W' := ⟨h.k.next hn, h.b.next hn, h.len, h.lg, h.sm⟩
theorem NW.set {w : World} {s t f l p : Int} {g n : Nat} {us : List Nat} {W : World} (h : NW w s t f l p g n us W) (i x : Nat) (hi : i < n) (hx : x < 18446744073709551616) : NW w s t f l p g n (us.set i x) (W.setCell ⟨g, i, none⟩ (.int .u64 (x : Nat))) :=
  ⟨h.k.setV (by have := h.lg; omega) (by have := h.lg; omega) _, h.b.set (by rw [h.len]; exact hi), by rw [List.length_set]; exact h.len, h.lg, fun u hu => by
    rcases List.mem_or_eq_of_mem_set hu with hu | rfl
    · exact h.sm u hu
    · exact hx⟩
theorem NW.at {w : World} {s t f l p : Int} {g n : Nat} {us : List Nat} {W : World} (h : NW w s t f l p g n us W) (i : Nat) (hi : i < n) : ∃ v, W.cell? ⟨g, i, none⟩ = some v ∧ W.frozen? ⟨g, i, none⟩ = false := ⟨_, h.b.wd i (by rw [h.len]; exact hi), h.b.fz i⟩
/-- Some words. -/
def SomeW (g n : Nat) (W : World) : Prop := ∃ us : List Nat, WB g us W ∧ us.length = n ∧ ∀ u ∈ us, u < 18446744073709551616
set_option maxRecDepth 100000 in
set_option maxHeartbeats 1000000 in
theorem rnew10_any (s t f l p : Int) (h : okC s t f l p) (n : Nat) (hn : sizeL s t f = n) (hl : n ≤ 100000) (w : World) :
    Calls Tryd.prog 21 #[cfgV s t f l p] w fun e w' => ∃ g : Nat, e = .returned (.slice (some ⟨g, 0, none⟩) n n) ∧ w.heap.size < g ∧ SomeW g n w' ∧ Below w.heap.size w w' := by
  have hs1 := h.1.1
  have hs2 := h.1.2
  have hf := h.2.2.1
  have b0 := nodeI_bd (x := 0) h (by omega) (by omega)
  have b1 := nodeI_bd (x := 1) h (by omega) (by omega)
  have BX := Lib.hid (fun (x : Int) (h0 : 0 ≤ x) (h1 : x ≤ s) => nodeI_bd (x := x) h h0 h1)
  have NE := Lib.hid (rnew_yes s t f l p h n hn (by omega))
  have SH := Lib.hid (rshape_any s t f l p 0 h (by omega) (by omega))
  have VL := Lib.hid (rval0_any s t f l p h)
  have V1 := Lib.hid (rversion_any s t f l p 1 h (by omega) (by omega))
  have VX := Lib.hid (fun (x : Int) (h0 : 0 ≤ x) (h1 : x ≤ s) => rversion_any s t f l p x h h0 h1)
  have LX := Lib.hid (fun (x : Int) (h0 : 0 ≤ x) (h1 : x ≤ s) => rlink_any s t f l p x h h0 h1)
  have W1 := Lib.hid rword_1
  have hk : K5 w.heap.size w w.heap.size s t f l p (w.alloc (.cells #[.int .i64 s, .int .i64 t, .int .i64 f, .int .i64 l, .int .i64 p] 23)) := ⟨by simp, by simp, by simp, by simp, by simp, below1 _ _, by simp⟩
  have HK := Lib.hid hk
  have HN := Lib.hid hn
  obtain ⟨i0, e0, l0⟩ : ∃ i : Nat, nodeI t f 0 + 1 = i ∧ i < n := ⟨(nodeI t f 0 + 1).toNat, by omega, by omega⟩
  obtain ⟨i1, e1, l1⟩ : ∃ i : Nat, nodeI t f 0 + 3 + f = i ∧ i < n := ⟨(nodeI t f 0 + 3 + f).toNat, by omega, by omega⟩
  obtain ⟨i2, e2, l2⟩ : ∃ i : Nat, nodeI t f 1 = i ∧ i < n := ⟨(nodeI t f 1).toNat, by omega, by omega⟩
  rw [e0] at SH
  rw [e1] at VL
  rw [e2] at V1
  have l3 : 10 < n := by omega
  have hmx : n ≤ maxLen := by unfold maxLen; omega
  have hn0 : ((n : Int) == 0) = false := by simp; omega
  have L0 := Lib.hid l0
  have L1 := Lib.hid l1
  have L2 := Lib.hid l2
  have g0 : (i0 : Int) < (n : Int) := by omega
  have g1 : (i1 : Int) < (n : Int) := by omega
  have g2 : (i2 : Int) < (n : Int) := by omega
  clear b0 b1 e0 e1 e2 hk h hn
  go_enter Tryd.func21, Tryd.ntmps21
  go_wp2_with (first
    | (go_at_call 41; refine (NE.out _).mono ?_; rintro e wa ⟨g, rfl, hg, hwb, hb⟩; have K0 := Lib.hid (show NW w s t f l p g n (List.replicate n 0) wa from ⟨HK.out.next hb, hwb, by simp, by simp at hg; omega, by intro u hu; rw [List.mem_replicate] at hu; omega⟩); clear hg hwb hb; have c0 := K0.out.k.c0; have c1 := K0.out.k.c1; have c2 := K0.out.k.c2; have c3 := K0.out.k.c3; have c4 := K0.out.k.c4)
    | (go_at_call 42; refine (SH.out _).mono ?_; rintro e wb ⟨rfl, hb⟩; have K1 := Lib.hid (K0.out.next hb); clear hb c0 c1 c2 c3 c4; obtain ⟨v1, x1, z1⟩ := K1.out.at i0 L0.out; have K1s := Lib.hid (K1.out.set i0 3 L0.out (by omega)); have c0 := K1.out.k.c0; have c1 := K1.out.k.c1; have c2 := K1.out.k.c2; have c3 := K1.out.k.c3; have c4 := K1.out.k.c4; have ng := K1.out.lg)
    | (go_at_call 43; refine (VL.out _).mono ?_; rintro e wc ⟨rfl, hb⟩; have K2 := Lib.hid (K1s.out.next hb); clear hb c0 c1 c2 c3 c4 x1 z1; obtain ⟨v2, x2, z2⟩ := K2.out.at i1 L1.out; have K2s := Lib.hid (K2.out.set i1 65537 L1.out (by omega)); have c0 := K2.out.k.c0; have c1 := K2.out.k.c1; have c2 := K2.out.k.c2; have c3 := K2.out.k.c3; have c4 := K2.out.k.c4)
    | (go_at_call 45; (with_reducible refine (V1.out _).mono ?_); rintro e wd ⟨rfl, hb⟩; have K3 := Lib.hid (K2s.out.next hb); clear hb c0 c1 c2 c3 c4 x2 z2)
    | (go_at_call 44; refine (W1.out _).mono ?_; rintro e we ⟨rfl, hb⟩; have K4 := Lib.hid (K3.out.next hb); clear hb; obtain ⟨v3, x3, z3⟩ := K4.out.at i2 L2.out; have K4s := Lib.hid (K4.out.set i2 1099511627776 L2.out (by omega)); have c0 := K4.out.k.c0; have c1 := K4.out.k.c1; have c2 := K4.out.k.c2; have c3 := K4.out.k.c3; have c4 := K4.out.k.c4))
  have KS := Lib.hid (K4s.out)
  clear K0 K1 K1s K2 K2s K3 K4 K4s c0 c1 c2 c3 c4 x3 z3
  clear V1 SH VL W1 NE L0 L1 L2 g0 g1 g2 HK
  generalize hg : w.heap.size = gc at KS ng ⊢
  have HGC := Lib.hid hg
  clear hg
  go_loopg [4] (s.toNat + 1) (fun k i wr => ∃ (j : Nat) (us : List Nat), 2 ≤ j ∧ (j : Int) ≤ s + 1 ∧ k = s.toNat + 3 - j ∧ i = .int .i64 (j : Nat) ∧ NW w s t f l p g n us wr)
  case atStart => exact ⟨2, _, by omega, by omega, by omega, rfl, KS.out⟩
  case round =>
    clear KS
    obtain ⟨j, us, h2, hj, hk, rfl, hr⟩ := hrel
    have HR := Lib.hid hr
    have c0 := hr.k.c0; have c1 := hr.k.c1; have c2 := hr.k.c2; have c3 := hr.k.c3; have c4 := hr.k.c4
    rw [HGC.out] at c0 c1 c2 c3 c4
    clear hr
    by_cases hle : (j : Int) ≤ s
    · have bj := BX.out (j : Int) (by omega) hle
      have hnn := HN.out
      obtain ⟨i3, e3, l3'⟩ : ∃ i : Nat, nodeI t f (j : Int) = i ∧ i < n := ⟨(nodeI t f (j : Int)).toNat, by omega, by omega⟩
      obtain ⟨i4, e4, l4⟩ : ∃ i : Nat, nodeI t f (j : Int) + 2 = i ∧ i < n := ⟨(nodeI t f (j : Int) + 2).toNat, by omega, by omega⟩
      have VJ := VX.out (j : Int) (by omega) hle
      have LJ := LX.out (j : Int) (by omega) hle
      rw [e3] at VJ
      rw [e4] at LJ
      have VJ := Lib.hid VJ
      have LJ := Lib.hid LJ
      have L3 := Lib.hid l3'
      have L4 := Lib.hid l4
      have g3 : (i3 : Int) < (n : Int) := by omega
      have g4 : (i4 : Int) < (n : Int) := by omega
      have hwq : IntKind.u64.wrap ((j : Int) + 1) = ((j + 1 : Nat) : Int) := by rw [IntWalk.u64_in _ ⟨by omega, by omega⟩]; omega
      have hwj : IntKind.u64.wrap (j : Int) = (j : Int) := IntWalk.u64_in _ ⟨by omega, by omega⟩
      clear bj hnn e3 e4
      by_cases hlt : (j : Int) < s
      · go_wp2_with (first
          | (go_at_call 45; refine (VJ.out _).mono ?_; rintro e wf ⟨rfl, hb⟩; have K1 := Lib.hid (HR.out.next hb); clear hb c0 c1 c2 c3 c4; obtain ⟨v1, x1, z1⟩ := K1.out.at i3 L3.out; have K1s := Lib.hid (K1.out.set i3 2 L3.out (by omega)); have c0 := K1.out.k.c0; have c1 := K1.out.k.c1; have c2 := K1.out.k.c2; have c3 := K1.out.k.c3; have c4 := K1.out.k.c4; rw [HGC.out] at c0 c1 c2 c3 c4)
          | (go_at_call 46; refine (LJ.out _).mono ?_; rintro e wg ⟨rfl, hb⟩; have K2 := Lib.hid (K1s.out.next hb); clear hb c0 c1 c2 c3 c4 x1 z1; obtain ⟨v2, x2, z2⟩ := K2.out.at i4 L4.out; have K2s := Lib.hid (K2.out.set i4 (j + 1) L4.out (by omega))))
        go_roundg (s.toNat + 3 - (j + 1))
        case rel => exact ⟨j + 1, _, by omega, by omega, rfl, by go_num, K2s.out⟩
        case measure => omega
      · go_wp2_with (go_at_call 45; refine (VJ.out _).mono ?_; rintro e wf ⟨rfl, hb⟩; have K1 := Lib.hid (HR.out.next hb); clear hb c0 c1 c2 c3 c4; obtain ⟨v1, x1, z1⟩ := K1.out.at i3 L3.out; have K1s := Lib.hid (K1.out.set i3 2 L3.out (by omega)); have c0 := K1.out.k.c0; have c1 := K1.out.k.c1; have c2 := K1.out.k.c2; have c3 := K1.out.k.c3; have c4 := K1.out.k.c4; rw [HGC.out] at c0 c1 c2 c3 c4)
        go_roundg (s.toNat + 3 - (j + 1))
        case rel => exact ⟨j + 1, _, by omega, by omega, rfl, by go_num, K1s.out⟩
        case measure => omega
    · have hgt : s < (j : Int) := by omega
      obtain ⟨v5, x5, z5⟩ := HR.out.at 2 (by omega)
      have K5s := Lib.hid (HR.out.set 2 2 (by omega) (by omega))
      by_cases h5 : 2 ≤ s
      · go_wp2
        go_ret
        exact ⟨g, rfl, by have := HR.out.lg; have := HGC.out; omega, ⟨_, K5s.out.b, K5s.out.len, K5s.out.sm⟩, by have h := K5s.out.k.bl; first | exact h | (rw [HGC.out] at h; exact h)⟩
      · go_wp2
        go_ret
        exact ⟨g, rfl, by have := HR.out.lg; have := HGC.out; omega, ⟨us, HR.out.b, HR.out.len, HR.out.sm⟩, by have h := HR.out.k.bl; first | exact h | (rw [HGC.out] at h; exact h)⟩
end Go.Proofs.YthcmgagmbioofaaDoor
