/- The document's Do; All; the example. -/
import Derived.Test.YthcmgagmbioofaaDoorMem6
import Derived.Deep.LoopGhost
import Derived.Maps.AppendAt
namespace Go.Proofs.YthcmgagmbioofaaDoor
set_option linter.unusedVariables false
open Go.RowKit
set_option maxHeartbeats 1000000 in
theorem rdo_load (g : Nat) (us : List Nat) (i o n x : Nat) (hl : us.length ≤ 100000) (hi : i < us.length) (hx : us.getD i 0 = x) (W : World) (h : WB g us W) :
    Calls Tryd.prog 22 #[.slice (some ⟨g, 0, none⟩) us.length us.length, askM 1 i o n] W fun e w' => e = .returned (.int .u64 (x : Nat)) ∧ WB g us w' ∧ But g W w' := by
  have H := Lib.hid (h.next (ml1 W (askRow 1 i o n)))
  have H0 := Lib.hid h
  have xc := h.wd i hi
  rw [hx] at xc
  have fz := h.fz i
  have hlt := h.lt
  have hi1 : (i : Int) < (us.length : Int) := by omega
  have hi0 : (0 : Int) ≤ (i : Int) := by omega
  have hmx : us.length ≤ maxLen := by unfold maxLen; omega
  have HI := Lib.hid hi
  have HB := Lib.hid (ml1 W (askRow 1 i o n))
  clear h hi hx
  go_enter Tryd.func22, Tryd.ntmps22
  go_wp2
  go_ret
  exact ⟨rfl, H.out, But.of_below HB.out⟩
set_option maxHeartbeats 1000000 in
theorem rdo_store (g : Nat) (us : List Nat) (i o n x : Nat) (hl : us.length ≤ 100000) (hi : i < us.length) (hx : us.getD i 0 = x) (W : World) (h : WB g us W) :
    Calls Tryd.prog 22 #[.slice (some ⟨g, 0, none⟩) us.length us.length, askM 2 i o n] W fun e w' => e = .returned (.int .u64 0) ∧ WB g (us.set i n) w' ∧ But g W w' := by
  have H := Lib.hid (h.next (ml1 W (askRow 2 i o n)))
  have H0 := Lib.hid h
  have xc := h.wd i hi
  rw [hx] at xc
  have fz := h.fz i
  have hlt := h.lt
  have hi1 : (i : Int) < (us.length : Int) := by omega
  have hi0 : (0 : Int) ≤ (i : Int) := by omega
  have hmx : us.length ≤ maxLen := by unfold maxLen; omega
  have HI := Lib.hid hi
  have HB := Lib.hid (ml1 W (askRow 2 i o n))
  clear h hi hx
  go_enter Tryd.func22, Tryd.ntmps22
  go_wp2
  go_ret
  exact ⟨rfl, (H0.out.set HI.out).next (ml1 _ _), ((But.refl g W).set _).trans (But.of_below (ml1 _ _))⟩
set_option maxHeartbeats 1000000 in
theorem rdo_casy (g : Nat) (us : List Nat) (i o n x : Nat) (he : x = o) (hl : us.length ≤ 100000) (hi : i < us.length) (hx : us.getD i 0 = x) (W : World) (h : WB g us W) :
    Calls Tryd.prog 22 #[.slice (some ⟨g, 0, none⟩) us.length us.length, askM 3 i o n] W fun e w' => e = .returned (.int .u64 1) ∧ WB g (us.set i n) w' ∧ But g W w' := by
  have e3 : ((x : Int) != (o : Int)) = false := by simp; omega
  have H := Lib.hid (h.next (ml1 W (askRow 3 i o n)))
  have H0 := Lib.hid h
  have xc := h.wd i hi
  rw [hx] at xc
  have fz := h.fz i
  have hlt := h.lt
  have hi1 : (i : Int) < (us.length : Int) := by omega
  have hi0 : (0 : Int) ≤ (i : Int) := by omega
  have hmx : us.length ≤ maxLen := by unfold maxLen; omega
  have HI := Lib.hid hi
  have HB := Lib.hid (ml1 W (askRow 3 i o n))
  clear h hi hx he
  go_enter Tryd.func22, Tryd.ntmps22
  go_wp2
  go_ret
  exact ⟨rfl, (H0.out.set HI.out).next (ml1 _ _), ((But.refl g W).set _).trans (But.of_below (ml1 _ _))⟩
set_option maxHeartbeats 1000000 in
theorem rdo_casn (g : Nat) (us : List Nat) (i o n x : Nat) (he : x ≠ o) (hl : us.length ≤ 100000) (hi : i < us.length) (hx : us.getD i 0 = x) (W : World) (h : WB g us W) :
    Calls Tryd.prog 22 #[.slice (some ⟨g, 0, none⟩) us.length us.length, askM 3 i o n] W fun e w' => e = .returned (.int .u64 0) ∧ WB g us w' ∧ But g W w' := by
  have e3 : ((x : Int) != (o : Int)) = true := by simp; omega
  have H := Lib.hid (h.next (ml1 W (askRow 3 i o n)))
  have H0 := Lib.hid h
  have xc := h.wd i hi
  rw [hx] at xc
  have fz := h.fz i
  have hlt := h.lt
  have hi1 : (i : Int) < (us.length : Int) := by omega
  have hi0 : (0 : Int) ≤ (i : Int) := by omega
  have hmx : us.length ≤ maxLen := by unfold maxLen; omega
  have HI := Lib.hid hi
  have HB := Lib.hid (ml1 W (askRow 3 i o n))
  clear h hi hx he
  go_enter Tryd.func22, Tryd.ntmps22
  go_wp2
  go_ret
  exact ⟨rfl, H.out, But.of_below HB.out⟩
theorem rdo_low (g : Nat) (us : List Nat) (k a : Int) (o n : Nat) (hl : us.length ≤ 100000) (ha : a < 0) (W : World) :
    Calls Tryd.prog 22 #[.slice (some ⟨g, 0, none⟩) us.length us.length, askM k a o n] W fun e w' => e = .returned (.int .u64 0) ∧ Below W.heap.size W w' := by
  have HB := Lib.hid (ml1 W (askRow k a o n))
  go_enter Tryd.func22, Tryd.ntmps22
  go_wp2
  go_ret
  exact ⟨rfl, HB.out⟩
theorem rdo_high (g : Nat) (us : List Nat) (k a : Int) (o n : Nat) (hl : us.length ≤ 100000) (h0 : 0 ≤ a) (ha : (us.length : Int) ≤ a) (W : World) :
    Calls Tryd.prog 22 #[.slice (some ⟨g, 0, none⟩) us.length us.length, askM k a o n] W fun e w' => e = .returned (.int .u64 0) ∧ Below W.heap.size W w' := by
  have HB := Lib.hid (ml1 W (askRow k a o n))
  go_enter Tryd.func22, Tryd.ntmps22
  go_wp2
  go_ret
  exact ⟨rfl, HB.out⟩
theorem rdo_klow (g : Nat) (us : List Nat) (k a : Int) (o n : Nat) (hl : us.length ≤ 100000) (h0 : 0 ≤ a) (ha : a < (us.length : Int)) (hk : k < 1) (W : World) :
    Calls Tryd.prog 22 #[.slice (some ⟨g, 0, none⟩) us.length us.length, askM k a o n] W fun e w' => e = .returned (.int .u64 0) ∧ Below W.heap.size W w' := by
  have HB := Lib.hid (ml1 W (askRow k a o n))
  go_enter Tryd.func22, Tryd.ntmps22
  go_wp2
  go_ret
  exact ⟨rfl, HB.out⟩
theorem rdo_khigh (g : Nat) (us : List Nat) (k a : Int) (o n : Nat) (hl : us.length ≤ 100000) (h0 : 0 ≤ a) (ha : a < (us.length : Int)) (hk0 : 1 ≤ k) (hk : 3 < k) (W : World) :
    Calls Tryd.prog 22 #[.slice (some ⟨g, 0, none⟩) us.length us.length, askM k a o n] W fun e w' => e = .returned (.int .u64 0) ∧ Below W.heap.size W w' := by
  have HB := Lib.hid (ml1 W (askRow k a o n))
  go_enter Tryd.func22, Tryd.ntmps22
  go_wp2
  go_ret
  exact ⟨rfl, HB.out⟩
theorem rdo_any (g : Nat) (us : List Nat) (k a : Int) (o n : Nat) (hl : us.length ≤ 100000) (W : World) (h : WB g us W) :
    Calls Tryd.prog 22 #[.slice (some ⟨g, 0, none⟩) us.length us.length, askM k a o n] W fun e w' => e = .returned (.int .u64 (((doF us k a o n).1 : Nat))) ∧ WB g (doF us k a o n).2 w' ∧ But g W w' := by
  by_cases ha : 0 ≤ a ∧ a < us.length
  · obtain ⟨i, rfl⟩ : ∃ i : Nat, a = i := ⟨a.toNat, by omega⟩
    have hi : i < us.length := by omega
    have ed : doF us k i o n = if k = 1 then (us.getD i 0, us) else if k = 2 then (0, us.set i n) else if k = 3 then (if us.getD i 0 = o then (1, us.set i n) else (0, us)) else (0, us) := by
      unfold doF; rw [if_pos ha, Int.toNat_natCast]
    rw [ed]
    by_cases k1 : k = 1
    · subst k1; rw [if_pos rfl]; exact rdo_load g us i o n _ hl hi rfl W h
    · rw [if_neg k1]
      by_cases k2 : k = 2
      · subst k2; rw [if_pos rfl]; exact rdo_store g us i o n _ hl hi rfl W h
      · rw [if_neg k2]
        by_cases k3 : k = 3
        · subst k3; rw [if_pos rfl]
          by_cases he : us.getD i 0 = o
          · rw [if_pos he]; exact rdo_casy g us i o n _ he hl hi rfl W h
          · rw [if_neg he]; exact rdo_casn g us i o n _ he hl hi rfl W h
        · rw [if_neg k3]
          by_cases kl : k < 1
          · exact (rdo_klow g us k i o n hl ha.1 ha.2 kl W).mono fun e w' ⟨h1, h2⟩ => ⟨h1, h.next h2, But.of_below h2⟩
          · exact (rdo_khigh g us k i o n hl ha.1 ha.2 (by omega) (by omega) W).mono fun e w' ⟨h1, h2⟩ => ⟨h1, h.next h2, But.of_below h2⟩
  · have ed : doF us k a o n = (0, us) := by unfold doF; rw [if_neg ha]
    rw [ed]
    by_cases h0 : a < 0
    · exact (rdo_low g us k a o n hl h0 W).mono fun e w' ⟨h1, h2⟩ => ⟨h1, h.next h2, But.of_below h2⟩
    · exact (rdo_high g us k a o n hl (by omega) (by omega) W).mono fun e w' ⟨h1, h2⟩ => ⟨h1, h.next h2, But.of_below h2⟩
theorem But.under {g : Nat} {a b c : World} (h : But g a b) (k : Below a.heap.size b c) : But g a c :=
  ⟨k.os.trans h.os, k.tape.trans h.tape, k.output.trans h.output, Nat.le_trans h.size k.size, fun j hj hg => (k.block j hj).trans (h.block j hj hg)⟩
theorem rowBut {base n sz x : Nat} {e : TypeId} {v : Value} {xs : List Value} {W W' : World} (h : W.ownsRow base e sz v n xs) (hn : But x W W') (hx : x < base) : W'.ownsRow base e sz v n xs := by
  obtain ⟨h1, h2⟩ := h
  refine ⟨h1, ?_⟩
  rcases h2 with h2 | ⟨g, cap, cur, hv, hb, hh, h3⟩
  · exact .inl h2
  · refine .inr ⟨g, cap, cur, hv, hb, ?_, h3⟩
    rw [hn.block g ?_ (by omega)]
    · exact hh
    · rcases Nat.lt_or_ge g W.heap.size with hlt | hge
      · exact hlt
      · rw [Array.getElem?_eq_none hge] at hh; cases hh
theorem WB.under {g B : Nat} {us : List Nat} {W W' : World} (h : WB g us W) (hn : Below B W W') (hg : g < B) : WB g us W' :=
  ⟨fun i hi => (hn.cell (p := ⟨g, i, none⟩) hg).trans (h.wd i hi), fun i => (hn.frozen (p := ⟨g, i, none⟩) hg).trans (h.fz i), Nat.lt_of_lt_of_le h.lt hn.size⟩
theorem MB.under {g gw B : Nat} {s t f l p : Int} {us : List Nat} {W W' : World} (h : MB g gw s t f l p us W) (hn : Below B W W') (h1 : g < B) (h2 : gw < B) : MB g gw s t f l p us W' := by
  have e : ∀ i, W'.cell? ⟨g, i, none⟩ = W.cell? ⟨g, i, none⟩ := fun i => hn.cell (p := ⟨g, i, none⟩) h1
  obtain ⟨q, hr, hq⟩ := h.ex
  exact ⟨⟨q, ⟨(e _).trans hr.c0, (e _).trans hr.c1, (e _).trans hr.c2, (e _).trans hr.c3, (e _).trans hr.c4, (e _).trans hr.c5⟩, hq⟩, h.b.under hn h2, h.ne⟩
abbrev Aq := Int × Int × Nat × Nat
/-- A list of accesses that is read. -/
structure RA4 (W : World) (A : Option Addr) (b off : Nat) (qs : List Aq) : Prop where
  a : 0 < qs.length → A = some ⟨b, off, none⟩
  lt : 0 < qs.length → b < W.heap.size
  c0 : ∀ j, j < qs.length → W.cell? ⟨b, off + j * 4, none⟩ = some (.int .i64 ((qs.getD j (0, 0, 0, 0)).1))
  c1 : ∀ j, j < qs.length → W.cell? ⟨b, off + j * 4 + 1, none⟩ = some (.int .i64 ((qs.getD j (0, 0, 0, 0)).2.1))
  c2 : ∀ j, j < qs.length → W.cell? ⟨b, off + j * 4 + 2, none⟩ = some (.int .u64 (((qs.getD j (0, 0, 0, 0)).2.2.1 : Nat)))
  c3 : ∀ j, j < qs.length → W.cell? ⟨b, off + j * 4 + 3, none⟩ = some (.int .u64 (((qs.getD j (0, 0, 0, 0)).2.2.2 : Nat)))
theorem RA4.but {W W' : World} {A : Option Addr} {b off g : Nat} {qs : List Aq} (h : RA4 W A b off qs) (hb : But g W W') (hg : b ≠ g) : RA4 W' A b off qs :=
  ⟨h.a, fun h0 => Nat.lt_of_lt_of_le (h.lt h0) hb.size, fun j hj => (hb.cell (p := ⟨b, off + j * 4, none⟩) (h.lt (by omega)) hg).trans (h.c0 j hj), fun j hj => (hb.cell (p := ⟨b, off + j * 4 + 1, none⟩) (h.lt (by omega)) hg).trans (h.c1 j hj), fun j hj => (hb.cell (p := ⟨b, off + j * 4 + 2, none⟩) (h.lt (by omega)) hg).trans (h.c2 j hj), fun j hj => (hb.cell (p := ⟨b, off + j * 4 + 3, none⟩) (h.lt (by omega)) hg).trans (h.c3 j hj)⟩
/-- What accesses tell, one behind the other, and the words behind them. -/
def alls (us : List Nat) (qs : List Aq) : List Nat × List Nat := qs.foldl (fun s q => (s.1 ++ [(doF s.2 q.1 q.2.1 q.2.2.1 q.2.2.2).1], (doF s.2 q.1 q.2.1 q.2.2.1 q.2.2.2).2)) ([], us)
theorem alls_snoc (us : List Nat) (qs : List Aq) (j : Nat) (hj : j < qs.length) (tl vs : List Nat) (h : alls us (qs.take j) = (tl, vs)) (k a : Int) (o n : Nat) (hq : qs.getD j (0, 0, 0, 0) = (k, a, o, n)) : alls us (qs.take (j + 1)) = (tl ++ [(doF vs k a o n).1], (doF vs k a o n).2) := by
  have e : qs.getD j (0, 0, 0, 0) = qs[j] := by simp [List.getD, hj]
  rw [List.take_succ_eq_append_getElem hj, ← e, hq]
  unfold alls at h ⊢
  rw [List.foldl_append, h]; rfl
end Go.Proofs.YthcmgagmbioofaaDoor
