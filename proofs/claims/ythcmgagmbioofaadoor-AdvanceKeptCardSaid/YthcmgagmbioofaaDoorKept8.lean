/- The classes of the law AdvanceKept's rounds. -/
import Derived.Test.YthcmgagmbioofaaDoorKept7
namespace Go.Proofs.YthcmgagmbioofaaDoor
set_option linter.unusedVariables false
open Go.RowKit Go.Extern.Stop Go.Stop Go.Extern
theorem doF_sm {us : List Nat} {k a : Int} {o n : Nat} (h : ∀ u ∈ us, u < 18446744073709551616) (hn : n < 18446744073709551616) : ∀ u ∈ (doF us k a o n).2, u < 18446744073709551616 := by
  have hs : ∀ (i : Nat) (u : Nat), u ∈ us.set i n → u < 18446744073709551616 := fun i u hu => by
    rcases List.mem_or_eq_of_mem_set hu with hu | rfl
    · exact h u hu
    · exact hn
  intro u hu
  unfold doF at hu
  split at hu
  · split at hu
    · exact h u hu
    split at hu
    · exact hs _ u hu
    split at hu
    · split at hu
      · exact hs _ u hu
      · exact h u hu
    · exact h u hu
  · exact h u hu
theorem sm_get {us : List Nat} (h : ∀ u ∈ us, u < 18446744073709551616) (i : Nat) : us.getD i 0 < 18446744073709551616 := by
  by_cases hi : i < us.length
  · rw [List.getD_eq_getElem?_getD, List.getElem?_eq_getElem hi]
    exact h _ (List.getElem_mem hi)
  · rw [List.getD_eq_getElem?_getD, List.getElem?_eq_none (by omega)]
    show 0 < _
    omega
/-- A write ahead. -/
structure QWA (w : World) (s t f l p : Int) (gw : Nat) (us : List Nat) (bb o : Nat) (a : Int) (v : Nat) (W : World) : Prop extends KW0 w s t f l p gw us W where
  x0 : W.cell? ⟨bb, o, none⟩ = some (.int .i64 a)
  x1 : W.cell? ⟨bb, o + 1, none⟩ = some (.int .u64 (v : Nat))
  xb : bb < w.heap.size
theorem QWA.next {w : World} {s t f l p : Int} {gw : Nat} {us : List Nat} {b o : Nat} {a : Int} {v : Nat} {W W' : World} (h : QWA w s t f l p gw us b o a v W) (hn : Below W.heap.size W W') : QWA w s t f l p gw us b o a v W' :=
  ⟨h.toKW0.next hn, (hn.cell (p := ⟨b, o, none⟩) (Nat.lt_of_lt_of_le h.xb h.k.bl.size)).trans h.x0, (hn.cell (p := ⟨b, o + 1, none⟩) (Nat.lt_of_lt_of_le h.xb h.k.bl.size)).trans h.x1, h.xb⟩
/-- The words and those that were, by their cells. -/
theorem KW1.vw {w : World} {s t f l p : Int} {g1 : Nat} {x : Ad} {gw : Nat} {vs : List Nat} {gc : Nat} {us : List Nat} {W : World} (h : KW1 w s t f l p g1 x gw vs gc us W) (i : Nat) (hi : i < vs.length) : W.cell? ⟨gw, i, none⟩ = some (.int .u64 (vs.getD i 0 : Nat)) := h.b.wd i hi
theorem KW1.uw {w : World} {s t f l p : Int} {g1 : Nat} {x : Ad} {gw : Nat} {vs : List Nat} {gc : Nat} {us : List Nat} {W : World} (h : KW1 w s t f l p g1 x gw vs gc us W) (i : Nat) (hi : i < us.length) : W.cell? ⟨gc, i, none⟩ = some (.int .u64 (us.getD i 0 : Nat)) := h.c.wd i hi
/-- One round of the run: what it wants, what the words tell, what it is then. -/
theorem run_round {s t f l p th : Int} {us : List Nat} {x : Ad} {vs : List Nat} {n : Nat} (h : Run s t f l p th us x vs n) (hok : okC s t f l p) (h0 : 0 ≤ th) (ht : th < t) (hlen : 3 + t.toNat ≤ us.length) (hl : us.length ≤ 100000) (hsm : ∀ u ∈ us, u < 18446744073709551616) (hx : AOK x) (hvl : vs.length = us.length) (hs : x.st ≠ 0) :
    ∃ (k a : Int) (o m got : Nat) (vs' : List Nat) (x' : Ad), (∀ W : World, Calls Tryd.prog 11 #[adV x] W fun e w' => e = .returned (askM k a o m) ∧ Below W.heap.size W w') ∧
      (∀ (g : Nat) (W : World), WB g vs W → Calls Tryd.prog 22 #[.slice (some ⟨g, 0, none⟩) us.length us.length, askM k a o m] W fun e w' => e = .returned (.int .u64 (got : Nat)) ∧ WB g vs' w' ∧ But g W w') ∧
      (∀ W : World, Calls Tryd.prog 17 #[adV x, .int .u64 (got : Nat)] W fun e w' => e = .returned (adV x') ∧ Below W.heap.size W w') ∧
      Run s t f l p th us x' vs' (n + 1) ∧ AOK x' ∧ vs'.length = us.length := by
  obtain ⟨k, a, o, m, hw, hg, hr⟩ := run_step h hok h0 ht hlen (fun i => sm_get hsm i) hs
  refine ⟨k, a, o, m, _, _, _, hw, fun g W hb => ?_, fun W => atook_any x hx _ hg W, hr, hx.took _ hg, by rw [doF_len]; exact hvl⟩
  have := rdo_any g vs k a o m (by omega) W hb
  rw [hvl] at this
  exact this
/-- What Done tells of it. -/
theorem run_done {s t f l p th : Int} {us : List Nat} {x : Ad} {vs : List Nat} {n : Nat} (h : Run s t f l p th us x vs n) :
    ∃ oc : Int, (x.st = 0 → oc = x.oc) ∧ ∀ W : World, Calls Tryd.prog 10 #[adV x] W fun e w' => e = .returned (.tuple #[.int .i64 oc, .bool (x.st == 0)]) ∧ Below W.heap.size W w' := by
  cases h with
  | begins => exact ⟨0, fun h => by simp at h, fun W => adone_no _ _ _ _ _ _ _ _ _ _ _ _ _ (by omega) W⟩
  | ann => exact ⟨0, fun h => by simp at h, fun W => adone_no _ _ _ _ _ _ _ _ _ _ _ _ _ (by omega) W⟩
  | clk => exact ⟨0, fun h => by simp at h, fun W => adone_no _ _ _ _ _ _ _ _ _ _ _ _ _ (by omega) W⟩
  | evi => exact ⟨0, fun h => by simp at h, fun W => adone_no _ _ _ _ _ _ _ _ _ _ _ _ _ (by omega) W⟩
  | go => exact ⟨0, fun h => by simp at h, fun W => adone_no _ _ _ _ _ _ _ _ _ _ _ _ _ (by omega) W⟩
  | gone => exact ⟨3, fun _ => rfl, fun W => adone_yes _ _ _ _ _ _ _ _ _ _ _ _ (by omega) W⟩
  | stuck => exact ⟨1, fun _ => rfl, fun W => adone_yes _ _ _ _ _ _ _ _ _ _ _ _ (by omega) W⟩
theorem run_top {s t f l p th : Int} {us : List Nat} {x : Ad} {vs : List Nat} {n : Nat} (h : Run s t f l p th us x vs n) (h0 : 0 ≤ th) (ht : th < t) (hlen : 3 + t.toNat ≤ us.length) : (n : Int) ≤ 2 + 3 * (t - 1) := by
  by_cases hs : x.st = 0
  · exact (run_fin h hlen hs).n
  · have := run_lt h h0 ht hs; omega
theorem rannK (s t f l p : Int) (j : Nat) (h1 : j < 64) (W : World) :
    Calls Tryd.prog 24 #[cfgV s t f l p, .int .i64 (j : Nat)] W fun e w' => e = .returned (.int .i64 ((3 + j : Nat) : Int)) ∧ Below W.heap.size W w' := by
  have HB := Lib.hid (below1 W)
  go_enter Tryd.func24, Tryd.ntmps24
  go_wp2
  go_ret
  exact ⟨ret_i (by omega), HB.out _⟩
/-- With the words at hand that the last loop reads. -/
structure KW3 (w : World) (s t f l p : Int) (g1 : Nat) (x : Ad) (gw : Nat) (vs : List Nat) (gc : Nat) (us : List Nat) (i X Y E C V : Nat) (W : World) : Prop extends KW1 w s t f l p g1 x gw vs gc us W where
  xi : W.cell? ⟨gc, i, none⟩ = some (.int .u64 (X : Nat))
  yi : W.cell? ⟨gw, i, none⟩ = some (.int .u64 (Y : Nat))
  u0 : W.cell? ⟨gc, 0, none⟩ = some (.int .u64 (E : Nat))
  u1 : W.cell? ⟨gc, 1, none⟩ = some (.int .u64 (C : Nat))
  v0 : W.cell? ⟨gw, 0, none⟩ = some (.int .u64 (V : Nat))
section
variable {w : World} {s t f l p : Int} {g1 : Nat} {x : Ad} {gw : Nat} {vs : List Nat} {gc : Nat} {us : List Nat} {i X Y E C V : Nat} {W W' : World}
theorem KW3.next (h : KW3 w s t f l p g1 x gw vs gc us i X Y E C V W) (hn : Below W.heap.size W W') : KW3 w s t f l p g1 x gw vs gc us i X Y E C V W' :=
  ⟨h.toKW1.next hn, (hn.cell (p := ⟨gc, i, none⟩) h.c.lt).trans h.xi, (hn.cell (p := ⟨gw, i, none⟩) h.b.lt).trans h.yi, (hn.cell (p := ⟨gc, 0, none⟩) h.c.lt).trans h.u0, (hn.cell (p := ⟨gc, 1, none⟩) h.c.lt).trans h.u1, (hn.cell (p := ⟨gw, 0, none⟩) h.b.lt).trans h.v0⟩
theorem KW3.drew (h : KW3 w s t f l p g1 x gw vs gc us i X Y E C V W) : KW3 w s t f l p g1 x gw vs gc us i X Y E C V W.drew := h.next (Below.refl _ _).drew
theorem KW3.p4 (h : KW3 w s t f l p g1 x gw vs gc us i X Y E C V W) : W.cell? ⟨w.heap.size, 4, none⟩ = some (.int .i64 p) := h.k.c4
theorem KW3.of (h : KW1 w s t f l p g1 x gw vs gc us W) (hi : i < us.length) (hv : vs.length = us.length) (h1 : 1 < us.length) (e1 : us.getD i 0 = X) (e2 : vs.getD i 0 = Y) (e3 : us.getD 0 0 = E) (e4 : us.getD 1 0 = C) (e5 : vs.getD 0 0 = V) : KW3 w s t f l p g1 x gw vs gc us i X Y E C V W :=
  ⟨h, by rw [← e1]; exact h.c.wd i hi, by rw [← e2]; exact h.b.wd i (by omega), by rw [← e3]; exact h.c.wd 0 (by omega), by rw [← e4]; exact h.c.wd 1 h1, by rw [← e5]; exact h.b.wd 0 (by omega)⟩
end
end Go.Proofs.YthcmgagmbioofaaDoor
