/- Contract of seek.Of; chapter 11's example. -/
import Derived.Test.YtahpdifneajblaaSeekOf
namespace Go.Proofs.Ytahpdifneajblaa
set_option linter.unusedVariables false
open Go.RowKit
/-- A search that begins. -/
def Sk.new (k n q : Int) : Sk := if k = 1 ∨ k = 2 then ⟨k, q, 0, max n 0⟩ else ⟨0, 0, 0, 0⟩
theorem Sk.new_ok (k n q : Int) (h : n ≤ 9223372036854775807) : (Sk.new k n q).ok := by
  unfold Sk.ok Sk.new; split <;> simp only <;> omega
theorem Sk.new_hi (k n q : Int) (h : 0 ≤ n) : (Sk.new k n q).hi ≤ n := by
  unfold Sk.new; split <;> simp only <;> omega
theorem snew_any (k n q : Int) (W : World) :
    Calls Try.prog 33 #[.int .i64 k, .int .i64 n, .int .u64 q] W fun e w' => e = .returned (Sk.new k n q).val ∧ Below W.heap.size W w' := by
  unfold Sk.new Sk.val
  by_cases h : k = 1 ∨ k = 2
  · rw [if_pos h]; exact snew_in k n q h W
  · rw [if_neg h]; exact snew_out k n q h W
/-- Where a search among keys comes. -/
def ofN (k : Int) (ks : List Int) (q : Int) : Int := (Sk.fin ks ((Sk.new k ks.length q).hi - (Sk.new k ks.length q).lo).toNat (Sk.new k ks.length q)).lo
theorem sof_any (k q : Int) (ks : List Int) (A : Option Addr) (b off c : Nat) (hn : ks.length ≤ maxLen) (W : World)
    (hA : 0 < ks.length → A = some ⟨b, off, none⟩ ∧ b < W.heap.size)
    (hx : ∀ i, i < ks.length → W.cell? ⟨b, off + i, none⟩ = some (.int .u64 (ks.getD i 0))) :
    Calls Try.prog 26 #[.int .i64 k, .slice A ks.length c, .int .u64 q] W fun e w' => e = .returned (.int .i64 (ofN k ks q)) ∧ Below W.heap.size W w' := by
  have N := Lib.hid (fun W => snew_any k ks.length q W)
  have hok := Lib.hid (Sk.new_ok k ks.length q (by unfold maxLen at hn; omega))
  have hhi := Lib.hid (Sk.new_hi k ks.length q (by omega))
  have hR : ofN k ks q = (Sk.fin ks ((Sk.new k ks.length q).hi - (Sk.new k ks.length q).lo).toNat (Sk.new k ks.length q)).lo := rfl
  generalize ofN k ks q = r at hR ⊢
  generalize Sk.new k ks.length q = s0 at N hok hhi hR
  obtain ⟨R, hRR⟩ : ∃ R : Sk, R = Sk.fin ks (s0.hi - s0.lo).toNat s0 := ⟨_, rfl⟩
  rw [← hRR] at hR
  have run := fun (kb : Nat) (W : World) => run_any ks kb b off c s0 hok.out hhi.out hn W
  rw [← hRR] at run
  obtain ⟨k2, q2, lo2, hi2⟩ := R
  simp only at hR
  subst hR
  have RUN := Lib.hid run
  have HA := Lib.hid hA
  have HX := Lib.hid hx
  have hln : (ks.length : Int) ≤ 9223372036854775807 := by unfold maxLen at hn; omega
  clear run hRR hA hx
  unfold Sk.val at N RUN
  go_enter Try.func26, Try.ntmps26
  go_wp2_with (first | (go_at_call 33; refine (N.out _).mono ?_; rintro e w1 ⟨rfl, hb1⟩; have hz1 := hb1.size; have HC1 := Lib.hid (bcell hb1).1; have HB1 := Lib.hid hb1; clear hb1) | (go_at_call 32; refine (RUN.out W.heap.size _ (fun h => ⟨by simp at hz1; omega, by have := (HA.out h).2; simp at hz1; omega, ?_⟩) (fun i hi => ?_)).mono ?_) | (go_at_call 35; refine (sat_any _ _ _ _ _).mono ?_; rintro e w3 ⟨rfl, hb3⟩; have HB3 := Lib.hid hb3; clear hb3))
  · refine (HC1.out W.heap.size 0 (by simp)).trans ?_
    rw [(HA.out h).1]
    go_simp
  · refine (HC1.out b (off + i) (by have := (HA.out (by omega)).2; simp; omega)).trans ?_
    refine Eq.trans (World.cell?_alloc_lt _ _ _ (HA.out (by omega)).2) (HX.out i hi)
  · rintro e w2 ⟨rfl, hb2⟩
    have hz2 := hb2.size
    have HB2 := Lib.hid hb2
    clear hb2
    go_wp2_with (go_at_call 35; refine (sat_any _ _ _ _ _).mono ?_; rintro e w3 ⟨rfl, hb3⟩; have HB3 := Lib.hid hb3; clear hb3)
    go_ret
    refine ⟨rfl, ?_⟩
    have b0 : Below W.heap.size W (W.alloc (Obj.cells #[Value.slice A ks.length c] 22)) := (Below.refl _ _).alloc (Nat.le_refl _) _
    have b1 := b0.trans (HB1.out.mono b0.size)
    have b2 := b1.trans (HB2.out.mono b1.size)
    exact b2.trans (HB3.out.mono b2.size)

/-! ### Chapter 11's example -/
theorem bl_next {w w1 w2 : World} (h : Below w.heap.size w w1) (hn : Below w1.heap.size w1 w2) : Below w.heap.size w w2 := h.trans (hn.mono h.size)
def KS (b : Nat) (ks : List Int) (W : World) : Prop := b < W.heap.size ∧ ∀ i, i < ks.length → W.cell? ⟨b, 0 + i, none⟩ = some (.int .u64 (ks.getD i 0))
theorem KS.next {b : Nat} {ks : List Int} {W W' : World} (h : KS b ks W) (hn : Below W.heap.size W W') : KS b ks W' :=
  ⟨Nat.lt_of_lt_of_le h.1 hn.size, fun i hi => ((bcell hn).1 _ _ h.1).trans (h.2 i hi)⟩
theorem KS.alloc {b : Nat} {ks : List Int} {W : World} (h : KS b ks W) (o : Obj) : KS b ks (W.alloc o) :=
  ⟨by have := h.1; simp; omega, fun i hi => (World.cell?_alloc_lt _ _ _ h.1).trans (h.2 i hi)⟩
end Go.Proofs.Ytahpdifneajblaa
