import Derived.Test.YtdfabagclnjoaaaEvGa
import Derived.RangeFuncNested
import Derived.RangeFuncLeaves
import Derived.OrdersIn
import Derived.LoopNIn
import Derived.TacticsIn
namespace Go.Proofs.Ytdfabagclnjoaaa
set_option linter.unusedSimpArgs false
set_option linter.unusedVariables false
open Go
/-- A new block that is no row. -/
theorem Aft.newOb {P : Program} {σ : Sub} {s : Hs} {w : World} (h : Rel P σ s w) (ok : s.Ok) (ob₀ : Ob) (o : Obj) (hb₀ : ob₀.bd (s.n + 1) = true) (hn : s.n < 2 ^ HD)
    (hat : ∀ σ', Sub.same s.n σ' σ → σ'.b s.n = w.heap.size → ob₀.At P σ' { w with heap := w.heap.push o } s.n) :
    ∃ σ', σ'.b s.n = w.heap.size ∧ Aft P σ s w σ' ⟨s.n + 1, tset HD s.h s.n ob₀, s.wr⟩ { w with heap := w.heap.push o } := by
  let σ' : Sub := ⟨fun i => if i = s.n then w.heap.size else σ.b i, σ.c⟩
  have hsame : Sub.same s.n σ' σ := fun i hi => by
    have : i ≠ s.n := by omega
    simp [σ', this]
  have hget := fun j => Hs.get_push (s := s) (j := j) (ob := ob₀) hn
  have hcase : ∀ j ob, (Hs.mk (s.n + 1) (tset HD s.h s.n ob₀) s.wr).get j = some ob → (j = s.n ∧ ob = ob₀) ∨ (j < s.n ∧ s.get j = some ob) := by
    intro j ob hj
    rw [hget j] at hj
    by_cases he : j = s.n
    · rw [if_pos he] at hj; exact .inl ⟨he, by injection hj with hj; exact hj.symm⟩
    · rw [if_neg he] at hj; exact .inr ⟨Hs.get_lt hj, hj⟩
  have hnew : σ'.b s.n = w.heap.size := by simp [σ']
  have hheap : ∀ b, b < w.heap.size → (w.heap.push o)[b]? = w.heap[b]? := fun b hb => by
    rw [Array.getElem?_push, if_neg (by omega)]
  refine ⟨σ', hnew, ⟨by simp, fun i hi => ?_, ⟨fun i ob hi => ?_, fun i j hi hj he => ?_, fun i hi => by rw [(hsame i (Nat.lt_of_lt_of_le hi h.ge)).1]; exact h.gl i hi, Nat.le_succ_of_le h.ge⟩, ⟨by simp; omega, fun i ob hi => ?_⟩, by simp, rfl, rfl, rfl, fun _ h => h, fun i h1 h2 => .inl ?_, fun b hb _ => hheap b hb⟩⟩
  · have : i ≠ s.n := by
      rcases hi with hi | hi
      · omega
      · simp only at hi; omega
    simp [σ', this]
  · rcases hcase i ob hi with ⟨rfl, rfl⟩ | ⟨hlt, ho⟩
    · exact hat σ' hsame hnew
    · have hb := (ok.bd i ob ho).2
      cases hal : ob.alive with
      | false => cases ob <;> first | trivial | cases hal
      | true => exact Ob.At_congr hsame hlt hb (hheap _ (h.lt ⟨ob, ho, hal⟩)) (h.at_ i _ ho)
  · obtain ⟨ob1, h1, al1⟩ := hi
    obtain ⟨ob2, h2, al2⟩ := hj
    rcases hcase i _ h1 with ⟨rfl, _⟩ | ⟨hi, ho1⟩ <;> rcases hcase j _ h2 with ⟨rfl, _⟩ | ⟨hj, ho2⟩
    · rfl
    · rw [hnew, (hsame j hj).1] at he
      have := h.lt ⟨_, ho2, al2⟩; omega
    · rw [hnew, (hsame i hi).1] at he
      have := h.lt ⟨_, ho1, al1⟩; omega
    · rw [(hsame i hi).1, (hsame j hj).1] at he
      exact h.inj i j ⟨_, ho1, al1⟩ ⟨_, ho2, al2⟩ he
  · rcases hcase i ob hi with ⟨rfl, rfl⟩ | ⟨hi, ho⟩
    · exact ⟨by simp, hb₀⟩
    · exact ⟨by simp; omega, Ob.bd_mono (by simp) ob (ok.bd i ob ho).2⟩
  · have : i = s.n := by simp at h2; omega
    subst this; rw [hnew]; exact Nat.le_refl _
/-- Such a block is turned. -/
theorem Aft.putOb {P : Program} {σ : Sub} {s : Hs} {w : World} (h : Rel P σ s w) (ok : s.Ok) {i : Nat} {ob₀ ob₁ : Ob} {o' : Obj} (hi : s.get i = some ob₀) (hal₀ : ob₀.alive = true) (hb₁ : ob₁.bd s.n = true)
    (hat : ob₁.At P σ { w with heap := w.heap.setIfInBounds (σ.b i) o' } i) :
    Aft P σ s w σ ⟨s.n, tset HD s.h i ob₁, s.wr ||| 1 <<< i⟩ { w with heap := w.heap.setIfInBounds (σ.b i) o' } := by
  have hin := Hs.get_lt hi
  have hget := fun j => Hs.get_set (n := s.n) (wr := s.wr) (wr' := s.wr ||| 1 <<< i) (h := s.h) (i := i) (j := j) (ob := ob₁) ok.top hin
  have hb2 : σ.b i < w.heap.size := h.lt ⟨_, hi, hal₀⟩
  have hne : ∀ b, b ≠ σ.b i → (w.heap.setIfInBounds (σ.b i) o')[b]? = w.heap[b]? := fun b hb => Array.getElem?_setIfInBounds_ne (Ne.symm hb)
  have hlive : ∀ j, (Hs.mk s.n (tset HD s.h i ob₁) (s.wr ||| 1 <<< i)).live j → s.live j := by
    rintro j ⟨ob1, hj, al⟩
    rw [hget j] at hj
    by_cases he : j = i
    · subst he; exact ⟨_, hi, hal₀⟩
    · rw [if_neg he] at hj; exact ⟨_, hj, al⟩
  refine ⟨Nat.le_refl _, fun _ _ => ⟨rfl, rfl⟩, ⟨fun j ob hj => ?_, fun j k hj hk he => h.inj j k (hlive j hj) (hlive k hk) he, h.gl, h.ge⟩, ⟨ok.top, fun j ob hj => ?_⟩, by simp, rfl, rfl, rfl, fun j hj => by simp [Nat.testBit_or, hj], fun j h1 h2 => by simp at h2; omega, fun b hb hn => ?_⟩
  · rw [hget j] at hj
    by_cases he : j = i
    · subst he
      rw [if_pos rfl] at hj; injection hj with hj; subst hj
      exact hat
    · rw [if_neg he] at hj
      cases hal : ob.alive with
      | false => cases ob <;> first | trivial | cases hal
      | true =>
        refine Ob.At_congr (n := s.n) (fun _ _ => ⟨rfl, rfl⟩) (Hs.get_lt hj) (ok.bd j _ hj).2 (hne _ fun hb => he (h.inj j i ⟨_, hj, hal⟩ ⟨_, hi, hal₀⟩ hb)) (h.at_ j _ hj)
  · rw [hget j] at hj
    by_cases he : j = i
    · subst he
      rw [if_pos rfl] at hj; injection hj with hj; subst hj
      exact ⟨hin, hb₁⟩
    · rw [if_neg he] at hj
      exact ok.bd j ob hj
  · refine hne b fun hbe => hn i hin ?_ hbe.symm
    simp [Nat.testBit_or, Nat.testBit_shiftLeft]
/-- The fences that are used: all is let in; whose round it is. -/
def FW (R : Option Nat) : Fence := { fn := fun _ => True, depth := none, alive := false, round := R }
theorem callsIn_FW {R : Option Nat} {n : Nat} {P : Program} {f : FuncId} {args : Array Value} {w : World} {K : Ending → World → Prop} (h : Calls P f args w K) : CallsIn (FW R) n P f args w K :=
  (callsIn_wide (n := n)).2 h
theorem calls_FW {n : Nat} {P : Program} {f : FuncId} {args : Array Value} {w : World} {K : Ending → World → Prop} (h : CallsIn (FW none) n P f args w K) : Calls P f args w K :=
  (callsIn_wide (n := n)).1 h
theorem roundIn_FW {R R' : Option Nat} {n n' l : Nat} {P : Program} {f : FuncId} {tmps : Array Value} {as bo : Code} {w : World} {K : Ending → World → Prop} (h : RoundIn (FW R') n P l f tmps as bo w K) : RoundIn (FW R) n' P l f tmps as bo w K :=
  ⟨trivial, fun c cs _ => h.2 c cs (fun d hd => by cases hd)⟩
end Go.Proofs.Ytdfabagclnjoaaa
