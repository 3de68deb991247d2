import Derived.Orders
import Derived.WalkKit
namespace Go.Proofs.Ytdfabagclnjoaaa
set_option linter.unusedSimpArgs false
set_option linter.unusedVariables false
open Go
/-- What names stand for: a name's block, and the room of a row that grew. -/
structure Sub where
  b : Nat → Nat
  c : Nat → Nat
def bigCap : Nat := 1152921504606846976
def Sub.cap (σ : Sub) (i c : Nat) : Nat := if c < bigCap then c else σ.c i - (2 * bigCap - c)
def renFn (σ : Sub) : Fn → Fn
  | .yield l => .yield (σ.b l)
  | f => f
/-- Where a slice begins: behind its row's end, where no room is left, it stays. -/
def renOff (c off : Nat) : Option Nat → Nat
  | none => off
  | some o => if c = 0 then o else off
@[simp] theorem renOff_none (c off : Nat) : renOff c off none = off := rfl
mutual
def ren (σ : Sub) : Value → Value
  | .pointer (some a) => .pointer (some ⟨σ.b a.block, a.off, a.spot⟩)
  | .slice (some a) l c => .slice (some ⟨σ.b a.block, renOff (σ.cap a.block c) a.off a.spot, none⟩) l (σ.cap a.block c)
  | .map (some r) => .map (some (σ.b r))
  | .func fn first cap => .func (renFn σ fn) (renA σ first) (renA σ cap)
  | .iface t v => .iface t (ren σ v)
  | .agg cs => .agg (renA σ cs)
  | .tuple cs => .tuple (renA σ cs)
  | v => v
def renA (σ : Sub) : Array Value → Array Value
  | ⟨l⟩ => ⟨renL σ l⟩
def renL (σ : Sub) : List Value → List Value
  | [] => []
  | v :: vs => ren σ v :: renL σ vs
end
theorem renL_map (σ : Sub) (l : List Value) : renL σ l = l.map (ren σ) := by
  induction l with
  | nil => simp [renL]
  | cons v vs ih => simp [renL, ih]
theorem renA_map (σ : Sub) (l : Array Value) : renA σ l = l.map (ren σ) := by
  cases l; simp [renA, renL_map]
-- do the names of a value lie below a bound
def bdFn (n : Nat) : Fn → Bool
  | .yield l => Nat.blt l n
  | _ => true
mutual
def bd (n : Nat) : Value → Bool
  | .pointer (some a) => Nat.blt a.block n
  | .slice (some a) _ _ => Nat.blt a.block n
  | .map (some r) => Nat.blt r n
  | .chan (some _) => false
  | .func fn first cap => bdFn n fn && bdA n first && bdA n cap
  | .iface _ v => bd n v
  | .agg cs => bdA n cs
  | .tuple cs => bdA n cs
  | _ => true
def bdA (n : Nat) : Array Value → Bool
  | ⟨l⟩ => bdL n l
def bdL (n : Nat) : List Value → Bool
  | [] => true
  | v :: vs => bd n v && bdL n vs
end

theorem bdL_iff (n : Nat) (l : List Value) : bdL n l = true ↔ ∀ v ∈ l, bd n v = true := by
  induction l with
  | nil => simp [bdL]
  | cons v vs ih => simp [bdL, ih]
theorem bdA_iff (n : Nat) (l : Array Value) : bdA n l = true ↔ ∀ v ∈ l, bd n v = true := by
  cases l; simp [bdA, bdL_iff]
/-- Two readings that agree on a value's names. -/
def Sub.same (n : Nat) (σ τ : Sub) : Prop := ∀ i, i < n → σ.b i = τ.b i ∧ σ.c i = τ.c i
theorem Sub.cap_congr {n : Nat} {σ τ : Sub} (h : Sub.same n σ τ) {i c : Nat} (hi : i < n) : σ.cap i c = τ.cap i c := by
  unfold Sub.cap; rw [(h i hi).2]
theorem renFn_congr {n : Nat} {σ τ : Sub} (h : Sub.same n σ τ) (f : Fn) (hb : bdFn n f = true) : renFn σ f = renFn τ f := by
  cases f <;> simp_all [renFn, bdFn, Nat.blt_eq]
  exact (h _ hb).1
mutual
theorem ren_congr {n : Nat} {σ τ : Sub} (h : Sub.same n σ τ) : ∀ (v : Value), bd n v = true → ren σ v = ren τ v
  | .pointer (some a), hb => by simp [bd, Nat.blt_eq] at hb; simp [ren, (h _ hb).1]
  | .pointer none, _ => by simp [ren]
  | .slice (some a) l c, hb => by simp [bd, Nat.blt_eq] at hb; simp [ren, (h _ hb).1, Sub.cap_congr h hb]
  | .slice none l c, _ => by simp [ren]
  | .map (some r), hb => by simp [bd, Nat.blt_eq] at hb; simp [ren, (h _ hb).1]
  | .map none, _ => by simp [ren]
  | .chan r, _ => by simp [ren]
  | .func fn first cap, hb => by
    simp [bd] at hb
    simp [ren, renFn_congr h fn hb.1.1, renA_congr h first hb.1.2, renA_congr h cap hb.2]
  | .iface t v, hb => by simp [bd] at hb; simp [ren, ren_congr h v hb]
  | .agg cs, hb => by simp [bd] at hb; simp [ren, renA_congr h cs hb]
  | .tuple cs, hb => by simp [bd] at hb; simp [ren, renA_congr h cs hb]
  | .bool _, _ => by simp [ren]
  | .int _ _, _ => by simp [ren]
  | .float _ _, _ => by simp [ren]
  | .complex _ _ _, _ => by simp [ren]
  | .string _, _ => by simp [ren]
  | .nilFunc, _ => by simp [ren]
  | .nilIface, _ => by simp [ren]
theorem renA_congr {n : Nat} {σ τ : Sub} (h : Sub.same n σ τ) : ∀ (v : Array Value), bdA n v = true → renA σ v = renA τ v
  | ⟨l⟩, hb => by simp [bdA] at hb; simp [renA, renL_congr h l hb]
theorem renL_congr {n : Nat} {σ τ : Sub} (h : Sub.same n σ τ) : ∀ (v : List Value), bdL n v = true → renL σ v = renL τ v
  | [], _ => by simp [renL]
  | v :: vs, hb => by simp [bdL] at hb; simp [renL, ren_congr h v hb.1, renL_congr h vs hb.2]
end
theorem bdFn_mono {n m : Nat} (h : n ≤ m) (f : Fn) (hb : bdFn n f = true) : bdFn m f = true := by
  cases f <;> simp_all [bdFn, Nat.blt_eq]; omega
mutual
theorem bd_mono {n m : Nat} (h : n ≤ m) : ∀ (v : Value), bd n v = true → bd m v = true
  | .pointer (some a), hb => by simp [bd, Nat.blt_eq] at hb ⊢; omega
  | .pointer none, _ => by simp [bd]
  | .slice (some a) l c, hb => by simp [bd, Nat.blt_eq] at hb ⊢; omega
  | .slice none l c, _ => by simp [bd]
  | .map (some r), hb => by simp [bd, Nat.blt_eq] at hb ⊢; omega
  | .map none, _ => by simp [bd]
  | .chan (some r), hb => by simp [bd] at hb
  | .chan none, _ => by simp [bd]
  | .func fn first cap, hb => by
    simp [bd] at hb
    simp [bd, bdFn_mono h fn hb.1.1, bdA_mono h first hb.1.2, bdA_mono h cap hb.2]
  | .iface t v, hb => by simp [bd] at hb; simp [bd, bd_mono h v hb]
  | .agg cs, hb => by simp [bd] at hb; simp [bd, bdA_mono h cs hb]
  | .tuple cs, hb => by simp [bd] at hb; simp [bd, bdA_mono h cs hb]
  | .bool _, _ => by simp [bd]
  | .int _ _, _ => by simp [bd]
  | .float _ _, _ => by simp [bd]
  | .complex _ _ _, _ => by simp [bd]
  | .string _, _ => by simp [bd]
  | .nilFunc, _ => by simp [bd]
  | .nilIface, _ => by simp [bd]
theorem bdA_mono {n m : Nat} (h : n ≤ m) : ∀ (v : Array Value), bdA n v = true → bdA m v = true
  | ⟨l⟩, hb => by simp [bdA] at hb; simp [bdA, bdL_mono h l hb]
theorem bdL_mono {n m : Nat} (h : n ≤ m) : ∀ (v : List Value), bdL n v = true → bdL m v = true
  | [], _ => by simp [bdL]
  | v :: vs, hb => by simp [bdL] at hb; simp [bdL, bd_mono h v hb.1, bdL_mono h vs hb.2]
end
mutual
theorem ren_free (σ : Sub) : ∀ (v : Value), bd 0 v = true → ren σ v = v
  | .pointer (some a), hb => by simp [bd, Nat.blt_eq] at hb
  | .pointer none, _ => by simp [ren]
  | .slice (some a) l c, hb => by simp [bd, Nat.blt_eq] at hb
  | .slice none l c, _ => by simp [ren]
  | .map (some r), hb => by simp [bd, Nat.blt_eq] at hb
  | .map none, _ => by simp [ren]
  | .chan r, _ => by simp [ren]
  | .func fn first cap, hb => by
    simp [bd] at hb
    have hf : renFn σ fn = fn := by cases fn <;> simp_all [renFn, bdFn, Nat.blt_eq]
    simp [ren, hf, renA_free σ first hb.1.2, renA_free σ cap hb.2]
  | .iface t v, hb => by simp [bd] at hb; simp [ren, ren_free σ v hb]
  | .agg cs, hb => by simp [bd] at hb; simp [ren, renA_free σ cs hb]
  | .tuple cs, hb => by simp [bd] at hb; simp [ren, renA_free σ cs hb]
  | .bool _, _ => by simp [ren]
  | .int _ _, _ => by simp [ren]
  | .float _ _, _ => by simp [ren]
  | .complex _ _ _, _ => by simp [ren]
  | .string _, _ => by simp [ren]
  | .nilFunc, _ => by simp [ren]
  | .nilIface, _ => by simp [ren]
theorem renA_free (σ : Sub) : ∀ (v : Array Value), bdA 0 v = true → renA σ v = v
  | ⟨l⟩, hb => by simp [bdA] at hb; simp [renA, renL_free σ l hb]
theorem renL_free (σ : Sub) : ∀ (v : List Value), bdL 0 v = true → renL σ v = v
  | [], _ => by simp [renL]
  | v :: vs, hb => by simp [bdL] at hb; simp [renL, ren_free σ v hb.1, renL_free σ vs hb.2]
end
theorem ren_undef (σ : Sub) : ren σ undef = undef := by simp [undef, ren, renA, renL]
theorem bd_undef (n : Nat) : bd n undef = true := by simp [undef, bd, bdA, bdL]
theorem ren_cells (σ : Sub) (v : Value) : (ren σ v).cells = v.cells.map (ren σ) := by
  cases v with
  | pointer a => cases a <;> simp [ren, Value.cells]
  | slice a _ _ => cases a <;> simp [ren, Value.cells]
  | map a => cases a <;> simp [ren, Value.cells]
  | agg cs => simp [ren, Value.cells, renA_map]
  | _ => simp [ren, Value.cells]
-- a store of a value for each number, by its digits
inductive Tr (α : Type) where
  | e | l (v : α) | n (a b : Tr α)
def tget {α : Type} : Nat → Tr α → Nat → Option α
  | 0, .l v, _ => some v
  | d + 1, .n a b, i => bif Nat.beq (i % 2) 0 then tget d a (i / 2) else tget d b (i / 2)
  | _, _, _ => none
def tset {α : Type} : Nat → Tr α → Nat → α → Tr α
  | 0, _, _, v => .l v
  | d + 1, .n a b, i, v => bif Nat.beq (i % 2) 0 then .n (tset d a (i / 2) v) b else .n a (tset d b (i / 2) v)
  | d + 1, _, i, v => bif Nat.beq (i % 2) 0 then .n (tset d .e (i / 2) v) .e else .n .e (tset d .e (i / 2) v)
theorem tget_e {α : Type} (d i : Nat) : tget d (Tr.e : Tr α) i = none := by cases d <;> rfl
theorem tget_tset {α : Type} : ∀ (d : Nat) (t : Tr α) (i j : Nat) (v : α), i < 2 ^ d → j < 2 ^ d → tget d (tset d t i v) j = if j = i then some v else tget d t j
  | 0, t, i, j, v, hi, hj => by
    have h1 : i = 0 := by simpa using hi
    have h2 : j = 0 := by simpa using hj
    subst h1; subst h2
    simp [tset, tget]
  | d + 1, t, i, j, v, hi, hj => by
    have hi' : i / 2 < 2 ^ d := by rw [Nat.pow_succ] at hi; omega
    have hj' : j / 2 < 2 ^ d := by rw [Nat.pow_succ] at hj; omega
    have ih := fun t => tget_tset d t (i / 2) (j / 2) v hi' hj'
    have b10 : Nat.beq 1 0 = false := rfl
    have b00 : Nat.beq 0 0 = true := rfl
    rcases Nat.mod_two_eq_zero_or_one i with h1 | h1 <;> rcases Nat.mod_two_eq_zero_or_one j with h2 | h2
    · have he : (j = i) ↔ (j / 2 = i / 2) := by omega
      cases t <;> simp [tset, tget, h1, h2, b10, b00, ih, he, tget_e]
    · have he : ¬ (j = i) := by omega
      cases t <;> simp [tset, tget, h1, h2, b10, b00, he, tget_e]
    · have he : ¬ (j = i) := by omega
      cases t <;> simp [tset, tget, h1, h2, b10, b00, he, tget_e]
    · have he : (j = i) ↔ (j / 2 = i / 2) := by omega
      cases t <;> simp [tset, tget, h1, h2, b10, b00, ih, he, tget_e]
end Go.Proofs.Ytdfabagclnjoaaa
