import Derived.Test.YtdfabagclnjoaaaEvM
namespace Go.Proofs.Ytdfabagclnjoaaa
set_option linter.unusedSimpArgs false
set_option linter.unusedVariables false
open Go
-- the names of a value, by a test
def bpFn (p : Nat → Bool) : Fn → Bool
  | .yield l => p l
  | _ => true
mutual
def bp (p : Nat → Bool) : Value → Bool
  | .pointer (some a) => p a.block
  | .slice (some a) _ _ => p a.block
  | .map (some r) => p r
  | .func fn first cap => bpFn p fn && bpA p first && bpA p cap
  | .iface _ v => bp p v
  | .agg cs => bpA p cs
  | .tuple cs => bpA p cs
  | _ => true
def bpA (p : Nat → Bool) : Array Value → Bool
  | ⟨l⟩ => bpL p l
def bpL (p : Nat → Bool) : List Value → Bool
  | [] => true
  | v :: vs => bp p v && bpL p vs
end
theorem bpL_iff (p : Nat → Bool) (l : List Value) : bpL p l = true ↔ ∀ v ∈ l, bp p v = true := by
  induction l with
  | nil => simp [bpL]
  | cons v vs ih => simp [bpL, ih]
/-- Two readings that agree where a test says yes. -/
def Sub.on (p : Nat → Bool) (σ τ : Sub) : Prop := ∀ i, p i = true → σ.b i = τ.b i ∧ σ.c i = τ.c i
theorem renFn_on {p : Nat → Bool} {σ τ : Sub} (h : Sub.on p σ τ) (f : Fn) (hb : bpFn p f = true) : renFn σ f = renFn τ f := by
  cases f <;> simp_all [renFn, bpFn]
  exact (h _ hb).1
mutual
theorem ren_on {p : Nat → Bool} {σ τ : Sub} (h : Sub.on p σ τ) : ∀ (v : Value), bp p v = true → ren σ v = ren τ v
  | .pointer (some a), hb => by simp [bp] at hb; simp [ren, (h _ hb).1]
  | .pointer none, _ => by simp [ren]
  | .slice (some a) l c, hb => by simp [bp] at hb; simp [ren, (h _ hb).1, Sub.cap, (h _ hb).2]
  | .slice none l c, _ => by simp [ren]
  | .map (some r), hb => by simp [bp] at hb; simp [ren, (h _ hb).1]
  | .map none, _ => by simp [ren]
  | .chan r, _ => by simp [ren]
  | .func fn first cap, hb => by
    simp [bp] at hb
    simp [ren, renFn_on h fn hb.1.1, renA_on h first hb.1.2, renA_on h cap hb.2]
  | .iface t v, hb => by simp [bp] at hb; simp [ren, ren_on h v hb]
  | .agg cs, hb => by simp [bp] at hb; simp [ren, renA_on h cs hb]
  | .tuple cs, hb => by simp [bp] at hb; simp [ren, renA_on h cs hb]
  | .bool _, _ => by simp [ren]
  | .int _ _, _ => by simp [ren]
  | .float _ _, _ => by simp [ren]
  | .complex _ _ _, _ => by simp [ren]
  | .string _, _ => by simp [ren]
  | .nilFunc, _ => by simp [ren]
  | .nilIface, _ => by simp [ren]
theorem renA_on {p : Nat → Bool} {σ τ : Sub} (h : Sub.on p σ τ) : ∀ (v : Array Value), bpA p v = true → renA σ v = renA τ v
  | ⟨l⟩, hb => by simp [bpA] at hb; simp [renA, renL_on h l hb]
theorem renL_on {p : Nat → Bool} {σ τ : Sub} (h : Sub.on p σ τ) : ∀ (v : List Value), bpL p v = true → renL σ v = renL τ v
  | [], _ => by simp [renL]
  | v :: vs, hb => by simp [bpL] at hb; simp [renL, ren_on h v hb.1, renL_on h vs hb.2]
end
theorem bpFn_mono {p q : Nat → Bool} (h : ∀ i, p i = true → q i = true) (f : Fn) (hb : bpFn p f = true) : bpFn q f = true := by
  cases f <;> simp_all [bpFn]
mutual
theorem bp_mono {p q : Nat → Bool} (h : ∀ i, p i = true → q i = true) : ∀ (v : Value), bp p v = true → bp q v = true
  | .pointer (some a), hb => by simp [bp] at hb ⊢; exact h _ hb
  | .pointer none, _ => by simp [bp]
  | .slice (some a) l c, hb => by simp [bp] at hb ⊢; exact h _ hb
  | .slice none l c, _ => by simp [bp]
  | .map (some r), hb => by simp [bp] at hb ⊢; exact h _ hb
  | .map none, _ => by simp [bp]
  | .chan r, _ => by simp [bp]
  | .func fn first cap, hb => by
    simp [bp] at hb
    simp [bp, bpFn_mono h fn hb.1.1, bpA_mono h first hb.1.2, bpA_mono h cap hb.2]
  | .iface t v, hb => by simp [bp] at hb; simp [bp, bp_mono h v hb]
  | .agg cs, hb => by simp [bp] at hb; simp [bp, bpA_mono h cs hb]
  | .tuple cs, hb => by simp [bp] at hb; simp [bp, bpA_mono h cs hb]
  | .bool _, _ => by simp [bp]
  | .int _ _, _ => by simp [bp]
  | .float _ _, _ => by simp [bp]
  | .complex _ _ _, _ => by simp [bp]
  | .string _, _ => by simp [bp]
  | .nilFunc, _ => by simp [bp]
  | .nilIface, _ => by simp [bp]
theorem bpA_mono {p q : Nat → Bool} (h : ∀ i, p i = true → q i = true) : ∀ (v : Array Value), bpA p v = true → bpA q v = true
  | ⟨l⟩, hb => by simp [bpA] at hb; simp [bpA, bpL_mono h l hb]
theorem bpL_mono {p q : Nat → Bool} (h : ∀ i, p i = true → q i = true) : ∀ (v : List Value), bpL p v = true → bpL q v = true
  | [], _ => by simp [bpL]
  | v :: vs, hb => by simp [bpL] at hb; simp [bpL, bp_mono h v hb.1, bpL_mono h vs hb.2]
end
theorem bdFn_bp {n : Nat} {p : Nat → Bool} (h : ∀ i, i < n → p i = true) (f : Fn) (hb : bdFn n f = true) : bpFn p f = true := by
  cases f <;> simp_all [bpFn, bdFn, Nat.blt_eq]
mutual
theorem bd_bp {n : Nat} {p : Nat → Bool} (h : ∀ i, i < n → p i = true) : ∀ (v : Value), bd n v = true → bp p v = true
  | .pointer (some a), hb => by simp [bd, Nat.blt_eq] at hb; simp [bp, h _ hb]
  | .pointer none, _ => by simp [bp]
  | .slice (some a) l c, hb => by simp [bd, Nat.blt_eq] at hb; simp [bp, h _ hb]
  | .slice none l c, _ => by simp [bp]
  | .map (some r), hb => by simp [bd, Nat.blt_eq] at hb; simp [bp, h _ hb]
  | .map none, _ => by simp [bp]
  | .chan r, _ => by simp [bp]
  | .func fn first cap, hb => by
    simp [bd] at hb
    simp [bp, bdFn_bp h fn hb.1.1, bdA_bp h first hb.1.2, bdA_bp h cap hb.2]
  | .iface t v, hb => by simp [bd] at hb; simp [bp, bd_bp h v hb]
  | .agg cs, hb => by simp [bd] at hb; simp [bp, bdA_bp h cs hb]
  | .tuple cs, hb => by simp [bd] at hb; simp [bp, bdA_bp h cs hb]
  | .bool _, _ => by simp [bp]
  | .int _ _, _ => by simp [bp]
  | .float _ _, _ => by simp [bp]
  | .complex _ _ _, _ => by simp [bp]
  | .string _, _ => by simp [bp]
  | .nilFunc, _ => by simp [bp]
  | .nilIface, _ => by simp [bp]
theorem bdA_bp {n : Nat} {p : Nat → Bool} (h : ∀ i, i < n → p i = true) : ∀ (v : Array Value), bdA n v = true → bpA p v = true
  | ⟨l⟩, hb => by simp [bdA] at hb; simp [bpA, bdL_bp h l hb]
theorem bdL_bp {n : Nat} {p : Nat → Bool} (h : ∀ i, i < n → p i = true) : ∀ (v : List Value), bdL n v = true → bpL p v = true
  | [], _ => by simp [bpL]
  | v :: vs, hb => by simp [bdL] at hb; simp [bpL, bd_bp h v hb.1, bdL_bp h vs hb.2]
end
-- what a value's names lead to
mutual
def nmV : Value → List Nat → List Nat
  | .pointer (some a), l => a.block :: l
  | .slice (some a) _ _, l => a.block :: l
  | .map (some r), l => r :: l
  | .func _ first cap, l => nmA first (nmA cap l)
  | .iface _ v, l => nmV v l
  | .agg cs, l => nmA cs l
  | .tuple cs, l => nmA cs l
  | _, l => l
def nmA : Array Value → List Nat → List Nat
  | ⟨vs⟩, l => nmL vs l
def nmL : List Value → List Nat → List Nat
  | [], l => l
  | v :: vs, l => nmV v (nmL vs l)
end
def reach (s : Hs) : Nat → List Nat → Nat → List Nat → List Nat
  | 0, _, _, acc => acc
  | _ + 1, [], _, acc => acc
  | n + 1, i :: work, seen, acc =>
    match seen.testBit i with
    | true => reach s n work seen acc
    | false =>
      match s.get i with
      | some (.cells c _ _) => reach s n (nmL c work) (seen ||| 1 <<< i) (i :: acc)
      | some (.raw _) => reach s n work (seen ||| 1 <<< i) (i :: acc)
      | _ => reach s n work (seen ||| 1 <<< i) acc
def direct (s : Hs) : List Nat → Nat → List Nat
  | [], _ => []
  | i :: l, seen =>
    match seen.testBit i with
    | true => direct s l seen
    | false => i :: direct s l (seen ||| 1 <<< i)
/-- The part of memory that some names stand for. -/
def restr (s : Hs) : List Nat → Tr Ob × Nat
  | [] => (.e, 0)
  | i :: l =>
    match s.get i with
    | some .dead => restr s l
    | some ob => let r := restr s l; (tset HD r.1 i ob, r.2 ||| 1 <<< i)
    | none => restr s l
theorem testBit_or_shift (m i j : Nat) : (m ||| 1 <<< i).testBit j = (m.testBit j || decide (j = i)) := by
  rw [Nat.testBit_or, Nat.testBit_shiftLeft]
  by_cases h : j = i
  · subst h; simp
  · by_cases hle : i ≤ j
    · have : j - i ≠ 0 := by omega
      have h1 : Nat.testBit 1 (j - i) = false := by
        cases hk : j - i with
        | zero => omega
        | succ n => simp [Nat.testBit_succ]
      simp [h, hle, h1]
    · simp [h, hle]
theorem restr_get {s : Hs} (ok : s.Ok) (wr : Nat) : ∀ (l : List Nat) (i : Nat), ((Hs.mk s.n (restr s l).1 wr).get i = if (restr s l).2.testBit i then s.get i else none) ∧ ((restr s l).2.testBit i = true → ∃ ob, s.get i = some ob ∧ ob.alive = true)
  | [], i => by
    refine ⟨?_, by simp [restr]⟩
    simp only [restr, Nat.zero_testBit]
    unfold Hs.get
    rw [tget_e]
    cases Nat.blt i s.n <;> rfl
  | k :: l, i => by
    have ih := restr_get ok wr l i
    cases hk : s.get k with
    | none => simp only [restr, hk]; exact ih
    | some ob =>
      cases hal : ob.alive with
      | false =>
        cases ob with
        | dead => simp only [restr, hk]; exact ih
        | raw o => cases hal
        | loop st pe nt t ps as bo d => cases hal
        | cells c e g => cases hal
      | true =>
        have hr : restr s (k :: l) = (tset HD (restr s l).1 k ob, (restr s l).2 ||| 1 <<< k) := by
          cases ob with
          | dead => cases hal
          | raw o => simp only [restr, hk]
          | loop st pe nt t ps as bo d => simp only [restr, hk]
          | cells c e g => simp only [restr, hk]
        rw [hr]
        have hlt := Hs.get_lt hk
        refine ⟨?_, fun hb => ?_⟩
        · rw [Hs.get_set (wr := wr) ok.top hlt, testBit_or_shift]
          by_cases he : i = k
          · subst he; simp [hk]
          · simp only [he, if_false, decide_false, Bool.or_false]; exact ih.1
        · rw [testBit_or_shift] at hb
          by_cases he : i = k
          · subst he; exact ⟨ob, hk, hal⟩
          · simp only [he, decide_false, Bool.or_false] at hb; exact ih.2 hb
end Go.Proofs.Ytdfabagclnjoaaa
