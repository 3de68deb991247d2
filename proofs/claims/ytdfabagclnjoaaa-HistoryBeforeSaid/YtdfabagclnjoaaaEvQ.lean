import Derived.Test.YtdfabagclnjoaaaEvO
namespace Go.Proofs.Ytdfabagclnjoaaa
set_option linter.unusedSimpArgs false
set_option linter.unusedVariables false
open Go
def evSteps (P : Program) (call : Caller) (nt : Nat) (ops : Array Oper) : List Oper → Tr Value → Hs → Option (List Rc)
  | [], _, _ => some []
  | o :: rest, t, s =>
    match evStep P call nt ops o t s with
    | none => none
    | some r =>
      match evSteps P call nt ops rest r.t1 r.s1 with
      | none => none
      | some l => some (r :: l)
/-- Where each operation begins. -/
def stT (t : Tr Value) (rs : List Rc) : Nat → Tr Value
  | 0 => t
  | k + 1 => match rs[k]? with
    | some r => r.t1
    | none => t
def stH (s : Hs) (rs : List Rc) : Nat → Hs
  | 0 => s
  | k + 1 => match rs[k]? with
    | some r => r.s1
    | none => s
theorem stT_cons (t : Tr Value) (r : Rc) (l : List Rc) (k : Nat) (h : k ≤ l.length) : stT t (r :: l) (k + 1) = stT r.t1 l k := by
  cases k with
  | zero => simp [stT]
  | succ k =>
    have hk : k < l.length := by omega
    simp [stT, List.getElem?_eq_getElem hk]
theorem stH_cons (s : Hs) (r : Rc) (l : List Rc) (k : Nat) (h : k ≤ l.length) : stH s (r :: l) (k + 1) = stH r.s1 l k := by
  cases k with
  | zero => simp [stH]
  | succ k =>
    have hk : k < l.length := by omega
    simp [stH, List.getElem?_eq_getElem hk]
theorem evSteps_ok {P : Program} {call : Caller} {nt : Nat} {ops : Array Oper} : ∀ (l : List Oper) (t : Tr Value) (s : Hs) (rs : List Rc), evSteps P call nt ops l t s = some rs → s.Ok → TOk nt t s.n →
    rs.length = l.length ∧ (∀ k, k ≤ rs.length → (stH s rs k).Ok ∧ TOk nt (stT t rs k) (stH s rs k).n) ∧
    ∀ k r, rs[k]? = some r → ∃ o, l[k]? = some o ∧ r.Ok P call nt ops o ∧ r.t = stT t rs k ∧ r.s = stH s rs k
  | [], t, s, rs, h, ok, to => by
    simp only [evSteps, Option.some.injEq] at h
    subst h
    refine ⟨rfl, fun k hk => ?_, fun k r hk => by simp at hk⟩
    have : k = 0 := by simpa using hk
    subst this
    exact ⟨ok, to⟩
  | o :: rest, t, s, rs, h, ok, to => by
    simp only [evSteps] at h
    cases h1 : evStep P call nt ops o t s with
    | none => rw [h1] at h; cases h
    | some r =>
      rw [h1] at h
      simp only at h
      cases h2 : evSteps P call nt ops rest r.t1 r.s1 with
      | none => rw [h2] at h; cases h
      | some l =>
        rw [h2] at h
        simp only [Option.some.injEq] at h
        subst h
        obtain ⟨e1, e2, e3⟩ := evStep_ok h1 ok
        have to1 : TOk nt r.t1 r.s1.n := by
          rw [e3.t1, e1, e3.s1n]
          exact to.put (by have := e3.n; rw [e2] at this; exact this) o.dst e3.bdv
        obtain ⟨i1, i2, i3⟩ := evSteps_ok rest _ _ _ h2 e3.ok1 to1
        refine ⟨by simp [i1], fun k hk => ?_, fun k x hk => ?_⟩
        · cases k with
          | zero => exact ⟨ok, to⟩
          | succ k =>
            rw [stT_cons _ _ _ _ (by simpa using hk), stH_cons _ _ _ _ (by simpa using hk)]
            exact i2 k (by simpa using hk)
        · cases k with
          | zero =>
            simp only [List.getElem?_cons_zero, Option.some.injEq] at hk
            subst hk
            exact ⟨o, rfl, e3, e1, e2⟩
          | succ k =>
            simp only [List.getElem?_cons_succ] at hk
            obtain ⟨o', j1, j2, j3, j4⟩ := i3 k x hk
            have hlt := (List.getElem?_eq_some_iff.1 hk).1
            rw [stT_cons _ _ _ _ (by omega), stH_cons _ _ _ _ (by omega)]
            exact ⟨o', by simpa using j1, j2, j3, j4⟩
-- what hangs on what
def preBits (acc : List Nat) (o : Oper) : Nat := o.after.toList.foldl (fun m e => bif Region.binds .any e then m ||| 1 <<< e.on ||| acc.getD e.on 0 else m) 0
def pres : List Oper → List Nat → List Nat
  | [], acc => acc
  | o :: rest, acc => pres rest (acc ++ [preBits acc o])
theorem preBits_spec (acc : List Nat) (i : Nat) : ∀ (l : List Edge) (m : Nat), (l.foldl (fun m e => bif Region.binds .any e then m ||| 1 <<< e.on ||| acc.getD e.on 0 else m) m).testBit i = true →
    m.testBit i = true ∨ ∃ e ∈ l, Region.binds .any e = true ∧ (e.on = i ∨ (acc.getD e.on 0).testBit i = true)
  | [], m, h => .inl h
  | e :: l, m, h => by
    rw [List.foldl_cons] at h
    rcases preBits_spec acc i l _ h with h1 | ⟨e', he, hb, hx⟩
    · cases hbe : Region.binds .any e with
      | false => rw [hbe] at h1; exact .inl h1
      | true =>
        rw [hbe] at h1
        simp only [cond_true] at h1
        rw [Nat.testBit_or, testBit_or_shift] at h1
        simp only [Bool.or_eq_true, decide_eq_true_eq] at h1
        rcases h1 with (h1 | h1) | h1
        · exact .inl h1
        · exact .inr ⟨e, List.mem_cons_self, hbe, .inl h1.symm⟩
        · exact .inr ⟨e, List.mem_cons_self, hbe, .inr h1⟩
    · exact .inr ⟨e', List.mem_cons_of_mem _ he, hb, hx⟩
theorem pres_spec : ∀ (l : List Oper) (acc : List Nat), (pres l acc).length = acc.length + l.length ∧ (∀ j, j < acc.length → (pres l acc)[j]? = acc[j]?) ∧
    ∀ j o, l[j]? = some o → ∃ a, (pres l acc)[acc.length + j]? = some (preBits a o) ∧ ∀ q, a.getD q 0 = (if q < acc.length + j then (pres l acc).getD q 0 else 0)
  | [], acc => ⟨by simp [pres], fun j _ => rfl, fun j o h => by simp at h⟩
  | o :: rest, acc => by
    obtain ⟨i1, i2, i3⟩ := pres_spec rest (acc ++ [preBits acc o])
    refine ⟨by simp only [pres, i1]; simp; omega, fun j hj => ?_, fun j x hj => ?_⟩
    · simp only [pres]
      rw [i2 j (by simp; omega), List.getElem?_append_left hj]
    · cases j with
      | zero =>
        simp only [List.getElem?_cons_zero, Option.some.injEq] at hj
        subst hj
        refine ⟨acc, ?_, fun q => ?_⟩
        · simp only [pres, Nat.add_zero]
          rw [i2 acc.length (by simp)]
          simp
        · simp only [pres, Nat.add_zero]
          by_cases hq : q < acc.length
          · rw [if_pos hq, List.getD_eq_getElem?_getD, List.getD_eq_getElem?_getD, i2 q (by simp; omega), List.getElem?_append_left hq]
          · rw [if_neg hq, List.getD_eq_getElem?_getD, List.getElem?_eq_none (by omega)]; rfl
      | succ j =>
        simp only [List.getElem?_cons_succ] at hj
        obtain ⟨a, h1, h2⟩ := i3 j x hj
        refine ⟨a, ?_, fun q => ?_⟩
        · simp only [pres]
          have : acc.length + (j + 1) = (acc ++ [preBits acc o]).length + j := by simp; omega
          rw [this]; exact h1
        · rw [h2 q]
          have : (acc ++ [preBits acc o]).length + j = acc.length + (j + 1) := by simp; omega
          rw [this]; rfl
def pairOk (ops : Array Oper) (o : Oper) (r : Rc) (o' : Oper) (r' : Rc) : Bool :=
  o.apart ops o' && Nat.beq (r.wr &&& r'.foot) 0 && Nat.beq ((r'.foot >>> r.s.n) % 2 ^ (r.n1 - r.s.n)) 0 && Nat.beq (r'.wr &&& r.foot) 0
def later (ops : Array Oper) (bs : List Nat) (k : Nat) (o : Oper) (r : Rc) : Nat → List (Oper × Rc) → Bool
  | _, [] => true
  | j, (o', r') :: l => ((bs.getD j 0).testBit k || pairOk ops o r o' r') && later ops bs k o r (j + 1) l
def pairs (ops : Array Oper) (bs : List Nat) : Nat → List (Oper × Rc) → Bool
  | _, [] => true
  | k, (o, r) :: l => later ops bs k o r (k + 1) l && pairs ops bs (k + 1) l
theorem later_spec {ops : Array Oper} {bs : List Nat} {k : Nat} {o : Oper} {r : Rc} : ∀ (l : List (Oper × Rc)) (j : Nat), later ops bs k o r j l = true → ∀ i x, l[i]? = some x → (bs.getD (j + i) 0).testBit k = true ∨ pairOk ops o r x.1 x.2 = true
  | [], j, h, i, x, hx => by simp at hx
  | (o', r') :: l, j, h, i, x, hx => by
    simp only [later, Bool.and_eq_true, Bool.or_eq_true] at h
    cases i with
    | zero => simp only [List.getElem?_cons_zero, Option.some.injEq] at hx; subst hx; exact h.1
    | succ i =>
      simp only [List.getElem?_cons_succ] at hx
      have := later_spec l (j + 1) h.2 i x hx
      rwa [show j + 1 + i = j + (i + 1) by omega] at this
theorem pairs_spec {ops : Array Oper} {bs : List Nat} : ∀ (l : List (Oper × Rc)) (k : Nat), pairs ops bs k l = true → ∀ i j x y, i < j → l[i]? = some x → l[j]? = some y → (bs.getD (k + j) 0).testBit (k + i) = true ∨ pairOk ops x.1 x.2 y.1 y.2 = true
  | [], k, h, i, j, x, y, hij, hx, hy => by simp at hx
  | (o, r) :: l, k, h, i, j, x, y, hij, hx, hy => by
    simp only [pairs, Bool.and_eq_true] at h
    cases j with
    | zero => omega
    | succ j =>
      simp only [List.getElem?_cons_succ] at hy
      cases i with
      | zero =>
        simp only [List.getElem?_cons_zero, Option.some.injEq] at hx
        subst hx
        have := later_spec l (k + 1) h.1 j y hy
        rwa [show k + 1 + j = k + (j + 1) by omega] at this
      | succ i =>
        simp only [List.getElem?_cons_succ] at hx
        have := pairs_spec l (k + 1) h.2 i j x y (by omega) hx hy
        rwa [show k + 1 + j = k + (j + 1) by omega, show k + 1 + i = k + (i + 1) by omega] at this
def Rc.new (r : Rc) (i : Nat) : Bool := Nat.ble r.s.n i && Nat.blt i r.n1
def anyNew (b : Nat) (i : Nat) : Nat → List Rc → Bool
  | _, [] => false
  | q, r :: l => (b.testBit q && r.new i) || anyNew b i (q + 1) l
theorem anyNew_spec {b i : Nat} : ∀ (l : List Rc) (q : Nat), anyNew b i q l = true → ∃ (k : Nat) (r : Rc), l[k]? = some r ∧ b.testBit (q + k) = true ∧ r.new i = true
  | [], q, h => by simp [anyNew] at h
  | r :: l, q, h => by
    simp only [anyNew, Bool.or_eq_true, Bool.and_eq_true] at h
    rcases h with h | h
    · exact ⟨0, r, rfl, h.1, h.2⟩
    · obtain ⟨k, x, h1, h2, h3⟩ := anyNew_spec l (q + 1) h
      exact ⟨k + 1, x, by simpa using h1, by rwa [show q + (k + 1) = q + 1 + k by omega], h3⟩
def inScope (n0 : Nat) (bs : List Nat) (rs : List Rc) : Nat → List Rc → Bool
  | _, [] => true
  | j, r :: l => bpL (fun i => Nat.blt i n0 || (r.new i || anyNew (bs.getD j 0) i 0 rs)) r.out && inScope n0 bs rs (j + 1) l
theorem inScope_spec {n0 : Nat} {bs : List Nat} {rs : List Rc} : ∀ (l : List Rc) (j : Nat), inScope n0 bs rs j l = true → ∀ k r, l[k]? = some r → bpL (fun i => Nat.blt i n0 || (r.new i || anyNew (bs.getD (j + k) 0) i 0 rs)) r.out = true
  | [], j, h, k, r, hk => by simp at hk
  | x :: l, j, h, k, r, hk => by
    simp only [inScope, Bool.and_eq_true] at h
    cases k with
    | zero => simp only [List.getElem?_cons_zero, Option.some.injEq] at hk; subst hk; exact h.1
    | succ k =>
      simp only [List.getElem?_cons_succ] at hk
      have := inScope_spec l (j + 1) h.2 k r hk
      rwa [show j + 1 + k = j + (k + 1) by omega] at this
def edgesOk : Nat → List Oper → Bool
  | _, [] => true
  | j, o :: l => o.after.toList.all (fun e => !Region.binds .any e || Nat.blt e.on j) && edgesOk (j + 1) l
theorem edgesOk_spec : ∀ (l : List Oper) (j : Nat), edgesOk j l = true → ∀ k o, l[k]? = some o → ∀ e ∈ o.after, Region.binds .any e = true → e.on < j + k
  | [], j, h, k, o, hk => by simp at hk
  | x :: l, j, h, k, o, hk => by
    simp only [edgesOk, Bool.and_eq_true] at h
    cases k with
    | zero =>
      simp only [List.getElem?_cons_zero, Option.some.injEq] at hk
      subst hk
      intro e he hb
      have := List.all_eq_true.1 h.1 e (by simpa using he)
      simpa [hb, Nat.blt_eq] using this
    | succ k =>
      simp only [List.getElem?_cons_succ] at hk
      intro e he hb
      have := edgesOk_spec l (j + 1) h.2 k o hk e he hb
      omega
def orBits : List Rc → Nat
  | [] => 0
  | r :: l => r.wr ||| orBits l
theorem orBits_spec (i : Nat) : ∀ (l : List Rc), (orBits l).testBit i = true ↔ ∃ (k : Nat) (r : Rc), l[k]? = some r ∧ r.wr.testBit i = true
  | [] => by simp [orBits]
  | r :: l => by
    rw [orBits, Nat.testBit_or, Bool.or_eq_true, orBits_spec i l]
    constructor
    · rintro (h | ⟨k, x, h1, h2⟩)
      · exact ⟨0, r, rfl, h⟩
      · exact ⟨k + 1, x, by simpa using h1, h2⟩
    · rintro ⟨k, x, h1, h2⟩
      cases k with
      | zero => simp only [List.getElem?_cons_zero, Option.some.injEq] at h1; subst h1; exact .inl h2
      | succ k => exact .inr ⟨k, x, by simpa using h1, h2⟩
def evDraw (P : Program) (call : Caller) (nt : Nat) (ops : Array Oper) (f : Fs) : Option Fs :=
  match evSteps P call nt ops ops.toList f.t f.s with
  | none => none
  | some rs =>
    let bs := pres ops.toList []
    bif edgesOk 0 ops.toList && pairs ops bs 0 (ops.toList.zip rs) && inScope f.s.n bs rs 0 rs then
      let s := stH f.s rs rs.length
      some ⟨stT f.t rs rs.length, ⟨s.n, s.h, f.s.wr ||| orBits rs⟩, f.ds⟩
    else none
end Go.Proofs.Ytdfabagclnjoaaa
