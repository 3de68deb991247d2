import Derived.Test.YtdfabagclnjoaaaEvQ
namespace Go.Proofs.Ytdfabagclnjoaaa
set_option linter.unusedSimpArgs false
set_option linter.unusedVariables false
open Go
/-- What is known of a region that was reckoned. -/
structure Reg (P : Program) (call : Caller) (nt : Nat) (ops : Array Oper) (f : Fs) (rs : List Rc) (bs : List Nat) : Prop where
  len : rs.length = ops.size
  st : ∀ k, k ≤ rs.length → (stH f.s rs k).Ok ∧ TOk nt (stT f.t rs k) (stH f.s rs k).n
  op : ∀ k r, rs[k]? = some r → ∃ o, ops[k]? = some o ∧ r.Ok P call nt ops o ∧ r.t = stT f.t rs k ∧ r.s = stH f.s rs k
  edge : ∀ k o, ops[k]? = some o → ∀ e ∈ o.after, Region.binds .any e = true → e.on < k
  pair : ∀ i j x y o p, i < j → rs[i]? = some x → rs[j]? = some y → ops[i]? = some o → ops[j]? = some p → (bs.getD j 0).testBit i = true ∨ pairOk ops o x p y = true
  scope : ∀ k r, rs[k]? = some r → bpL (fun i => Nat.blt i f.s.n || (r.new i || anyNew (bs.getD k 0) i 0 rs)) r.out = true
  pre : ∀ j o, ops[j]? = some o → ∀ i, (bs.getD j 0).testBit i = true → ∃ e ∈ o.after, Region.binds .any e = true ∧ (e.on = i ∨ (bs.getD e.on 0).testBit i = true)
theorem range_bits {F a b i : Nat} (h : Nat.beq ((F >>> a) % 2 ^ (b - a)) 0 = true) (h1 : a ≤ i) (h2 : i < b) : F.testBit i = false := by
  have h0 := Nat.eq_of_beq_eq_true h
  have : ((F >>> a) % 2 ^ (b - a)).testBit (i - a) = F.testBit i := by
    rw [Nat.testBit_mod_two_pow, Nat.testBit_shiftRight]
    have h3 : i - a < b - a := by omega
    have h4 : a + (i - a) = i := by omega
    simp [h3, h4]
  rw [← this, h0]; simp
theorem and_bits {a b i : Nat} (h : Nat.beq (a &&& b) 0 = true) (h1 : a.testBit i = true) (h2 : b.testBit i = true) : False := by
  have h0 := Nat.eq_of_beq_eq_true h
  have : (a &&& b).testBit i = true := by rw [Nat.testBit_and, h1, h2]; rfl
  rw [h0] at this; simp at this
section
variable {P : Program} {call : Caller} {nt : Nat} {ops : Array Oper} {f : Fs} {rs : List Rc} {bs : List Nat}
theorem Reg.get (h : Reg P call nt ops f rs bs) {k : Nat} (hk : k < ops.size) : ∃ r, rs[k]? = some r := ⟨_, List.getElem?_eq_getElem (by rw [h.len]; exact hk)⟩
theorem Reg.lt (h : Reg P call nt ops f rs bs) {k : Nat} {r : Rc} (hr : rs[k]? = some r) : k < ops.size := by
  rw [← h.len]; exact (List.getElem?_eq_some_iff.1 hr).1
theorem stH_next {k : Nat} {r : Rc} (hr : rs[k]? = some r) : stH f.s rs (k + 1) = r.s1 := by simp [stH, hr]
theorem stT_next {k : Nat} {r : Rc} (hr : rs[k]? = some r) : stT f.t rs (k + 1) = r.t1 := by simp [stT, hr]
theorem Reg.n_mono (h : Reg P call nt ops f rs bs) {k : Nat} : ∀ m, k ≤ m → m ≤ rs.length → (stH f.s rs k).n ≤ (stH f.s rs m).n
  | 0, h1, h2 => by
    have : k = 0 := by omega
    subst this; exact Nat.le_refl _
  | m + 1, h1, h2 => by
    by_cases he : k = m + 1
    · subst he; exact Nat.le_refl _
    · have hm : m < ops.size := by have := h.len; omega
      obtain ⟨r, hr⟩ := h.get hm
      obtain ⟨o, ho, hok, ht, hs⟩ := h.op m r hr
      have ih := h.n_mono (k := k) m (by omega) (by omega)
      have h3 := hok.n
      rw [stH_next hr, hok.s1n]
      rw [hs] at h3
      omega
theorem Reg.disj (h : Reg P call nt ops f rs bs) {k j : Nat} {r x : Rc} (hr : rs[k]? = some r) (hx : rs[j]? = some x) (hkj : k < j) : r.n1 ≤ x.s.n := by
  obtain ⟨o, ho, hok, ht, hs⟩ := h.op k r hr
  obtain ⟨o', ho', hok', ht', hs'⟩ := h.op j x hx
  have := h.n_mono (k := k + 1) j (by omega) (by have := (List.getElem?_eq_some_iff.1 hx).1; omega)
  rw [stH_next hr, hok.s1n] at this
  rw [hs']; exact this
theorem Reg.base (h : Reg P call nt ops f rs bs) {k : Nat} {r : Rc} (hr : rs[k]? = some r) : f.s.n ≤ r.s.n := by
  obtain ⟨o, ho, hok, ht, hs⟩ := h.op k r hr
  have := h.n_mono (k := 0) k (by omega) (by have := (List.getElem?_eq_some_iff.1 hr).1; omega)
  rw [hs]; exact this
theorem Reg.top (h : Reg P call nt ops f rs bs) {k : Nat} {r : Rc} (hr : rs[k]? = some r) : r.n1 ≤ (stH f.s rs rs.length).n := by
  obtain ⟨o, ho, hok, ht, hs⟩ := h.op k r hr
  have hlt := (List.getElem?_eq_some_iff.1 hr).1
  have := h.n_mono (k := k + 1) rs.length (by omega) (Nat.le_refl _)
  rw [stH_next hr, hok.s1n] at this
  exact this
abbrev CH (f : Fs) (rs : List Rc) (k i : Nat) : Option Ob := (stH f.s rs k).get i
abbrev CT (nt : Nat) (f : Fs) (rs : List Rc) (k d : Nat) : Value := vget nt (stT f.t rs k) (.tmp d)
def WH (rs : List Rc) (k i : Nat) : Prop := ∃ r, rs[k]? = some r ∧ r.W i
def SH (rs : List Rc) (k i : Nat) : Prop := ∃ r, rs[k]? = some r ∧ r.foot.testBit i = true
def WT (nt : Nat) (ops : Array Oper) (k d : Nat) : Prop := ∃ o, ops[k]? = some o ∧ o.dst = some d ∧ d < nt
def ST (ops : Array Oper) (k d : Nat) : Prop := ∃ o, ops[k]? = some o ∧ d ∈ o.looksAt ops
def pr (bs : List Nat) (j i : Nat) : Prop := (bs.getD j 0).testBit i = true
theorem Reg.foot_lt (h : Reg P call nt ops f rs bs) {k i : Nat} {r : Rc} (hr : rs[k]? = some r) (hi : r.foot.testBit i = true) : i < r.s.n := by
  obtain ⟨o, ho, hok, ht, hs⟩ := h.op k r hr
  obtain ⟨ob, hg, _⟩ := hok.foot i hi
  exact Hs.get_lt hg
theorem Reg.apartH (h : Reg P call nt ops f rs bs) : Apart ops.size (CH f rs) (SH rs) (WH rs) (pr bs) where
  keep k hk i hw := by
    obtain ⟨r, hr⟩ := h.get hk
    obtain ⟨o, ho, hok, ht, hs⟩ := h.op k r hr
    show (stH f.s rs (k + 1)).get i = (stH f.s rs k).get i
    rw [stH_next hr, ← hs]
    exact hok.keep i fun hx => hw ⟨r, hr, hx⟩
  rw_ k j hkj hj hp i hw hs := by
    obtain ⟨x, hx, hxw⟩ := hw
    obtain ⟨y, hy, hyf⟩ := hs
    obtain ⟨o, ho, hok, _, _⟩ := h.op k x hx
    obtain ⟨p, hpo, hpok, _, _⟩ := h.op j y hy
    have hpair := (h.pair k j x y o p hkj hx hy ho hpo).resolve_left hp
    simp only [pairOk, Bool.and_eq_true] at hpair
    obtain ⟨⟨⟨_, c1⟩, c2⟩, c3⟩ := hpair
    rcases hxw with hxw | hxw
    · exact and_bits c1 hxw hyf
    · rw [range_bits c2 hxw.1 hxw.2] at hyf; cases hyf
  wr k j hkj hj hp i hw hs := by
    obtain ⟨y, hy, hyw⟩ := hw
    obtain ⟨p, hpo, hpok, _, _⟩ := h.op j y hy
    have key : ∀ x, rs[k]? = some x → x.foot.testBit i = true → False := fun x hx hxf => by
      obtain ⟨o, ho, hok, _, _⟩ := h.op k x hx
      have hpair := (h.pair k j x y o p hkj hx hy ho hpo).resolve_left hp
      simp only [pairOk, Bool.and_eq_true] at hpair
      obtain ⟨⟨⟨_, c1⟩, c2⟩, c3⟩ := hpair
      rcases hyw with hyw | hyw
      · exact and_bits c3 hyw hxf
      · have h1 := h.foot_lt hx hxf
        have h2 := h.disj hx hy hkj
        have h3 := hok.n
        omega
    rcases hs with ⟨x, hx, hxf⟩ | ⟨x, hx, hxw⟩
    · exact key x hx hxf
    · obtain ⟨o, ho, hok, _, _⟩ := h.op k x hx
      rcases hxw with hxw | hxw
      · exact key x hx (hok.wr i hxw)
      · have hpair := (h.pair k j x y o p hkj hx hy ho hpo).resolve_left hp
        simp only [pairOk, Bool.and_eq_true] at hpair
        obtain ⟨⟨⟨_, c1⟩, c2⟩, c3⟩ := hpair
        rcases hyw with hyw | hyw
        · have := hpok.wr i hyw
          rw [range_bits c2 hxw.1 hxw.2] at this; cases this
        · have h2 := h.disj hx hy hkj
          omega
theorem vget_vput {t : Tr Value} {dst : Option Tmp} {v : Value} {d : Nat} (htop : nt ≤ 2 ^ TD) (hd : d < nt) : vget nt (vput nt t dst v) (.tmp d) = if dst = some d then v else vget nt t (.tmp d) := by
  simp only [vget, blt_true hd, cond_true]
  cases dst with
  | none => simp [vput]
  | some e =>
    by_cases he : e < nt
    · simp only [vput, blt_true he, cond_true, tget_vput he hd htop, Option.some.injEq]
      by_cases hde : d = e
      · subst hde; simp
      · have : ¬ e = d := fun hx => hde hx.symm
        simp [hde, this]
    · have : ¬ e = d := fun hx => he (hx ▸ hd)
      simp only [vput, blt_false he, cond_false, Option.some.injEq, this, if_false]
theorem Reg.apartT (h : Reg P call nt ops f rs bs) : Apart ops.size (CT nt f rs) (ST ops) (WT nt ops) (pr bs) where
  keep k hk d hw := by
    obtain ⟨r, hr⟩ := h.get hk
    obtain ⟨o, ho, hok, ht, hs⟩ := h.op k r hr
    show vget nt (stT f.t rs (k + 1)) (.tmp d) = vget nt (stT f.t rs k) (.tmp d)
    rw [stT_next hr, hok.t1, ← ht]
    by_cases hd : d < nt
    · rw [vget_vput (h.st 0 (Nat.zero_le _)).2.top hd]
      have : ¬ o.dst = some d := fun hx => hw ⟨o, ho, hx, hd⟩
      rw [if_neg this]
    · simp only [vget, blt_false hd, cond_false]
  rw_ k j hkj hj hp d hw hs := by
    obtain ⟨o, ho, hod, hdn⟩ := hw
    obtain ⟨p, hpo, hpl⟩ := hs
    obtain ⟨x, hx⟩ := h.get (k := k) (by omega)
    obtain ⟨y, hy⟩ := h.get hj
    have hpair := (h.pair k j x y o p hkj hx hy ho hpo).resolve_left hp
    simp only [pairOk, Bool.and_eq_true] at hpair
    exact (Oper.apart_spec hpair.1.1.1).1 d hod hpl
  wr k j hkj hj hp d hw hs := by
    obtain ⟨p, hpo, hpd, hdn⟩ := hw
    obtain ⟨x, hx⟩ := h.get (k := k) (by omega)
    obtain ⟨y, hy⟩ := h.get hj
    rcases hs with ⟨o, ho, hol⟩ | ⟨o, ho, hod, _⟩
    · have hpair := (h.pair k j x y o p hkj hx hy ho hpo).resolve_left hp
      simp only [pairOk, Bool.and_eq_true] at hpair
      exact (Oper.apart_spec hpair.1.1.1).2.2 d hpd hol
    · have hpair := (h.pair k j x y o p hkj hx hy ho hpo).resolve_left hp
      simp only [pairOk, Bool.and_eq_true] at hpair
      exact (Oper.apart_spec hpair.1.1.1).2.1 d hod hpd
noncomputable abbrev VH (f : Fs) (rs : List Rc) (N : Nat) (D : Nat → Prop) (i : Nat) : Option Ob := vw (CH f rs) (WH rs) D N i
noncomputable abbrev VT (nt : Nat) (ops : Array Oper) (f : Fs) (rs : List Rc) (D : Nat → Prop) (d : Nat) : Value := vw (CT nt f rs) (WT nt ops) D ops.size d
open Classical in
/-- The names that are there when those of D are done. -/
noncomputable def inE (f : Fs) (rs : List Rc) (D : Nat → Prop) (i : Nat) : Bool := decide (i < f.s.n ∨ ∃ (k : Nat) (r : Rc), D k ∧ rs[k]? = some r ∧ r.s.n ≤ i ∧ i < r.n1)
theorem inE_iff {D : Nat → Prop} {i : Nat} : inE f rs D i = true ↔ (i < f.s.n ∨ ∃ (k : Nat) (r : Rc), D k ∧ rs[k]? = some r ∧ r.s.n ≤ i ∧ i < r.n1) := by simp [inE]
def bpT (p : Nat → Bool) (nt : Nat) (t : Tr Value) : Bool := (List.range nt).all fun k => bp p ((tget TD t k).getD undef)
theorem bpT_iff {p : Nat → Bool} {nt : Nat} {t : Tr Value} : bpT p nt t = true ↔ ∀ k, k < nt → bp p ((tget TD t k).getD undef) = true := by simp [bpT]
def Ob.bp (p : Nat → Bool) : Ob → Bool
  | .cells c _ _ => bpL p c
  | .loop _ _ nt t _ _ _ d => p d && bpT p nt t
  | _ => true
theorem Ob.bd_bp {n : Nat} {p : Nat → Bool} (h : ∀ i, i < n → p i = true) (ob : Ob) (hb : ob.bd n = true) : ob.bp p = true := by
  cases ob with
  | cells c e g => exact bdL_bp h c hb
  | raw o => rfl
  | loop st pe nt t ps as bo d =>
    simp only [Ob.bd, Bool.and_eq_true, Nat.blt_eq] at hb
    simp only [Ob.bp, Bool.and_eq_true]
    exact ⟨h d hb.1, bpT_iff.2 fun k hk => Go.Proofs.Ytdfabagclnjoaaa.bd_bp h _ (bdT_iff.1 hb.2 k hk)⟩
  | dead => rfl
theorem Ob.bp_mono {p q : Nat → Bool} (h : ∀ i, p i = true → q i = true) (ob : Ob) (hb : ob.bp p = true) : ob.bp q = true := by
  cases ob with
  | cells c e g => exact bpL_mono h c hb
  | raw o => rfl
  | loop st pe nt t ps as bo d =>
    simp only [Ob.bp, Bool.and_eq_true] at hb ⊢
    exact ⟨h d hb.1, bpT_iff.2 fun k hk => Go.Proofs.Ytdfabagclnjoaaa.bp_mono h _ (bpT_iff.1 hb.2 k hk)⟩
  | dead => rfl
theorem Ob.At_on {P : Program} {p : Nat → Bool} {σ τ : Sub} {w w' : World} {i : Nat} {ob : Ob} (h : Sub.on p τ σ) (hi : p i = true) (hb : ob.bp p = true) (hw : w'.heap[σ.b i]? = w.heap[σ.b i]?) (ha : ob.At P σ w i) : ob.At P τ w' i := by
  cases ob with
  | dead => trivial
  | raw o => exact ⟨ha.1, by rw [(h i hi).1, hw]; exact ha.2⟩
  | loop st pend nt t ps as bo d =>
    obtain ⟨r, h1, ⟨a1, a2, a3, a4, a5, a6⟩, h3, h4⟩ := ha
    simp only [Ob.bp, Bool.and_eq_true] at hb
    exact ⟨r, by rw [(h i hi).1, hw]; exact h1, ⟨a1, a2, a3, a4, a5, by rw [(h d hb.1).1]; exact a6⟩, h3, fun k hk => by rw [h4 k hk, ren_on h _ (bpT_iff.1 hb.2 k hk)]⟩
  | cells c e g =>
    obtain ⟨tail, ty, fr, h1, h0, h2, h3⟩ := ha
    refine ⟨tail, ty, fr, ?_, h0, h2, fun hg => by rw [(h i hi).2]; exact h3 hg⟩
    rw [(h i hi).1, hw, h1]
    have : c.map (ren τ) = c.map (ren σ) := List.map_congr_left fun v hv => ren_on h v ((bpL_iff p c).1 hb v hv)
    rw [this]
/-- In the midst of a region: those of D are done. -/
structure Mid (P : Program) (nt : Nat) (ops : Array Oper) (f : Fs) (rs : List Rc) (σ₀ : Sub) (w₀ : World) (D : Nat → Prop) (σ : Sub) (a : Act) (w : World) : Prop where
  at_ : ∀ i ob, VH f rs ops.size D i = some ob → ob.At P σ w i
  gl : ∀ i, i < P.globals.size → σ.b i = i
  ge : P.globals.size ≤ f.s.n
  inj : ∀ i j ob ob', VH f rs ops.size D i = some ob → ob.alive = true → VH f rs ops.size D j = some ob' → ob'.alive = true → σ.b i = σ.b j → i = j
  size : a.tmps.size = nt
  defers : a.defers = marks σ₀ f.ds
  dlt : ∀ d ∈ f.ds, d < f.s.n
  tmp : ∀ d, d < nt → a.tmps[d]? = some (ren σ (VT nt ops f rs D d))
  inH : ∀ i ob, VH f rs ops.size D i = some ob → inE f rs D i = true ∧ ob.bp (inE f rs D) = true
  inT : ∀ d, d < nt → bp (inE f rs D) (VT nt ops f rs D d) = true
  agree : ∀ i, i < f.s.n ∨ (stH f.s rs rs.length).n ≤ i → σ.b i = σ₀.b i ∧ σ.c i = σ₀.c i
  hsize : w₀.heap.size ≤ w.heap.size
  os : w.os = w₀.os
  tape : w.tape = w₀.tape
  output : w.output = w₀.output
  fresh : ∀ i, inE f rs D i = true → f.s.n ≤ i → w₀.heap.size ≤ σ.b i ∨ ∃ j, j < f.s.n ∧ (orBits rs).testBit j = true ∧ σ.b i = σ₀.b j
  frame : ∀ b, b < w₀.heap.size → (∀ j, j < f.s.n → (orBits rs).testBit j = true → σ₀.b j ≠ b) → w.heap[b]? = w₀.heap[b]?
theorem Mid.lt {σ₀ σ : Sub} {w₀ w : World} {D : Nat → Prop} {a : Act} (m : Mid P nt ops f rs σ₀ w₀ D σ a w) {i : Nat} {ob : Ob} (h : VH f rs ops.size D i = some ob) (hal : ob.alive = true) : σ.b i < w.heap.size := by
  obtain ⟨o, h1⟩ := Ob.At_some hal (m.at_ i _ h)
  rcases Nat.lt_or_ge (σ.b i) w.heap.size with hlt | hge
  · exact hlt
  · rw [Array.getElem?_eq_none hge] at h1; cases h1
theorem Mid.start (h : Reg P call nt ops f rs bs) {σ : Sub} {a : Act} {w : World} (hf : FRel P σ nt f a w) {D : Nat → Prop} (hD : ∀ k, ¬ D k) : Mid P nt ops f rs σ w D σ a w := by
  have hv : ∀ i, VH f rs ops.size D i = f.s.get i := fun i => vw_none (C := CH f rs) (W := WH rs) hD i ops.size
  have ht : ∀ d, VT nt ops f rs D d = vget nt f.t (.tmp d) := fun d => vw_none (C := CT nt f rs) (W := WT nt ops) hD d ops.size
  have hin : ∀ i, i < f.s.n → inE f rs D i = true := fun i hi => inE_iff.2 (.inl hi)
  refine ⟨fun i ob hi => hf.rel.at_ i ob (by rw [← hv]; exact hi), hf.rel.gl, hf.rel.ge, fun i j ob ob' hi hal hj hal' he => hf.rel.inj i j ⟨ob, by rw [← hv]; exact hi, hal⟩ ⟨ob', by rw [← hv]; exact hj, hal'⟩ he, hf.tr.size, hf.ds, hf.dlt, fun d hd => ?_, fun i ob hi => ?_, fun d hd => ?_, fun _ _ => ⟨rfl, rfl⟩, Nat.le_refl _, rfl, rfl, rfl, fun i hi hn => ?_, fun _ _ _ => rfl⟩
  · rw [hf.tr.at_ d hd, ht d]; simp only [vget, blt_true hd, cond_true]
  · rw [hv] at hi
    have := hf.ok.bd i _ hi
    exact ⟨hin i this.1, Ob.bd_bp hin ob this.2⟩
  · rw [ht d]
    simp only [vget, blt_true hd, cond_true]
    exact bd_bp hin _ (hf.to.bd d hd)
  · rcases inE_iff.1 hi with hi | ⟨k, r, hk, _⟩
    · omega
    · exact absurd hk (hD k)
end
end Go.Proofs.Ytdfabagclnjoaaa
