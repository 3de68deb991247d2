import Derived.Test.YtdfabagclnjoaaaEvA
namespace Go.Proofs.Ytdfabagclnjoaaa
set_option linter.unusedSimpArgs false
set_option linter.unusedVariables false
open Go
abbrev TD : Nat := 10
/-- A row as it was made, one that grew, one that is only read. -/
inductive Gr where
  | fixed | grown | ro
  deriving DecidableEq
def Gr.w : Gr → Bool
  | .ro => false
  | _ => true
theorem Gr.w_ne {g : Gr} (h : g.w = true) : g ≠ .ro := fun he => by rw [he] at h; cases h
def Gr.isGrown : Gr → Bool
  | .grown => true
  | _ => false
def Gr.isFixed : Gr → Bool
  | .fixed => true
  | _ => false
theorem Gr.isGrown_eq {g : Gr} (h : g.isGrown = true) : g = .grown := by cases g <;> first | rfl | cases h
theorem Gr.isFixed_eq {g : Gr} (h : g.isFixed = true) : g = .fixed := by cases g <;> first | rfl | cases h
/-- A block, as the reckoning has it. -/
inductive Ob where
  | cells (c : List Value) (e : TypeId) (g : Gr)
  | raw (o : Obj)
  | loop (st : LoopState) (pend : Option Code) (nt : Nat) (t : Tr Value) (ps : Array Tmp) (assign body : Code) (d : Nat)
  | dead
def Ob.alive : Ob → Bool
  | .dead => false
  | _ => true
def rawOk : Obj → Bool
  | .cells .. => false
  | _ => true
def bdT (n nt : Nat) (t : Tr Value) : Bool := (List.range nt).all fun k => bd n ((tget TD t k).getD undef)
theorem bdT_iff {n nt : Nat} {t : Tr Value} : bdT n nt t = true ↔ ∀ k, k < nt → bd n ((tget TD t k).getD undef) = true := by simp [bdT]
def Ob.bd (n : Nat) : Ob → Bool
  | .cells c _ _ => bdL n c
  | .raw _ => true
  | .loop _ _ nt t _ _ _ d => Nat.blt d n && bdT n nt t
  | .dead => true
def Ob.At (P : Program) (σ : Sub) (w : World) (i : Nat) : Ob → Prop
  | .cells c e g => ∃ (tail : List Value) (ty : TypeId) (fr : Nat × Nat), w.heap[σ.b i]? = some (.cells (c.map (ren σ) ++ tail).toArray ty fr) ∧ (g ≠ .ro → ty = e ∧ fr = (0, 0)) ∧
      (g = .fixed → tail = []) ∧ (g = .grown → c.length + tail.length = σ.c i * P.cellsOf e ∧ σ.c i ≤ maxLen)
  | .raw o => rawOk o = true ∧ w.heap[σ.b i]? = some o
  | .loop st pend nt t ps as bo d => ∃ r : Loop, w.heap[σ.b i]? = some (.loop r) ∧ (r.state = st ∧ r.pending = pend ∧ r.params = ps ∧ r.assign = as ∧ r.body = bo ∧ r.defers = σ.b d) ∧ r.tmps.size = nt ∧
      ∀ k, k < nt → r.tmps[k]? = some (ren σ ((tget TD t k).getD undef))
  | .dead => True
theorem Ob.At_some {P : Program} {σ : Sub} {w : World} {i : Nat} {ob : Ob} (ha : ob.alive = true) (h : ob.At P σ w i) : ∃ o, w.heap[σ.b i]? = some o := by
  cases ob with
  | cells c e g => obtain ⟨tail, ty, fr, h1, _⟩ := h; exact ⟨_, h1⟩
  | raw o => exact ⟨o, h.2⟩
  | loop st pend nt t ps as bo d => obtain ⟨r, h1, _⟩ := h; exact ⟨_, h1⟩
  | dead => cases ha
/-- The memory that is reckoned with: the next name, the blocks, and which were written. -/
structure Hs where
  n : Nat
  h : Tr Ob
  wr : Nat
abbrev HD : Nat := 14
def Hs.get (s : Hs) (i : Nat) : Option Ob := bif Nat.blt i s.n then tget HD s.h i else none
structure Hs.Ok (s : Hs) : Prop where
  top : s.n ≤ 2 ^ HD
  bd : ∀ i ob, s.get i = some ob → i < s.n ∧ ob.bd s.n = true
def Hs.live (s : Hs) (i : Nat) : Prop := ∃ ob, s.get i = some ob ∧ ob.alive = true
structure Rel (P : Program) (σ : Sub) (s : Hs) (w : World) : Prop where
  at_ : ∀ i ob, s.get i = some ob → ob.At P σ w i
  inj : ∀ i j, s.live i → s.live j → σ.b i = σ.b j → i = j
  gl : ∀ i, i < P.globals.size → σ.b i = i
  ge : P.globals.size ≤ s.n
structure Aft (P : Program) (σ : Sub) (s : Hs) (w : World) (σ' : Sub) (s' : Hs) (w' : World) : Prop where
  le : s.n ≤ s'.n
  agree : ∀ i, i < s.n ∨ s'.n ≤ i → σ'.b i = σ.b i ∧ σ'.c i = σ.c i
  rel : Rel P σ' s' w'
  ok : s'.Ok
  size : w.heap.size ≤ w'.heap.size
  os : w'.os = w.os
  tape : w'.tape = w.tape
  output : w'.output = w.output
  wr : ∀ j, s.wr.testBit j = true → s'.wr.testBit j = true
  fresh : ∀ i, s.n ≤ i → i < s'.n → w.heap.size ≤ σ'.b i ∨ ∃ j, j < s.n ∧ s'.wr.testBit j = true ∧ σ'.b i = σ.b j
  frame : ∀ b, b < w.heap.size → (∀ j, j < s.n → s'.wr.testBit j = true → σ.b j ≠ b) → w'.heap[b]? = w.heap[b]?
theorem Aft.same {P : Program} {σ σ' : Sub} {s s' : Hs} {w w' : World} (h : Aft P σ s w σ' s' w') : Sub.same s.n σ' σ := fun i hi => h.agree i (.inl hi)
theorem Aft.reads {P : Program} {σ σ' : Sub} {s s' : Hs} {w w' : World} (h : Aft P σ s w σ' s' w') {v : Value} (hv : bd s.n v = true) : ren σ' v = ren σ v := ren_congr h.same v hv
theorem Aft.refl {P : Program} {σ : Sub} {s : Hs} {w : World} (h : Rel P σ s w) (ok : s.Ok) : Aft P σ s w σ s w :=
  ⟨Nat.le_refl _, fun _ _ => ⟨rfl, rfl⟩, h, ok, Nat.le_refl _, rfl, rfl, rfl, fun _ h => h, fun i h1 h2 => by omega, fun _ _ _ => rfl⟩
theorem Aft.trans {P : Program} {σ σ₁ σ₂ : Sub} {s s₁ s₂ : Hs} {w w₁ w₂ : World} (h : Aft P σ s w σ₁ s₁ w₁) (k : Aft P σ₁ s₁ w₁ σ₂ s₂ w₂) : Aft P σ s w σ₂ s₂ w₂ := by
  refine ⟨Nat.le_trans h.le k.le, fun i hi => ?_, k.rel, k.ok, Nat.le_trans h.size k.size, k.os.trans h.os, k.tape.trans h.tape, k.output.trans h.output, fun j hj => k.wr j (h.wr j hj), fun i h1 h2 => ?_, fun b hb hne => ?_⟩
  · have hle := h.le
    have kle := k.le
    have a1 := k.agree i (by omega)
    have a2 := h.agree i (by omega)
    exact ⟨a1.1.trans a2.1, a1.2.trans a2.2⟩
  · by_cases hi : i < s₁.n
    · rw [(k.agree i (.inl hi)).1]
      rcases h.fresh i h1 hi with hf | ⟨j, hj, hw, he⟩
      · exact .inl hf
      · exact .inr ⟨j, hj, k.wr j hw, he⟩
    · rcases k.fresh i (by omega) h2 with hf | ⟨j, hj, hw, he⟩
      · exact .inl (Nat.le_trans h.size hf)
      · by_cases hjs : j < s.n
        · exact .inr ⟨j, hjs, hw, he.trans (h.agree j (.inl hjs)).1⟩
        · rcases h.fresh j (by omega) hj with hf | ⟨j0, hj0, hw0, he0⟩
          · exact .inl (he ▸ hf)
          · exact .inr ⟨j0, hj0, k.wr _ hw0, he.trans he0⟩
  · have h1 := h.frame b hb fun j hj hw => hne j hj (k.wr j hw)
    have h2 := k.frame b (Nat.lt_of_lt_of_le hb h.size) fun j hj hw => by
      by_cases hjs : j < s.n
      · rw [(h.agree j (.inl hjs)).1]; exact hne j hjs hw
      · rcases h.fresh j (by omega) hj with hf | ⟨j0, hj0, hw0, he0⟩
        · omega
        · rw [he0]; exact hne j0 hj0 (k.wr _ hw0)
    exact h2.trans h1
/-- The world moved on by a draw alone. -/
theorem Rel.drew {P : Program} {σ : Sub} {s : Hs} {w : World} (h : Rel P σ s w) (d : Nat) : Rel P σ s { w with drawn := d } :=
  ⟨fun i ob hi => by have := h.at_ i ob hi; cases ob <;> exact this, h.inj, h.gl, h.ge⟩
theorem Aft.drew {P : Program} {σ : Sub} {s : Hs} {w : World} (h : Rel P σ s w) (ok : s.Ok) (d : Nat) : Aft P σ s w σ s { w with drawn := d } :=
  { Aft.refl h ok with rel := h.drew d, size := Nat.le_refl _, os := rfl, tape := rfl, output := rfl, frame := fun _ _ _ => rfl }
theorem Hs.get_lt {s : Hs} {i : Nat} {ob : Ob} (h : s.get i = some ob) : i < s.n := by
  unfold Hs.get at h
  by_cases hi : i < s.n
  · exact hi
  · have : Nat.blt i s.n = false := by cases hb : Nat.blt i s.n with | false => rfl | true => exact absurd (by simpa [Nat.blt_eq] using hb) hi
    rw [this] at h; cases h
theorem Hs.get_set {n wr wr' : Nat} {h : Tr Ob} {i j : Nat} {ob : Ob} (hn : n ≤ 2 ^ HD) (hi : i < n) : (Hs.mk n (tset HD h i ob) wr').get j = if j = i then some ob else (Hs.mk n h wr).get j := by
  unfold Hs.get
  by_cases hj : j < n
  · have : Nat.blt j n = true := by simpa [Nat.blt_eq] using hj
    simp only [this, cond_true]
    exact tget_tset HD h i j ob (by omega) (by omega)
  · have hb : Nat.blt j n = false := by cases hb : Nat.blt j n with | false => rfl | true => exact absurd (by simpa [Nat.blt_eq] using hb) hj
    have : j ≠ i := by omega
    simp [hb, this]
theorem Hs.get_push {s : Hs} {j : Nat} {ob : Ob} (hn : s.n < 2 ^ HD) : (Hs.mk (s.n + 1) (tset HD s.h s.n ob) s.wr).get j = if j = s.n then some ob else s.get j := by
  rw [Hs.get_set (wr := s.wr) (by omega) (by omega)]
  by_cases he : j = s.n
  · simp [he]
  · simp only [he, if_false]
    unfold Hs.get
    have : Nat.blt j (s.n + 1) = Nat.blt j s.n := by
      rw [Bool.eq_iff_iff, Nat.blt_eq, Nat.blt_eq]; omega
    simp only [this]
theorem Ob.bd_mono {n m : Nat} (h : n ≤ m) (ob : Ob) (hb : ob.bd n = true) : ob.bd m = true := by
  cases ob with
  | cells c e g => exact bdL_mono h c hb
  | raw o => rfl
  | loop st pend nt t ps as bo d =>
    simp only [Ob.bd, Bool.and_eq_true, Nat.blt_eq] at hb ⊢
    exact ⟨Nat.lt_of_lt_of_le hb.1 h, bdT_iff.2 fun k hk => Go.Proofs.Ytdfabagclnjoaaa.bd_mono h _ (bdT_iff.1 hb.2 k hk)⟩
  | dead => rfl
theorem Ob.At_congr {P : Program} {n : Nat} {σ τ : Sub} {w w' : World} {i : Nat} {ob : Ob} (h : Sub.same n τ σ) (hi : i < n) (hb : ob.bd n = true) (hw : w'.heap[σ.b i]? = w.heap[σ.b i]?) (ha : ob.At P σ w i) : ob.At P τ w' i := by
  cases ob with
  | dead => trivial
  | raw o => exact ⟨ha.1, by rw [(h i hi).1, hw]; exact ha.2⟩
  | loop st pend nt t ps as bo d =>
    obtain ⟨r, h1, ⟨a1, a2, a3, a4, a5, a6⟩, h3, h4⟩ := ha
    simp only [Ob.bd, Bool.and_eq_true, Nat.blt_eq] at hb
    exact ⟨r, by rw [(h i hi).1, hw]; exact h1, ⟨a1, a2, a3, a4, a5, by rw [(h d hb.1).1]; exact a6⟩, h3, fun k hk => by rw [h4 k hk, ren_congr h _ (bdT_iff.1 hb.2 k hk)]⟩
  | cells c e g =>
    obtain ⟨tail, ty, fr, h1, h0, h2, h3⟩ := ha
    refine ⟨tail, ty, fr, ?_, h0, h2, fun hg => by rw [(h i hi).2]; exact h3 hg⟩
    rw [(h i hi).1, hw, h1]
    have : c.map (ren τ) = c.map (ren σ) := List.map_congr_left fun v hv => ren_congr h v ((bdL_iff n c).1 hb v hv)
    rw [this]
/-- Where the names' blocks lie. -/
theorem Rel.lt {P : Program} {σ : Sub} {s : Hs} {w : World} (h : Rel P σ s w) {i : Nat} (hl : s.live i) : σ.b i < w.heap.size := by
  obtain ⟨ob, hg, hal⟩ := hl
  obtain ⟨o, h1⟩ := Ob.At_some hal (h.at_ i _ hg)
  rcases Nat.lt_or_ge (σ.b i) w.heap.size with hlt | hge
  · exact hlt
  · rw [Array.getElem?_eq_none hge] at h1; cases h1
/-- A new block of cells, with the room that it has. -/
theorem Aft.new {P : Program} {σ : Sub} {s : Hs} {w : World} (h : Rel P σ s w) (ok : s.Ok) (c : List Value) (e : TypeId) (g : Gr) (tail : List Value) (room : Nat)
    (hb : bdL s.n c = true) (hn : s.n < 2 ^ HD) (ht : g = .fixed → tail = []) (hr : g = .grown → c.length + tail.length = room * P.cellsOf e ∧ room ≤ maxLen) :
    ∃ σ', σ'.b s.n = w.heap.size ∧ σ'.c s.n = room ∧ Aft P σ s w σ' ⟨s.n + 1, tset HD s.h s.n (.cells c e g), s.wr⟩ { w with heap := w.heap.push (.cells (c.map (ren σ) ++ tail).toArray e (0, 0)) } := by
  let σ' : Sub := ⟨fun i => if i = s.n then w.heap.size else σ.b i, fun i => if i = s.n then room else σ.c i⟩
  have hsame : Sub.same s.n σ' σ := fun i hi => by
    have : i ≠ s.n := by omega
    simp [σ', this]
  have hget := fun j => Hs.get_push (s := s) (j := j) (ob := .cells c e g) hn
  have hcase : ∀ j ob, (Hs.mk (s.n + 1) (tset HD s.h s.n (.cells c e g)) s.wr).get j = some ob → (j = s.n ∧ ob = .cells c e g) ∨ (j < s.n ∧ s.get j = some ob) := by
    intro j ob hj
    rw [hget j] at hj
    by_cases he : j = s.n
    · rw [if_pos he] at hj; exact .inl ⟨he, by injection hj with hj; exact hj.symm⟩
    · rw [if_neg he] at hj; exact .inr ⟨Hs.get_lt hj, hj⟩
  have hnew : σ'.b s.n = w.heap.size := by simp [σ']
  have hroom : σ'.c s.n = room := by simp [σ']
  have hheap : ∀ b, b < w.heap.size → (w.heap.push (.cells (c.map (ren σ) ++ tail).toArray e (0, 0)))[b]? = w.heap[b]? := fun b hb => by
    rw [Array.getElem?_push, if_neg (by omega)]
  refine ⟨σ', hnew, hroom, ⟨by simp, fun i hi => ?_, ⟨fun i ob hi => ?_, fun i j hi hj he => ?_, fun i hi => by rw [(hsame i (Nat.lt_of_lt_of_le hi h.ge)).1]; exact h.gl i hi, Nat.le_succ_of_le h.ge⟩, ⟨by simp; omega, fun i ob hi => ?_⟩, by simp, rfl, rfl, rfl, fun _ h => h, fun i h1 h2 => .inl ?_, fun b hb _ => hheap b hb⟩⟩
  · have : i ≠ s.n := by
      rcases hi with hi | hi
      · omega
      · simp only at hi; omega
    simp [σ', this]
  · rcases hcase i ob hi with ⟨rfl, rfl⟩ | ⟨hlt, ho⟩
    · refine ⟨tail, e, (0, 0), ?_, fun _ => ⟨rfl, rfl⟩, ht, fun hg => by rw [hroom]; exact hr hg⟩
      rw [hnew]
      have : c.map (ren σ') = c.map (ren σ) := List.map_congr_left fun v hv => ren_congr hsame v ((bdL_iff _ c).1 hb v hv)
      simp [this]
    · have hb := (ok.bd i ob ho).2
      cases hal : ob.alive with
      | false => cases ob <;> first | trivial | cases hal
      | true => exact Ob.At_congr hsame hlt hb (hheap _ (h.lt ⟨ob, ho, hal⟩)) (h.at_ i _ ho)
  · obtain ⟨ob1, h1, al1⟩ := hi
    obtain ⟨ob2, h2, al2⟩ := hj
    rcases hcase i _ h1 with ⟨rfl, _⟩ | ⟨hi, ho1⟩ <;> rcases hcase j _ h2 with ⟨rfl, _⟩ | ⟨hj, ho2⟩
    · rfl
    · rw [hnew, (hsame j hj).1] at he
      have := h.lt ⟨_, ho2, al2⟩; omega
    · rw [hnew, (hsame i hi).1] at he
      have := h.lt ⟨_, ho1, al1⟩; omega
    · rw [(hsame i hi).1, (hsame j hj).1] at he
      exact h.inj i j ⟨_, ho1, al1⟩ ⟨_, ho2, al2⟩ he
  · rcases hcase i ob hi with ⟨rfl, rfl⟩ | ⟨hlt, ho⟩
    · exact ⟨by simp, bdL_mono (by simp) c hb⟩
    · exact ⟨by simp; omega, Ob.bd_mono (by simp) ob (ok.bd i ob ho).2⟩
  · have : i = s.n := by simp at h2; omega
    subst this; rw [hnew]; exact Nat.le_refl _
/-- A block is written. -/
theorem Aft.put {P : Program} {σ : Sub} {s : Hs} {w : World} (h : Rel P σ s w) (ok : s.Ok) {i : Nat} {c : List Value} {e : TypeId} {g : Gr} (hi : s.get i = some (.cells c e g)) (c' : List Value) (hl : c'.length = c.length) (hb : bdL s.n c' = true)
    (w' : World) (tail : List Value) (hw : w.heap[σ.b i]? = some (.cells (c.map (ren σ) ++ tail).toArray e (0, 0))) (heq : w'.heap[σ.b i]? = some (.cells (c'.map (ren σ) ++ tail).toArray e (0, 0)))
    (hne : ∀ b, b ≠ σ.b i → w'.heap[b]? = w.heap[b]?) (hsz : w'.heap.size = w.heap.size) (hos : w'.os = w.os) (htp : w'.tape = w.tape) (hou : w'.output = w.output) :
    Aft P σ s w σ ⟨s.n, tset HD s.h i (.cells c' e g), s.wr ||| 1 <<< i⟩ w' := by
  have hin := Hs.get_lt hi
  have hget := fun j => Hs.get_set (n := s.n) (wr := s.wr) (wr' := s.wr ||| 1 <<< i) (h := s.h) (i := i) (j := j) (ob := .cells c' e g) ok.top hin
  have hb2 : σ.b i < w.heap.size := h.lt ⟨_, hi, rfl⟩
  have hlive : ∀ j, (Hs.mk s.n (tset HD s.h i (.cells c' e g)) (s.wr ||| 1 <<< i)).live j → s.live j := by
    rintro j ⟨ob1, hj, al⟩
    rw [hget j] at hj
    by_cases he : j = i
    · subst he; exact ⟨_, hi, rfl⟩
    · rw [if_neg he] at hj; exact ⟨_, hj, al⟩
  refine ⟨Nat.le_refl _, fun _ _ => ⟨rfl, rfl⟩, ⟨fun j ob hj => ?_, fun j k hj hk he => h.inj j k (hlive j hj) (hlive k hk) he, h.gl, h.ge⟩, ⟨ok.top, fun j ob hj => ?_⟩, Nat.le_of_eq hsz.symm, hos, htp, hou, fun j hj => by simp [Nat.testBit_or, hj], fun j h1 h2 => by simp at h2; omega, fun b hb hn => ?_⟩
  · rw [hget j] at hj
    by_cases he : j = i
    · subst he
      rw [if_pos rfl] at hj; injection hj with hj; subst hj
      obtain ⟨t2, ty2, fr2, k1, k0, k2, k3⟩ := h.at_ j _ hi
      rw [hw] at k1
      injection k1 with k1; injection k1 with k1
      have : t2 = tail := by simpa using k1.symm
      subst this
      exact ⟨t2, e, (0, 0), heq, fun _ => ⟨rfl, rfl⟩, k2, fun hg => by rw [hl]; exact k3 hg⟩
    · rw [if_neg he] at hj
      cases hal : ob.alive with
      | false => cases ob <;> first | trivial | cases hal
      | true =>
        refine Ob.At_congr (n := s.n) (fun _ _ => ⟨rfl, rfl⟩) (Hs.get_lt hj) (ok.bd j _ hj).2 (hne _ fun hb => he (h.inj j i ⟨_, hj, hal⟩ ⟨_, hi, rfl⟩ hb)) (h.at_ j _ hj)
  · rw [hget j] at hj
    by_cases he : j = i
    · subst he
      rw [if_pos rfl] at hj; injection hj with hj; subst hj
      exact ⟨hin, hb⟩
    · rw [if_neg he] at hj
      exact ok.bd j ob hj
  · refine hne b fun hbe => hn i hin ?_ hbe.symm
    simp [Nat.testBit_or, Nat.testBit_shiftLeft]
end Go.Proofs.Ytdfabagclnjoaaa
