import Derived.Test.YtdfabagclnjoaaaEvJ
namespace Go.Proofs.Ytdfabagclnjoaaa
set_option linter.unusedSimpArgs false
set_option linter.unusedVariables false
open Go
def vwanted (nt : Nat) (ops : Array Oper) (t : Tr Value) (o : Oper) : Bool :=
  match o.guard with
  | none => true
  | some (j, want) =>
    match (ops[j]?).bind (·.dst) with
    | some d => match vget nt t (.tmp d) with
      | .bool b => b == want
      | _ => false
    | none => false
theorem ren_bool {σ : Sub} {v : Value} {b : Bool} : ren σ v = .bool b ↔ v = .bool b := by
  cases v with
  | pointer a => cases a <;> simp [ren]
  | slice a _ _ => cases a <;> simp [ren]
  | map a => cases a <;> simp [ren]
  | _ => simp [ren]
theorem wanted_at {σ : Sub} {nt : Nat} {ops : Array Oper} {t : Tr Value} {a : Act} (hs : a.tmps.size = nt) (o : Oper) (h : ∀ d, d ∈ o.looksAt ops → d < nt → a.tmps[d]? = some (ren σ ((tget TD t d).getD undef))) : Region.wanted o (yielded ops a.tmps) = vwanted nt ops t o := by
  unfold Region.wanted vwanted
  cases hg : o.guard with
  | none => rfl
  | some p =>
    obtain ⟨j, want⟩ := p
    simp only [yielded]
    cases hd : (ops[j]?).bind (·.dst) with
    | none => simp
    | some d =>
      simp only [Option.bind_some]
      by_cases hk : d < nt
      · have h1 := h d (by simp [Oper.looksAt, hg, hd]) hk
        rw [h1]
        simp only [vget, blt_true hk, cond_true]
        generalize (tget TD t d).getD undef = v
        cases hv : v with
        | bool b => cases b <;> cases want <;> simp [ren]
        | pointer a => cases a <;> simp [ren]
        | slice a _ _ => cases a <;> simp [ren]
        | map a => cases a <;> simp [ren]
        | _ => simp [ren]
      · have h1 : a.tmps[d]? = none := Array.getElem?_eq_none (hs ▸ Nat.le_of_not_lt hk)
        rw [h1]
        simp [vget, blt_false hk, undef]
theorem wanted_eq {σ : Sub} {nt : Nat} {ops : Array Oper} {t : Tr Value} {a : Act} (tr : TRel σ nt t a) (o : Oper) : Region.wanted o (yielded ops a.tmps) = vwanted nt ops t o :=
  wanted_at tr.size o fun d _ hd => tr.at_ d hd
/-- The marks of a frame's loops. -/
def marks (σ : Sub) (ds : List Nat) : List Deferred := ds.map fun d => { target := .collected (σ.b d), args := #[] }
theorem marks_same {n : Nat} {σ τ : Sub} (h : Sub.same n σ τ) {ds : List Nat} (hd : ∀ d ∈ ds, d < n) : marks σ ds = marks τ ds :=
  List.map_congr_left fun d hm => by rw [(h d (hd d hm)).1]
/-- The frame and the memory as they are reckoned stand for the true ones. -/
structure FRel (P : Program) (σ : Sub) (nt : Nat) (f : Fs) (a : Act) (w : World) : Prop where
  rel : Rel P σ f.s w
  ok : f.s.Ok
  tr : TRel σ nt f.t a
  to : TOk nt f.t f.s.n
  ds : a.defers = marks σ f.ds
  dlt : ∀ d ∈ f.ds, d < f.s.n
theorem put_defers (a : Act) (dst : Option Tmp) (v : Value) : (a.put dst v).defers = a.defers := by cases dst <;> rfl
theorem FRel.put {P : Program} {σ σ' : Sub} {nt : Nat} {f : Fs} {a : Act} {w w' : World} (h : FRel P σ nt f a w) {s' : Hs} (ha : Aft P σ f.s w σ' s' w') (dst : Option Tmp) {v : Value} (hv : bd s'.n v = true) :
    FRel P σ' nt ⟨vput nt f.t dst v, s', f.ds⟩ (a.put dst (ren σ' v)) w' :=
  ⟨ha.rel, ha.ok, (h.tr.reads h.to ha.same).put h.to.top dst v, h.to.put ha.le dst hv, by rw [put_defers, h.ds]; exact (marks_same ha.same h.dlt).symm, fun d hd => Nat.lt_of_lt_of_le (h.dlt d hd) ha.le⟩
def evOps (P : Program) (call : Caller) (nt : Nat) (ops : Array Oper) : List Oper → Fs → Option Fs
  | [], f => some f
  | o :: rest, f =>
    match vwanted nt ops f.t o with
    | true =>
      match evOp P call nt o f.t f.s with
      | some (v, s') => evOps P call nt ops rest ⟨vput nt f.t o.dst v, s', f.ds⟩
      | none => none
    | false => evOps P call nt ops rest ⟨vput nt f.t o.dst undef, f.s, f.ds⟩
theorem ops_wp {P : Program} (hN : NoNum P) {call : Caller} (hcall : CallSpec P call) {R : Option Nat} {nt : Nat} {ops : Array Oper} {Q : Exit → Act → World → Prop} : ∀ (l : List Oper) (f f' : Fs), evOps P call nt ops l f = some f' →
    ∀ (σ : Sub) (a : Act) (w : World), FRel P σ nt f a w → (∀ σ' a' w', Aft P σ f.s w σ' f'.s w' → FRel P σ' nt f' a' w' → Q .normal a' w') → wpListIn (FW R) 0 P ops Q l a w
  | [], f, f', h, σ, a, w, hf, hQ => by
    simp only [evOps, Option.some.injEq] at h
    subst h
    exact hQ σ a w (Aft.refl hf.rel hf.ok) hf
  | o :: rest, f, f', h, σ, a, w, hf, hQ => by
    simp only [evOps] at h
    have hw := wanted_eq (ops := ops) hf.tr o
    simp only [wpListIn]
    cases hv : vwanted nt ops f.t o with
    | true =>
      rw [hv] at h hw
      rw [if_pos hw]
      simp only at h
      split at h
      · rename_i v s' he
        refine op_wp hN hcall he hf.rel hf.ok (fun x _ hx => hf.tr.eval hf.rel.gl hx) hf.to fun σ' w' ha hb => ?_
        exact ops_wp hN hcall rest _ _ h σ' _ w' (hf.put ha o.dst hb) fun σ2 a2 w2 ha2 hf2 => hQ σ2 a2 w2 (ha.trans ha2) hf2
      · cases h
    | false =>
      rw [hv] at h hw
      rw [if_neg (by rw [hw]; decide)]
      simp only at h
      have hp := hf.put (Aft.refl hf.rel hf.ok) o.dst (v := undef) (bd_undef _)
      rw [ren_undef] at hp
      exact ⟨fun _ _ => trivial, ops_wp hN hcall rest _ _ h σ _ w hp fun σ2 a2 w2 ha2 hf2 => hQ σ2 a2 w2 ha2 hf2⟩
/-- How a piece of code is left. -/
inductive Ex where
  | normal
  | exit (id : Nat)
  | ret
def Ex.of : Ex → Exit
  | .normal => .normal
  | .exit i => .exit i
  | .ret => .ret
def evLoop (body : Fs → Option (Ex × Fs)) : Nat → Fs → Option (Ex × Fs)
  | 0, _ => none
  | n + 1, f =>
    match body f with
    | some (.normal, f') => evLoop body n f'
    | r => r
abbrev Drawer := Nat → Array Oper → Fs → Option Fs
/-- A loop's record is laid: its name, the memory, the marks. -/
def evEnter (s : Hs) (ro : Option Nat) (nt : Nat) (t : Tr Value) (ps : Array Tmp) (as bo : Code) (ds : List Nat) : Option (Nat × Hs × List Nat) :=
  match ro with
  | none =>
    bif Nat.blt (s.n + 1) (2 ^ HD) then
      some (s.n + 1, ⟨s.n + 2, tset HD (tset HD s.h s.n (.raw (.deferred (some [])))) (s.n + 1) (.loop .ready none nt t ps as bo s.n), s.wr⟩, s.n :: ds)
    else none
  | some l₀ =>
    match s.get l₀ with
    | some (.loop _ _ _ _ _ _ _ d) =>
      bif Nat.blt s.n (2 ^ HD) then some (s.n, ⟨s.n + 1, tset HD s.h s.n (.loop .ready none nt t ps as bo d), s.wr⟩, ds) else none
    | _ => none
def evLeave (s : Hs) (l : Nat) : Option (Option Code × Hs) :=
  match s.get l with
  | some (.loop st pend _ _ _ _ _ _) =>
    match st with
    | .busy => none
    | _ => some (pend, ⟨s.n, tset HD s.h l .dead, s.wr ||| 1 <<< l⟩)
  | _ => none
def evCode (P : Program) (call : Caller) (draw : Drawer) (nt : Nat) (ro : Option Nat) : Code → Fs → Option (Ex × Fs)
  | .skip, f => some (.normal, f)
  | .label _, f => some (.normal, f)
  | .ret, f => some (.ret, f)
  | .exit i, f => some (.exit i, f)
  | .seq x y, f =>
    match evCode P call draw nt ro x f with
    | some (.normal, f') => evCode P call draw nt ro y f'
    | r => r
  | .cond c x y, f =>
    bif okArg P c then
      match vget nt f.t c with
      | .bool true => evCode P call draw nt ro x f
      | .bool false => evCode P call draw nt ro y f
      | _ => none
    else none
  | .block i x, f =>
    match evCode P call draw nt ro x f with
    | some (.exit j, f') => bif Nat.beq j i then some (.normal, f') else some (.exit j, f')
    | r => r
  | .loop x, f => evLoop (evCode P call draw nt ro x) 5000 f
  | .region _ ops d, f =>
    match d with
    | true => match draw nt ops f with
      | some f' => some (.normal, f')
      | none => none
    | false => match evOps P call nt ops ops.toList f with
      | some f' => some (.normal, f')
      | none => none
  | .rangeFunc g ps as bo, f =>
    bif okArg P g then
      match vget nt f.t g with
      | .func (.func gf) first cap =>
        match evEnter f.s ro nt f.t ps as bo f.ds with
        | some (l, s1, ds) =>
          match call true gf (first.toList ++ [.func (.yield l) #[] #[]] ++ cap.toList) s1 with
          | some (_, s2) =>
            match evLeave s2 l with
            | some (none, s3) => some (.normal, ⟨f.t, s3, ds⟩)
            | some (some .ret, s3) => some (.ret, ⟨f.t, s3, ds⟩)
            | some (some (.exit i), s3) => some (.exit i, ⟨f.t, s3, ds⟩)
            | _ => none
          | none => none
        | none => none
      | _ => none
    else none
  | _, _ => none
def DrawSpec (P : Program) (draw : Drawer) : Prop := ∀ nt ops f f', draw nt ops f = some f' → ∀ (R : Option Nat) (id : Nat) (Q : Exit → Act → World → Prop) (σ : Sub) (a : Act) (w : World), FRel P σ nt f a w →
  (∀ σ' a' w', Aft P σ f.s w σ' f'.s w' → FRel P σ' nt f' a' w' → Q .normal a' w') → (Code.region id ops true).wpIn (FW R) 0 P Q a w
/-- The record is laid in truth, too. -/
theorem evEnter_ok {P : Program} {σ : Sub} {nt : Nat} {f : Fs} {a : Act} {w : World} (hf : FRel P σ nt f a w) {ro R : Option Nat} (hR : R = ro.map σ.b) {ps : Array Tmp} {as bo : Code} {l : Nat} {s1 : Hs} {ds : List Nat}
    (h : evEnter f.s ro nt f.t ps as bo f.ds = some (l, s1, ds)) (fn : FuncId) :
    ∃ σ1 w1 mark, Aft P σ f.s w σ1 s1 w1 ∧ (Instr.enterLoop fn a.tmps ps as bo R).run P w = .ok (σ1.b l, mark) w1 ∧ l < s1.n ∧ mark ++ a.defers = marks σ1 ds ∧ ∀ d ∈ ds, d < s1.n := by
  have hloop : ∀ (τ : Sub) (W : World) (b d : Nat), τ.b d = b → Sub.same f.s.n τ σ → ∀ k, k < nt → ({ state := .ready, pending := none, fn := fn, tmps := a.tmps, params := ps, assign := as, body := bo, defers := b } : Loop).tmps[k]? = some (ren τ ((tget TD f.t k).getD undef)) :=
    fun τ W b d hd hs k hk => by rw [hf.tr.at_ k hk, ren_congr hs _ (hf.to.bd k hk)]
  cases ro with
  | none =>
    simp only [evEnter] at h
    cases hc : Nat.blt (f.s.n + 1) (2 ^ HD) with
    | false => rw [hc] at h; cases h
    | true =>
      rw [hc] at h
      simp only [cond_true, Option.some.injEq, Prod.mk.injEq] at h
      obtain ⟨rfl, rfl, rfl⟩ := h
      rw [Nat.blt_eq] at hc
      obtain ⟨σ1, b1, a1⟩ := Aft.newOb hf.rel hf.ok (.raw (.deferred (some []))) (.deferred (some [])) rfl (by omega) (fun τ _ hb => ⟨rfl, by rw [hb]; simp⟩)
      obtain ⟨σ2, b2, a2⟩ := Aft.newOb (ob₀ := .loop .ready none nt f.t ps as bo f.s.n) a1.rel a1.ok (.loop { state := .ready, pending := none, fn := fn, tmps := a.tmps, params := ps, assign := as, body := bo, defers := w.heap.size })
        (by simp only [Ob.bd, Bool.and_eq_true, Nat.blt_eq]; exact ⟨by omega, bdT_iff.2 fun k hk => Go.Proofs.Ytdfabagclnjoaaa.bd_mono (by omega) _ (hf.to.bd k hk)⟩) (by omega)
        (fun τ hs hb => by
          have hb' : τ.b (f.s.n + 1) = (w.heap.push (.deferred (some []))).size := hb
          have hd : τ.b f.s.n = w.heap.size := by rw [(hs f.s.n (Nat.lt_succ_self _)).1]; exact b1
          refine ⟨{ state := .ready, pending := none, fn := fn, tmps := a.tmps, params := ps, assign := as, body := bo, defers := w.heap.size }, ?_, ⟨rfl, rfl, rfl, rfl, rfl, hd.symm⟩, hf.tr.size, fun k hk => ?_⟩
          · show ((w.heap.push (.deferred (some []))).push _)[τ.b (f.s.n + 1)]? = _
            rw [hb']; exact Array.getElem?_push_size
          · exact hloop τ w _ f.s.n hd (fun i hi => ⟨(hs i (Nat.lt_succ_of_lt hi)).1.trans (a1.same i hi).1, (hs i (Nat.lt_succ_of_lt hi)).2.trans (a1.same i hi).2⟩) k hk)
      have hd2 : σ2.b f.s.n = w.heap.size := by rw [(a2.same f.s.n (Nat.lt_succ_self _)).1]; exact b1
      have hl2 : σ2.b (f.s.n + 1) = w.heap.size + 1 := by
        have : σ2.b (f.s.n + 1) = (w.heap.push (.deferred (some []))).size := b2
        rw [this]; simp
      have hall := a1.trans a2
      refine ⟨σ2, _, [{ target := .collected w.heap.size, args := #[] }], hall, ?_, by simp, ?_, fun d hd => ?_⟩
      · subst hR
        rw [hl2]
        exact run_enterLoop_outer fn a.tmps ps as bo
      · rw [hf.ds, marks_same (σ := σ) (τ := σ2) (fun i hi => ⟨(hall.same i hi).1.symm, (hall.same i hi).2.symm⟩) hf.dlt]
        simp [marks, hd2]
      · rcases List.mem_cons.1 hd with rfl | hd
        · simp
        · have := hf.dlt d hd; simp; omega
  | some l₀ =>
    simp only [evEnter] at h
    split at h
    · rename_i st pend nt' t' ps' as' bo' d hg
      cases hc : Nat.blt f.s.n (2 ^ HD) with
      | false => rw [hc] at h; cases h
      | true =>
        rw [hc] at h
        simp only [cond_true, Option.some.injEq, Prod.mk.injEq] at h
        obtain ⟨rfl, rfl, rfl⟩ := h
        rw [Nat.blt_eq] at hc
        obtain ⟨r, h1, ⟨_, _, _, _, _, h6⟩, _, _⟩ := hf.rel.at_ _ _ hg
        have hbd := (hf.ok.bd _ _ hg).2
        simp only [Ob.bd, Bool.and_eq_true, Nat.blt_eq] at hbd
        obtain ⟨σ2, b2, a2⟩ := Aft.newOb (ob₀ := .loop .ready none nt f.t ps as bo d) hf.rel hf.ok (.loop { state := .ready, pending := none, fn := fn, tmps := a.tmps, params := ps, assign := as, body := bo, defers := r.defers })
          (by simp only [Ob.bd, Bool.and_eq_true, Nat.blt_eq]; exact ⟨by omega, bdT_iff.2 fun k hk => Go.Proofs.Ytdfabagclnjoaaa.bd_mono (by omega) _ (hf.to.bd k hk)⟩) hc
          (fun τ hs hb => by
            have hd : τ.b d = r.defers := by rw [(hs d hbd.1).1, h6]
            refine ⟨{ state := .ready, pending := none, fn := fn, tmps := a.tmps, params := ps, assign := as, body := bo, defers := r.defers }, ?_, ⟨rfl, rfl, rfl, rfl, rfl, hd.symm⟩, hf.tr.size, fun k hk => ?_⟩
            · show (w.heap.push _)[τ.b f.s.n]? = _
              rw [hb]; exact Array.getElem?_push_size
            · exact hloop τ w _ d hd hs k hk)
        refine ⟨σ2, _, [], a2, ?_, by simp, ?_, fun d hd => ?_⟩
        · subst hR
          rw [b2]
          exact run_enterLoop_inner h1 fn a.tmps ps as bo
        · rw [List.nil_append, hf.ds]
          exact marks_same (fun i hi => ⟨(a2.same i hi).1.symm, (a2.same i hi).2.symm⟩) hf.dlt
        · have := hf.dlt d hd; simp; omega
    · cases h
theorem putOb_eq (w : World) (b : Nat) (o : Obj) : w.putObj b o = { w with heap := w.heap.setIfInBounds b o } := rfl
theorem evLeave_ok {P : Program} {σ : Sub} {s s' : Hs} {w : World} {l : Nat} {c : Option Code} (h : evLeave s l = some (c, s')) (hr : Rel P σ s w) (ok : s.Ok) : ∃ w', Aft P σ s w σ s' w' ∧ (Instr.endLoop (σ.b l)).run P w = .ok c w' := by
  unfold evLeave at h
  split at h
  · rename_i st pend nt t ps as bo d hg
    obtain ⟨r, h1, ⟨h2, h3, _⟩, _⟩ := hr.at_ _ _ hg
    have key : st ≠ .busy → some (pend, (⟨s.n, tset HD s.h l .dead, s.wr ||| 1 <<< l⟩ : Hs)) = some (c, s') → ∃ w', Aft P σ s w σ s' w' ∧ (Instr.endLoop (σ.b l)).run P w = .ok c w' := fun hb hx => by
      simp only [Option.some.injEq, Prod.mk.injEq] at hx
      obtain ⟨rfl, rfl⟩ := hx
      have hrun := run_endLoop (P := P) h1 (by rw [h2]; exact hb)
      rw [h3] at hrun
      exact ⟨_, Aft.putOb hr ok hg rfl (ob₁ := .dead) rfl trivial, hrun⟩
    split at h
    · cases h
    · rename_i hne
      exact key (fun he => hne he) h
  · cases h
end Go.Proofs.Ytdfabagclnjoaaa
