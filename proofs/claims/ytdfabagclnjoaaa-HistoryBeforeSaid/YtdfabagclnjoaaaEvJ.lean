import Derived.Test.YtdfabagclnjoaaaEvI
import Derived.Test.YtdfabagclnjoaaaEvGb
namespace Go.Proofs.Ytdfabagclnjoaaa
set_option linter.unusedSimpArgs false
set_option linter.unusedVariables false
open Go
structure Fs where
  t : Tr Value
  s : Hs
  ds : List Nat
def vget (nt : Nat) (t : Tr Value) : Operand → Value
  | .tmp k => bif Nat.blt k nt then (tget TD t k).getD undef else undef
  | .const v => v
  | .global g => .pointer (some ⟨g, 0, none⟩)
  | .func f => .func (.func f) #[] #[]
def vput (nt : Nat) (t : Tr Value) (dst : Option Tmp) (v : Value) : Tr Value :=
  match dst with
  | some d => bif Nat.blt d nt then tset TD t d v else t
  | none => t
structure TOk (nt : Nat) (t : Tr Value) (n : Nat) : Prop where
  top : nt ≤ 2 ^ TD
  bd : ∀ k, k < nt → bd n ((tget TD t k).getD undef) = true
structure TRel (σ : Sub) (nt : Nat) (t : Tr Value) (a : Act) : Prop where
  size : a.tmps.size = nt
  at_ : ∀ k, k < nt → a.tmps[k]? = some (ren σ ((tget TD t k).getD undef))
theorem blt_false {a b : Nat} (h : ¬ a < b) : Nat.blt a b = false := by
  cases hb : Nat.blt a b with
  | false => rfl
  | true => exact absurd (by simpa [Nat.blt_eq] using hb) h
theorem blt_true {a b : Nat} (h : a < b) : Nat.blt a b = true := by simpa [Nat.blt_eq] using h
theorem eval_at {P : Program} {σ : Sub} (hgl : ∀ i, i < P.globals.size → σ.b i = i) {nt : Nat} {t : Tr Value} {a : Act} (hs : a.tmps.size = nt) {x : Operand} (hx : okArg P x = true) (h : ∀ k, x = .tmp k → k < nt → a.tmps[k]? = some (ren σ ((tget TD t k).getD undef))) : a.eval x = ren σ (vget nt t x) := by
  cases x with
  | tmp k =>
    by_cases hk : k < nt
    · have h1 := h k rfl hk
      simp only [Act.eval, vget, blt_true hk, cond_true]
      have hg : a.tmps.getD k undef = (a.tmps[k]?).getD undef := by simp
      rw [hg, h1]; rfl
    · have h1 : a.tmps[k]? = none := Array.getElem?_eq_none (hs ▸ Nat.le_of_not_lt hk)
      simp only [Act.eval, vget, blt_false hk, cond_false, ren_undef]
      have hg : a.tmps.getD k undef = (a.tmps[k]?).getD undef := by simp
      rw [hg, h1]; rfl
  | const v => simp only [Act.eval, vget]; exact (ren_free σ v hx).symm
  | global g =>
    simp only [okArg, Nat.blt_eq] at hx
    simp [Act.eval, vget, ren, hgl g hx]
  | func f => simp [Act.eval, vget, ren, renFn, renA, renL]
theorem TRel.eval {P : Program} {σ : Sub} (hgl : ∀ i, i < P.globals.size → σ.b i = i) {nt : Nat} {t : Tr Value} {a : Act} (h : TRel σ nt t a) {x : Operand} (hx : okArg P x = true) : a.eval x = ren σ (vget nt t x) :=
  eval_at hgl h.size hx fun k _ hk => h.at_ k hk
theorem TOk.arg {P : Program} {nt : Nat} {t : Tr Value} {n : Nat} (hge : P.globals.size ≤ n) (h : TOk nt t n) {x : Operand} (hx : okArg P x = true) : Go.Proofs.Ytdfabagclnjoaaa.bd n (vget nt t x) = true := by
  cases x with
  | tmp k =>
    by_cases hk : k < nt
    · simp only [vget, blt_true hk, cond_true]; exact h.bd k hk
    · simp only [vget, blt_false hk, cond_false]; exact bd_undef n
  | const v => exact bd_mono (Nat.zero_le _) v hx
  | global g =>
    simp only [okArg, Nat.blt_eq] at hx
    simp only [vget, Go.Proofs.Ytdfabagclnjoaaa.bd, Nat.blt_eq]
    exact Nat.lt_of_lt_of_le hx hge
  | func f => simp [vget, Go.Proofs.Ytdfabagclnjoaaa.bd, bdFn, bdA, bdL]
theorem tget_vput {nt : Nat} {t : Tr Value} {d k : Nat} {v : Value} (hd : d < nt) (hk : k < nt) (htop : nt ≤ 2 ^ TD) : tget TD (tset TD t d v) k = if k = d then some v else tget TD t k :=
  tget_tset TD t d k v (by omega) (by omega)
theorem TRel.put {σ : Sub} {nt : Nat} {t : Tr Value} {a : Act} (h : TRel σ nt t a) (htop : nt ≤ 2 ^ TD) (dst : Option Tmp) (v : Value) : TRel σ nt (vput nt t dst v) (a.put dst (ren σ v)) := by
  cases dst with
  | none => exact h
  | some d =>
    refine ⟨by simp [Act.put, h.size], fun k hk => ?_⟩
    by_cases hd : d < nt
    · simp only [vput, blt_true hd, cond_true, tget_vput hd hk htop, Act.put]
      by_cases he : k = d
      · subst he
        have : k < a.tmps.size := by rw [h.size]; exact hk
        simp [this]
      · rw [if_neg he, Array.getElem?_setIfInBounds_ne (Ne.symm he)]
        exact h.at_ k hk
    · simp only [vput, blt_false hd, cond_false, Act.put]
      have hne : d ≠ k := fun he => hd (by rw [he]; exact hk)
      rw [Array.getElem?_setIfInBounds_ne hne]
      exact h.at_ k hk
theorem TOk.put {nt : Nat} {t : Tr Value} {n m : Nat} (h : TOk nt t n) (hm : n ≤ m) (dst : Option Tmp) {v : Value} (hv : Go.Proofs.Ytdfabagclnjoaaa.bd m v = true) : TOk nt (vput nt t dst v) m := by
  refine ⟨h.top, fun k hk => ?_⟩
  cases dst with
  | none => exact bd_mono hm _ (h.bd k hk)
  | some d =>
    by_cases hd : d < nt
    · simp only [vput, blt_true hd, cond_true, tget_vput hd hk h.top]
      by_cases he : k = d
      · rw [if_pos he]; exact hv
      · rw [if_neg he]; exact bd_mono hm _ (h.bd k hk)
    · simp only [vput, blt_false hd, cond_false]; exact bd_mono hm _ (h.bd k hk)
theorem TRel.reads {σ τ : Sub} {nt : Nat} {t : Tr Value} {a : Act} {n : Nat} (h : TRel σ nt t a) (hb : TOk nt t n) (hs : Sub.same n τ σ) : TRel τ nt t a :=
  ⟨h.size, fun k hk => by rw [h.at_ k hk, ren_congr hs _ (hb.bd k hk)]⟩
-- calls
/-- Of a function (true), or of a loop's yield. -/
abbrev Caller := Bool → Nat → List Value → Hs → Option (Value × Hs)
structure CallSpec (P : Program) (call : Caller) : Prop where
  fn : ∀ k args s v s', call true k args s = some (v, s') → (∃ fn, P.funcs[k]? = some fn ∧ fn.body.isSome = true) ∧
    ∀ σ w, Rel P σ s w → s.Ok → bdL s.n args = true → Calls P k (args.map (ren σ)).toArray w fun e w' => ∃ σ', Aft P σ s w σ' s' w' ∧ e = .returned (ren σ' v)
  yield : ∀ l args s v s', call false l args s = some (v, s') → ∀ σ w, Rel P σ s w → s.Ok → bdL s.n args = true → ∃ (fn : FuncId) (tmps : Array Value) (as bo : Code),
    (Instr.yield (σ.b l) (args.map (ren σ)).toArray).run P w = .ok (.round (σ.b l) fn tmps as bo) w ∧ RoundIn (FW none) 0 P (σ.b l) fn tmps as bo w fun e w' => ∃ σ', Aft P σ s w σ' s' w' ∧ e = .returned (ren σ' v)
def NoNum (P : Program) : Prop := P.funcs.all (fun fn => fn.name != "runtime.NumGoroutine") = true
theorem callFunc_run {P : Program} (hN : NoNum P) {k : FuncId} {fn : Func} (hf : P.funcs[k]? = some fn) (hb : fn.body.isSome = true) (args : Array Value) (w : World) : (callFunc k args).run P w = .ok (.enter k args) w := by
  have h1 : (fn.name == "runtime.NumGoroutine") = false := by
    have hm : fn ∈ P.funcs := Array.mem_of_getElem? hf
    have := Array.all_eq_true'.1 hN fn hm
    simpa using this
  have h2 : fn.body.isNone = false := by cases hbb : fn.body with
    | none => rw [hbb] at hb; cases hb
    | some c => rfl
  unfold callFunc
  simp only [Sem.run_bind, run_program, Result.andThen_ok, hf, h1, h2, Bool.false_eq_true, if_false, Sem.run_pure]
def evRaw (P : Program) (call : Caller) (ρ : Operand → Value) (o : Oper) (s : Hs) : Option (Value × Hs) :=
  match o.op with
  | .call c =>
    match c.callee with
    | .value g =>
      match ρ g with
      | .func (.func k) first cap => call true k (first.toList ++ c.args.toList.map ρ ++ cap.toList) s
      | .func (.yield l) first _ => call false l (first.toList ++ c.args.toList.map ρ) s
      | _ => none
    | .invoke _ _ => none
    | .builtin _ => evMem P ρ s o
  | _ => evMem P ρ s o
def evOp (P : Program) (call : Caller) (nt : Nat) (o : Oper) (t : Tr Value) (s : Hs) : Option (Value × Hs) :=
  bif o.op.operands.toList.all (okArg P) then
    match evRaw P call (vget nt t) o s with
    | some (v, s') => bif bd s'.n v then some (v, s') else none
    | none => none
  else none
theorem noSel {P : Program} {ρ : Operand → Value} {s : Hs} {o : Oper} {r : Value × Hs} (h : evMem P ρ s o = some r) (cs : Array SelectCase) (b : Bool) : o.op ≠ .select cs b := by
  intro ho
  simp [evMem, ho, evPure] at h
theorem noDefer {P : Program} {ρ : Operand → Value} {s : Hs} {o : Oper} {r : Value × Hs} (h : evMem P ρ s o = some r) (c : Call) : o.op ≠ .defer c := by
  intro ho
  simp [evMem, ho, evPure] at h
theorem semAt_exec {R : Option Nat} {ρ : Operand → Value} {o : Oper} (h : ∀ c, o.op ≠ .defer c) : Oper.semAt R ρ o = execOp ρ o := by
  cases R with
  | none => exact Oper.semAt_none ρ o
  | some l => exact Oper.semAt_some l ρ o h
theorem op_wp {P : Program} (hN : NoNum P) {call : Caller} (hcall : CallSpec P call) {nt : Nat} {o : Oper} {t : Tr Value} {s s' : Hs} {v : Value} (h : evOp P call nt o t s = some (v, s'))
    {σ : Sub} {a : Act} {w : World} (hr : Rel P σ s w) (ok : s.Ok) (hargs0 : ∀ x ∈ o.op.operands, okArg P x = true → a.eval x = ren σ (vget nt t x)) (to : TOk nt t s.n) {R : Option Nat} {K : Act → World → Prop} {Q : Exit → Act → World → Prop}
    (hK : ∀ σ' w', Aft P σ s w σ' s' w' → bd s'.n v = true → K (a.put o.dst (ren σ' v)) w') : o.wpIn (FW R) 0 P a w K Q := by
  unfold evOp at h
  cases hc : o.op.operands.toList.all (okArg P) with
  | false => rw [hc] at h; cases h
  | true =>
    rw [hc] at h
    simp only [cond_true] at h
    have hargs : ∀ x ∈ o.op.operands, a.eval x = ren σ (vget nt t x) := fun x hx => hargs0 x hx (List.all_eq_true.1 hc x (by simpa using hx))
    split at h
    · rename_i v2 s2 hraw
      cases hb : bd s2.n v2 with
      | false => rw [hb] at h; cases h
      | true =>
        rw [hb] at h
        simp only [cond_true, Option.some.injEq, Prod.mk.injEq] at h
        obtain ⟨rfl, rfl⟩ := h
        have hmem : evMem P (vget nt t) s o = some (v2, s2) → o.wpIn (FW R) 0 P a w K Q := fun hm => by
          have he : execOp a.eval o = execOp (fun x => ren σ (vget nt t x)) o := execOp_congr o (noSel hm) hargs
          obtain ⟨σ', w', nx, ha, hrun, hfit⟩ := mem_does (σ := σ) (w := w) hm hr ok
          refine ⟨fun _ _ => trivial, ?_⟩
          rw [show (FW R).round = R from rfl, semAt_exec (noDefer hm), he, hrun]
          cases nx with
          | value u => simp only [Fits] at hfit; subst hfit; exact hK σ' w' ha hb
          | skip => simp only [Fits] at hfit; have := hK σ' w' ha hb; rw [hfit] at this; exact this
          | _ => exact hfit.elim
        unfold evRaw at hraw
        split at hraw
        · rename_i c ho
          have hnd : ∀ c', o.op ≠ .defer c' := fun c' hx => by rw [ho] at hx; cases hx
          split at hraw
          · rename_i g hg
            have hgm : g ∈ o.op.operands := by simp [ho, Op.operands, Call.operands, hg]
            have hge := hargs g hgm
            have hae : ∀ x ∈ c.args, a.eval x = ren σ (vget nt t x) := fun x hx => hargs x (by simp [ho, Op.operands, Call.operands, hx])
            have hbg := to.arg hr.ge (List.all_eq_true.1 hc g (by simpa using hgm))
            have hba : ∀ x ∈ c.args.toList, bd s.n (vget nt t x) = true := fun x hx => to.arg hr.ge (List.all_eq_true.1 hc x (by simp only [ho, Op.operands, Call.operands]; simp; right; simpa using hx))
            have hmap : c.args.map a.eval = (c.args.map (vget nt t)).map (ren σ) := by
              rw [Array.map_map]; exact Array.map_congr_left fun x hx => hae x hx
            split at hraw
            · rename_i k first cap hf
              obtain ⟨⟨fn, hfn, hbody⟩, hspec⟩ := hcall.fn _ _ _ _ _ hraw
              rw [hf] at hge hbg
              simp only [bd, Bool.and_eq_true] at hbg
              have hbd : bdL s.n (first.toList ++ c.args.toList.map (vget nt t) ++ cap.toList) = true := by
                rw [bdL_iff]
                intro u hu
                simp only [List.mem_append, List.mem_map] at hu
                rcases hu with (hu | ⟨x, hx, rfl⟩) | hu
                · exact (bdA_iff _ _).1 hbg.1.2 u (by simpa using hu)
                · exact hba x hx
                · exact (bdA_iff _ _).1 hbg.2 u (by simpa using hu)
              have hC := hspec σ w hr ok hbd
              have hrun : (execOp a.eval o).run P w = .ok (.enter k ((first.toList ++ c.args.toList.map (vget nt t) ++ cap.toList).map (ren σ)).toArray) w := by
                simp only [execOp, ho, resolve, hg, hge, ren, renFn, Deferred.ofValue, Sem.run_bind, Sem.run_pure, Result.andThen_ok, invoke, hmap, renA_map]
                rw [callFunc_run hN hfn hbody]
                congr 2
                cases first; cases cap; cases hca : c.args
                simp
              refine ⟨fun _ _ => trivial, ?_⟩
              rw [show (FW R).round = R from rfl, semAt_exec hnd, hrun]
              refine ⟨(fun h => by cases h), callsIn_FW (Calls.mono hC fun e w' he => ?_)⟩
              obtain ⟨σ', ha, rfl⟩ := he
              exact hK σ' w' ha hb
            · rename_i l first cap hf
              rw [hf] at hge hbg
              simp only [bd, Bool.and_eq_true] at hbg
              have hbd : bdL s.n (first.toList ++ c.args.toList.map (vget nt t)) = true := by
                rw [bdL_iff]
                intro u hu
                simp only [List.mem_append, List.mem_map] at hu
                rcases hu with hu | ⟨x, hx, rfl⟩
                · exact (bdA_iff _ _).1 hbg.1.2 u (by simpa using hu)
                · exact hba x hx
              obtain ⟨fn, tmps, as, bo, hy, hrd⟩ := hcall.yield _ _ _ _ _ hraw σ w hr ok hbd
              have hrun : (execOp a.eval o).run P w = .ok (.round (σ.b l) fn tmps as bo) w := by
                simp only [execOp, ho, resolve, hg, hge, ren, renFn, Deferred.ofValue, Sem.run_bind, Sem.run_pure, Result.andThen_ok, invoke, hmap, renA_map]
                have he : first.map (ren σ) ++ (c.args.map (vget nt t)).map (ren σ) = ((first.toList ++ c.args.toList.map (vget nt t)).map (ren σ)).toArray := by
                  cases first; cases hca : c.args
                  simp
                rw [he]; exact hy
              refine ⟨fun _ _ => trivial, ?_⟩
              rw [show (FW R).round = R from rfl, semAt_exec hnd, hrun]
              refine ⟨(fun h => by cases h), roundIn_FW (RoundIn.mono hrd fun e w' he => ?_)⟩
              obtain ⟨σ', ha, rfl⟩ := he
              exact hK σ' w' ha hb
            · cases hraw
          · cases hraw
          · exact hmem hraw
        · exact hmem hraw
    · cases h
end Go.Proofs.Ytdfabagclnjoaaa
