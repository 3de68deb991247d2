import Derived.Test.YtdfabagclnjoaaaEvGa
namespace Go.Proofs.Ytdfabagclnjoaaa
set_option linter.unusedSimpArgs false
set_option linter.unusedVariables false
open Go
def evLen (P : Program) (t : TypeId) : Value → Option Value
  | .slice _ n _ => match P.underlying t with
    | some (.slice _) => some (.int .i64 n)
    | _ => none
  | _ => none
theorem len_does {P : Program} {σ : Sub} {s : Hs} {w : World} {t ty : TypeId} {x v : Value} (h : evLen P t x = some v) (hr : Rel P σ s w) (ok : s.Ok) :
    Does P σ s w (do pure (.value (← Builtin.len_ #[t] ty #[ren σ x]))) v s := by
  refine Does.plain hr ok ?_
  unfold evLen at h
  split at h
  · rename_i b n cap
    split at h
    · rename_i e hu
      simp only [Option.some.injEq] at h
      subst h
      cases b <;> simp [Builtin.len_, run_underlying hu, ren, goInt]
    · cases h
  · cases h
/-- Against nothing: an equality of which one side is nil. -/
def isSome' : Value → Option Bool
  | .slice (some _) _ _ => some true
  | .slice none _ _ => some false
  | .map (some _) => some true
  | .map none => some false
  | .pointer (some _) => some true
  | .pointer none => some false
  | .func _ _ _ => some true
  | .nilFunc => some false
  | _ => none
def evNil (P : Program) (t : TypeId) (x y : Value) : Option Bool :=
  match P.underlying t, x, y with
  | some (.slice _), .slice a _ _, .slice none _ _ => some a.isNone
  | some (.map _ _), .map a, .map none => some a.isNone
  | some (.pointer _), .pointer a, .pointer none => some a.isNone
  | some (.func _ _ _), .func _ _ _, .nilFunc => some false
  | _, _, _ => none
def evNilOp (P : Program) (op : BinOp) (t : TypeId) (x y : Value) : Option Value :=
  match op with
  | .eql => (evNil P t x y).map .bool
  | .neq => (evNil P t x y).map fun b => .bool !b
  | _ => none
theorem nil_run {P : Program} {σ : Sub} {w : World} {t : TypeId} {x y : Value} {b : Bool} (h : evNil P t x y = some b) : (Op.equal t (ren σ x) (ren σ y)).run P w = .ok b w := by
  obtain ⟨dd, hd⟩ : ∃ d, Op.maxDepth = d + 1 := ⟨9999, rfl⟩
  unfold Op.equal
  rw [hd]
  unfold evNil at h
  split at h
  · rename_i e a n c m d hu
    simp only [Option.some.injEq] at h; subst h
    cases a <;> simp only [Op.equalIn, run_underlying hu, ren, Sem.run_bind, Result.andThen_ok, Sem.run_pure, Option.isNone]
  · rename_i e f a hu
    simp only [Option.some.injEq] at h; subst h
    cases a <;> simp only [Op.equalIn, run_underlying hu, ren, Sem.run_bind, Result.andThen_ok, Sem.run_pure, Option.isNone]
  · rename_i e a hu
    simp only [Option.some.injEq] at h; subst h
    cases a <;> simp only [Op.equalIn, run_underlying hu, ren, Sem.run_bind, Result.andThen_ok, Sem.run_pure, Option.isNone]
  · rename_i hu
    simp only [Option.some.injEq] at h; subst h
    simp only [Op.equalIn, run_underlying hu, ren, Sem.run_bind, Result.andThen_ok, Sem.run_pure]
  · cases h
theorem nil_does {P : Program} {σ : Sub} {s : Hs} {w : World} {op : BinOp} {t : TypeId} {x y v : Value} {a b : Operand} (h : evNilOp P op t x y = some v) (hr : Rel P σ s w) (ok : s.Ok) :
    Does P σ s w (do pure (.value (← (do eqGuard op t a b (ren σ x) (ren σ y); binOp op t (ren σ x) (ren σ y))))) v s := by
  refine Does.plain hr ok ?_
  have hg : ∀ (o : BinOp) (c : Bool), evNil P t x y = some c → (eqGuard o t a b (ren σ x) (ren σ y)).run P w = .ok () w := by
    intro o c hc
    unfold evNil at hc
    split at hc
    · rename_i e a n c m d hu
      cases a <;> cases o <;> simp [eqGuard, ren]
    · rename_i e f a hu
      cases a <;> cases o <;> simp [eqGuard, ren]
    · rename_i e a hu
      cases a <;> cases o <;> simp [eqGuard, ren]
    · rename_i hu
      cases o <;> simp [eqGuard, ren]
    · cases hc
  have hshape : ∀ (c : Bool), evNil P t x y = some c → (∀ w', (binOp .eql t (ren σ x) (ren σ y)).run P w' = ((Op.equal t (ren σ x) (ren σ y)).run P w').andThen fun r w'' => .ok (.bool r) w'') ∧ (∀ w', (binOp .neq t (ren σ x) (ren σ y)).run P w' = ((Op.equal t (ren σ x) (ren σ y)).run P w').andThen fun r w'' => .ok (.bool !r) w'') := by
    intro c hc
    unfold evNil at hc
    split at hc
    · rename_i e a n c m d hu
      cases a <;> simp [binOp, ren]
    · rename_i e f a hu
      cases a <;> simp [binOp, ren]
    · rename_i e a hu
      cases a <;> simp [binOp, ren]
    · rename_i hu
      simp [binOp, ren]
    · cases hc
  unfold evNilOp at h
  split at h
  · obtain ⟨c, hc, rfl⟩ := Option.map_eq_some_iff.1 h
    simp [hg _ _ hc, (hshape _ hc).1, nil_run hc, ren]
  · obtain ⟨c, hc, rfl⟩ := Option.map_eq_some_iff.1 h
    simp [hg _ _ hc, (hshape _ hc).2, nil_run hc, ren]
  · cases h
-- the operations
def okArg (P : Program) : Operand → Bool
  | .tmp _ | .func _ => true
  | .const v => bd 0 v
  | .global g => Nat.blt g P.globals.size
def evNew' (P : Program) (s : Hs) (e : TypeId) : Option (Value × Hs) :=
  match P.info? e with
  | some i => match i.zero with
    | some z => bif bdA 0 z.cells then evNew s z.cells.toList e else none
    | none => none
  | none => none
def keep (s : Hs) : Option Value → Option (Value × Hs)
  | some v => some (v, s)
  | none => none
def evPure (P : Program) (ρ : Operand → Value) (s : Hs) (o : Oper) : Option (Value × Hs) :=
  bif o.op.operands.toList.all (fun x => bd 0 (ρ x)) && (match o.op with | .select .. => false | .defer _ => false | _ => true) then
    match pureRun P (execOp ρ o) with
    | some (.value v) => bif bd 0 v then some (v, s) else none
    | some .skip => some (undef, s)
    | _ => none
  else none
def evOr {α : Type} : Option α → Option α → Option α
  | some a, _ => some a
  | none, b => b
def evBuiltin (P : Program) (s : Hs) (b : Builtin) (args : List Value) (ts : List TypeId) : Option (Value × Hs) :=
  match b, args, ts with
  | .append, [x, y], [t, u] => bif Nat.beq t u then evOr (evAppIn P s t x y) (evOr (evAppend P s t x y) (evApp0 P s t x y)) else evAppZ P s t u x y
  | .copy, [x, y], [t, _] => evCopy P s t x y
  | .clear, [x], [t] => match evClear P s t x with
    | some s' => some (.tuple #[], s')
    | none => none
  | .len, [x], [t] => keep s (evOr (evLen P t x) (evMapLen P s t x))
  | .delete, [m, k], t :: _ => match evDelete P s t m k with
    | some s' => some (undef, s')
    | none => none
  | _, _, _ => none
def evMem (P : Program) (ρ : Operand → Value) (s : Hs) (o : Oper) : Option (Value × Hs) :=
  match o.op with
  | .move x | .assign x => some (ρ x, s)
  | .pick c a b => match ρ c with
    | .bool t => some (bif t then ρ a else ρ b, s)
    | _ => none
  | .alloc e => evNew' P s e
  | .box e x => evNew s (ρ x).cells.toList e
  | .load t a => keep s (evLoad P s t (ρ a))
  | .store t a x => match evStore P s t (ρ x) (ρ a) with
    | some s' => some (undef, s')
    | none => none
  | .fieldAddr t x f => keep s (evField P t f (ρ x))
  | .field t x f => keep s (evFieldOf P t f (ρ x))
  | .indexAddr t x i => keep s (evIndex P t (ρ x) (ρ i))
  | .slice t x lo hi mx => evOr (keep s (evSlice P s t (ρ x) (lo.map ρ) (hi.map ρ) (mx.map ρ))) (evPure P ρ s o)
  | .build t ps => keep s (evBuild P t (ps.map fun (i, x) => (i, ρ x)).toList)
  | .buildSlice t n ps => evBuildSlice P s t n (ps.map fun (i, x) => (i, ρ x)).toList
  | .extract x k => keep s (evExtract k (ρ x))
  | .makeInterface t x => match P.underlying t with
    | some (.interface _) | none => none
    | some _ => some (.iface t (ρ x), s)
  | .makeFunc fn first cap => match fn with
    | .yield _ => none
    | fn => some (.func fn (first.map ρ) (cap.map ρ), s)
  | .makeSlice t l c => evMakeSlice P s t (ρ l) (ρ c)
  | .nilCheck x => match ρ x with
    | .pointer (some a) => some (.pointer (some a), s)
    | .func (.func f) a b => some (.func (.func f) a b, s)
    | _ => none
  | .binOp op t x y _ => evOr (evPure P ρ s o) (keep s (evNilOp P op t (ρ x) (ρ y)))
  | .makeMap _ r => match r with
    | none => evMakeMap s
    | some _ => none
  | .lookup t m i ok => evOr (keep s (evLookup P s t (ρ m) (ρ i) ok)) (evPure P ρ s o)
  | .mapUpdate t m k x | .insert t m k x => match evMapUpdate P s t (ρ m) (ρ k) (ρ x) with
    | some s' => some (undef, s')
    | none => none
  | .call c => match c.callee with
    | .builtin b => evOr (evPure P ρ s o) (evBuiltin P s b (c.args.toList.map ρ) c.argTypes.toList)
    | _ => none
  | _ => evPure P ρ s o
theorem pure_does {P : Program} {σ : Sub} {s s' : Hs} {w : World} {ρ : Operand → Value} {o : Oper} {v : Value} (h : evPure P ρ s o = some (v, s')) (hr : Rel P σ s w) (ok : s.Ok) :
    Does P σ s w (execOp (fun x => ren σ (ρ x)) o) v s' := by
  unfold evPure at h
  cases hc : (o.op.operands.toList.all (fun x => bd 0 (ρ x)) && (match o.op with | .select .. => false | .defer _ => false | _ => true)) with
  | false => rw [hc] at h; cases h
  | true =>
    rw [hc] at h
    simp only [cond_true] at h
    rw [Bool.and_eq_true] at hc
    obtain ⟨c1, c2⟩ := hc
    have he : execOp (fun x => ren σ (ρ x)) o = execOp ρ o := execOp_congr o (fun cs b hb => by rw [hb] at c2; cases c2) (fun x hx => ren_free σ _ (List.all_eq_true.1 c1 x (by simpa using hx)))
    rw [he]
    split at h
    · rename_i u hp
      cases hb : bd 0 u with
      | false => rw [hb] at h; cases h
      | true =>
        rw [hb] at h
        simp only [cond_true, Option.some.injEq, Prod.mk.injEq] at h
        obtain ⟨rfl, rfl⟩ := h
        exact ⟨σ, w, _, Aft.refl hr ok, pureRun_run hp w, (ren_free σ _ hb).symm⟩
    · rename_i hp
      simp only [Option.some.injEq, Prod.mk.injEq] at h
      obtain ⟨rfl, rfl⟩ := h
      exact ⟨σ, w, _, Aft.refl hr ok, pureRun_run hp w, ren_undef σ⟩
    · cases h
theorem keep_some {s s' : Hs} {x : Option Value} {v : Value} (h : keep s x = some (v, s')) : x = some v ∧ s' = s := by
  cases x with
  | none => cases h
  | some u => simp only [keep, Option.some.injEq, Prod.mk.injEq] at h; exact ⟨by rw [h.1], h.2.symm⟩
theorem evOr_some {α : Type} {x y : Option α} {a : α} (h : evOr x y = some a) : x = some a ∨ y = some a := by
  cases x with
  | none => exact .inr h
  | some b => exact .inl h
end Go.Proofs.Ytdfabagclnjoaaa
