import Derived.Test.YtdfabagclnjoaaaEvKa
namespace Go.Proofs.Ytdfabagclnjoaaa
set_option linter.unusedSimpArgs false
set_option linter.unusedVariables false
open Go
def setArgs : Nat → List Value → Tr Value → Tr Value
  | _, [], t => t
  | k, v :: vs, t => setArgs (k + 1) vs (tset TD t k v)
theorem tget_setArgs : ∀ (vs : List Value) (k : Nat) (t : Tr Value) (j : Nat), k + vs.length ≤ 2 ^ TD → j < 2 ^ TD → tget TD (setArgs k vs t) j = if k ≤ j ∧ j < k + vs.length then vs[j - k]? else tget TD t j
  | [], k, t, j, hk, hj => by
    have : ¬ (k ≤ j ∧ j < k + ([] : List Value).length) := by simp
    rw [if_neg this]; rfl
  | v :: vs, k, t, j, hk, hj => by
    simp only [List.length_cons] at hk
    simp only [setArgs]
    rw [tget_setArgs vs (k + 1) _ j (by omega) hj, tget_tset TD t k j v (by omega) hj]
    by_cases h1 : j = k
    · subst h1
      have a1 : ¬ (j + 1 ≤ j ∧ j < j + 1 + vs.length) := by omega
      have a2 : j ≤ j ∧ j < j + (v :: vs).length := by simp
      rw [if_neg a1, if_pos a2, if_pos rfl]
      simp
    · by_cases h2 : k + 1 ≤ j ∧ j < k + 1 + vs.length
      · have a2 : k ≤ j ∧ j < k + (v :: vs).length := by simp; omega
        rw [if_pos h2, if_pos a2]
        have : j - k = (j - (k + 1)) + 1 := by omega
        rw [this]; simp
      · have a2 : ¬ (k ≤ j ∧ j < k + (v :: vs).length) := by simp; omega
        rw [if_neg h2, if_neg a2, if_neg h1]
def evRes (P : Program) (nt : Nat) (t : Tr Value) (s : Hs) : List ResultVar → Option (List Value)
  | [] => some []
  | .tmp k :: rs => match evRes P nt t s rs with
    | some vs => some (vget nt t (.tmp k) :: vs)
    | none => none
  | .cell k ty :: rs => match evLoad P s ty (vget nt t (.tmp k)), evRes P nt t s rs with
    | some v, some vs => some (v :: vs)
    | _, _ => none
theorem load_run {P : Program} {σ : Sub} {s : Hs} {w : World} {t : TypeId} {a v : Value} (h : evLoad P s t a = some v) (hr : Rel P σ s w) (ok : s.Ok) : ∃ b, ren σ a = .pointer (some b) ∧ (loadVar t b).run P w = .ok (ren σ v) w := by
  have hp : ∃ i off, a = .pointer (some ⟨i, off, none⟩) := by
    unfold evLoad at h
    split at h
    · exact ⟨_, _, rfl⟩
    · cases h
  obtain ⟨i, off, rfl⟩ := hp
  have := loadAt_run h hr ok
  exact ⟨_, by simp only [ren, renOff_none], this⟩
theorem asAddr_ptr (a : Addr) : asAddr (.pointer (some a)) = pure a := rfl
def resVal (tmps : Array Value) : ResultVar → Sem Value
  | .tmp t => pure (tmps.getD t undef)
  | .cell a t => do loadVar t (← asAddr (tmps.getD a undef))
theorem results_eq (fn : Func) (tmps : Array Value) : results fn tmps = (do let vs ← fn.results.mapM (resVal tmps); pure (if h : vs.size = 1 then vs[0] else .tuple vs)) := by
  have : (fun r => resVal tmps r) = (fun r => match r with
    | ResultVar.tmp t => pure (tmps.getD t undef)
    | ResultVar.cell a t => (do loadVar t (← asAddr (tmps.getD a undef)) : Sem Value)) := by
    funext r; cases r <;> rfl
  rfl
theorem res_run {P : Program} {σ : Sub} {nt : Nat} {f : Fs} {a : Act} {w : World} (hf : FRel P σ nt f a w) : ∀ (rs : List ResultVar) (vs : List Value), evRes P nt f.t f.s rs = some vs →
    (rs.mapM (resVal a.tmps)).run P w = .ok (vs.map (ren σ)) w
  | [], vs, h => by
    simp only [evRes, Option.some.injEq] at h
    subst h
    simp
  | .tmp k :: rs, vs, h => by
    simp only [evRes] at h
    split at h
    · rename_i us hus
      simp only [Option.some.injEq] at h
      subst h
      have he : a.tmps.getD k undef = ren σ (vget nt f.t (.tmp k)) := hf.tr.eval hf.rel.gl (x := .tmp k) rfl
      have ih := res_run hf rs us hus
      simp only [List.mapM_cons, resVal, Sem.run_bind, Sem.run_pure, Result.andThen_ok, he, ih, List.map_cons]
    · cases h
  | .cell k ty :: rs, vs, h => by
    simp only [evRes] at h
    split at h
    · rename_i v us hv hus
      simp only [Option.some.injEq] at h
      subst h
      have he : a.tmps.getD k undef = ren σ (vget nt f.t (.tmp k)) := hf.tr.eval hf.rel.gl (x := .tmp k) rfl
      obtain ⟨b, hb, hl⟩ := load_run hv hf.rel hf.ok
      have ih := res_run hf rs us hus
      simp only [List.mapM_cons, resVal, Sem.run_bind, Sem.run_pure, Result.andThen_ok, he, hb, asAddr_ptr, hl, ih, List.map_cons]
    · cases h
def tupOf : List Value → Value
  | [x] => x
  | xs => .tuple ⟨xs⟩
/-- The marks of a frame's loops, as the frame is left. -/
def evTake : List Nat → Hs → Option Hs
  | [], s => some s
  | d :: ds, s =>
    match s.get d with
    | some (.raw (.deferred (some []))) => evTake ds ⟨s.n, tset HD s.h d (.raw (.deferred none)), s.wr ||| 1 <<< d⟩
    | _ => none
theorem evTake_ok {P : Program} {n : Nat} {R : Option Nat} {fn : Func} {tmps : Array Value} {K : Ending → World → Prop} {σ : Sub} : ∀ (ds : List Nat) (s s' : Hs) (w : World), evTake ds s = some s' → Rel P σ s w → s.Ok →
    (∀ w', Aft P σ s w σ s' w' → ∃ v, (results fn tmps).run P w' = .ok v w' ∧ K (.returned v) w') → LeavesInM (FW R) n P fn tmps K (marks σ ds) .returning w
  | [], s, s', w, h, hr, ok, hK => by
    simp only [evTake, Option.some.injEq] at h
    subst h
    exact hK w (Aft.refl hr ok)
  | d :: ds, s, s', w, h, hr, ok, hK => by
    simp only [evTake] at h
    split at h
    · rename_i hg
      have hat := (hr.at_ _ _ hg).2
      have ha := Aft.putRaw hr ok hg (o' := .deferred none) rfl
      refine ⟨by simp, .inl ⟨σ.b d, _, rfl, run_takeDeferred hat, ?_⟩⟩
      exact evTake_ok ds _ s' _ h ha.rel ha.ok fun w' ha' => hK w' (ha.trans ha')
    · cases h
def jumpOf : Ex → Option Code
  | .normal => none
  | .ret => some .ret
  | .exit i => some (.exit i)
/-- A round of a loop. -/
def evRound (P : Program) (call : Caller) (draw : Drawer) (l : Nat) (args : List Value) (s : Hs) : Option (Value × Hs) :=
  match s.get l with
  | some (.loop _ _ nt t ps as bo _) =>
    bif Nat.beq args.length ps.size && Nat.ble nt (2 ^ TD) then
      match evCode P call draw nt (some l) as ⟨(ps.toList.zip args).foldl (fun t (p : Tmp × Value) => vput nt t (some p.1) p.2) t, s, []⟩ with
      | some (.normal, f1) =>
        match f1.s.get l with
        | some (.loop .ready pe1 nt1 t1 ps1 as1 bo1 d1) =>
          match evCode P call draw nt (some l) bo ⟨f1.t, ⟨f1.s.n, tset HD f1.s.h l (.loop .busy pe1 nt1 t1 ps1 as1 bo1 d1), f1.s.wr ||| 1 <<< l⟩, f1.ds⟩ with
          | some (ex, f3) =>
            match f3.s.get l with
            | some (.loop _ _ nt3 t3 ps3 as3 bo3 d3) =>
              some (.bool (jumpOf ex).isNone, ⟨f3.s.n, tset HD f3.s.h l (.loop (if (jumpOf ex).isNone then .ready else .done) (jumpOf ex) nt3 t3 ps3 as3 bo3 d3), f3.s.wr ||| 1 <<< l⟩)
            | _ => none
          | none => none
        | _ => none
      | _ => none
    else none
  | _ => none
theorem put_loop {P : Program} {σ : Sub} {s : Hs} {w : World} (hr : Rel P σ s w) (ok : s.Ok) {l : Nat} {st : LoopState} {pe : Option Code} {nt : Nat} {t : Tr Value} {ps : Array Tmp} {as bo : Code} {d : Nat} (hg : s.get l = some (.loop st pe nt t ps as bo d)) (st' : LoopState) (pe' : Option Code) {r : Loop}
    (h1 : w.heap[σ.b l]? = some (.loop r)) : Aft P σ s w σ ⟨s.n, tset HD s.h l (.loop st' pe' nt t ps as bo d), s.wr ||| 1 <<< l⟩ (w.putObj (σ.b l) (.loop { r with state := st', pending := pe' })) := by
  obtain ⟨r2, h2, ⟨a1, a2, a3, a4, a5, a6⟩, h3, h4⟩ := hr.at_ _ _ hg
  rw [h1] at h2
  injection h2 with h2; injection h2 with h2
  subst h2
  have hb := (ok.bd _ _ hg).2
  refine Aft.putOb hr ok hg rfl (ob₁ := .loop st' pe' nt t ps as bo d) hb ⟨{ r with state := st', pending := pe' }, ?_, ⟨rfl, rfl, a3, a4, a5, a6⟩, h3, h4⟩
  have hlt : σ.b l < w.heap.size := hr.lt ⟨_, hg, rfl⟩
  simp [hlt]
theorem zip_put {σ : Sub} {nt : Nat} (htop : nt ≤ 2 ^ TD) {n : Nat} : ∀ (l : List (Tmp × Value)) (t : Tr Value) (tmps : Array Value), TRel σ nt t { tmps := tmps, defers := [] } → TOk nt t n → (∀ p ∈ l, bd n p.2 = true) →
    TRel σ nt (l.foldl (fun t (p : Tmp × Value) => vput nt t (some p.1) p.2) t) { tmps := (l.map fun p => (p.1, ren σ p.2)).foldl (fun tmps (p : Tmp × Value) => tmps.setIfInBounds p.1 p.2) tmps, defers := [] } ∧ TOk nt (l.foldl (fun t (p : Tmp × Value) => vput nt t (some p.1) p.2) t) n
  | [], t, tmps, h, ho, _ => ⟨h, ho⟩
  | p :: l, t, tmps, h, ho, hb => by
    simp only [List.foldl_cons, List.map_cons]
    refine zip_put htop l _ _ ?_ (ho.put (Nat.le_refl _) (some p.1) (hb p List.mem_cons_self)) fun q hq => hb q (List.mem_cons_of_mem _ hq)
    have := h.put htop (some p.1) p.2
    exact ⟨this.size, this.at_⟩
theorem evRound_ok {P : Program} (hN : NoNum P) {call : Caller} (hcall : CallSpec P call) {draw : Drawer} (hdraw : DrawSpec P draw) {l : Nat} {args : List Value} {s s' : Hs} {v : Value} (h : evRound P call draw l args s = some (v, s')) {σ : Sub} {w : World}
    (hr : Rel P σ s w) (ok : s.Ok) (hb : bdL s.n args = true) : ∃ (fn : FuncId) (tmps : Array Value) (as bo : Code),
    (Instr.yield (σ.b l) (args.map (ren σ)).toArray).run P w = .ok (.round (σ.b l) fn tmps as bo) w ∧ RoundIn (FW none) 0 P (σ.b l) fn tmps as bo w fun e w' => ∃ σ', Aft P σ s w σ' s' w' ∧ e = .returned (ren σ' v) := by
  unfold evRound at h
  split at h
  · rename_i st pe nt t ps as bo d hg
    cases hc : (Nat.beq args.length ps.size && Nat.ble nt (2 ^ TD)) with
    | false => rw [hc] at h; cases h
    | true =>
      rw [hc] at h
      simp only [cond_true] at h
      simp only [Bool.and_eq_true, Nat.ble_eq] at hc
      obtain ⟨c1, c2⟩ := hc
      have c1' := Nat.eq_of_beq_eq_true c1
      have hl := Hs.get_lt hg
      obtain ⟨r, h1, ⟨a1, a2, a3, a4, a5, a6⟩, h3, h4⟩ := hr.at_ _ _ hg
      have hbd := (ok.bd _ _ hg).2
      simp only [Ob.bd, Bool.and_eq_true, Nat.blt_eq] at hbd
      have hy := run_yield (P := P) (args := (args.map (ren σ)).toArray) h1 (by rw [a3]; simpa using c1')
      refine ⟨r.fn, _, r.assign, r.body, hy, ?_⟩
      rw [a3, a4, a5]
      have hz := zip_put (σ := σ) c2 (n := s.n) (ps.toList.zip args) t r.tmps ⟨h3, h4⟩ ⟨c2, fun k hk => bdT_iff.1 hbd.2 k hk⟩ (fun p hp => (bdL_iff _ _).1 hb p.2 (List.of_mem_zip hp).2)
      have htm : (ps.zip (args.map (ren σ)).toArray).foldl (fun tmps (x : Tmp × Value) => match x with | (t, a) => tmps.setIfInBounds t a) r.tmps = ((ps.toList.zip args).map fun p => (p.1, ren σ p.2)).foldl (fun tmps (p : Tmp × Value) => tmps.setIfInBounds p.1 p.2) r.tmps := by
        rw [← Array.foldl_toList, Array.toList_zip, List.zip_map_right]
        rfl
      rw [htm]
      have hf0 : FRel P σ nt ⟨(ps.toList.zip args).foldl (fun t (p : Tmp × Value) => vput nt t (some p.1) p.2) t, s, []⟩ { tmps := ((ps.toList.zip args).map fun p => (p.1, ren σ p.2)).foldl (fun tmps (p : Tmp × Value) => tmps.setIfInBounds p.1 p.2) r.tmps, defers := [] } w :=
        ⟨hr, ok, hz.1, hz.2, rfl, fun d hd => by cases hd⟩
      split at h
      · rename_i f1 he1
        split at h
        · rename_i pe1 nt1 t1 ps1 as1 bo1 d1 hg1
          split at h
          · rename_i ex f3 he3
            split at h
            · rename_i st3 pe3 nt3 t3 ps3 as3 bo3 d3 hg3
              simp only [Option.some.injEq, Prod.mk.injEq] at h
              obtain ⟨rfl, rfl⟩ := h
              refine roundIn_of_wpIn trivial ?_
              show as.wpIn (FW (some (σ.b l))) 0 P _ _ w
              refine code_wp hN hcall hdraw (ro := some l) as _ f1 .normal he1 _ σ _ w rfl (fun l' hx => by cases hx; exact hl) hf0 fun σ1 a1' w1 ha1 hf1 => ?_
              obtain ⟨r1, hr1, ⟨b1, b2, _⟩, _⟩ := hf1.rel.at_ _ _ hg1
              have hl1 : σ1.b l = σ.b l := (ha1.same l hl).1
              have hbeg := run_beginRound (P := P) hr1 b1
              have hp1 := put_loop hf1.rel hf1.ok hg1 .busy pe1 hr1
              have hr1e : ({ r1 with state := .busy, pending := pe1 } : Loop) = { r1 with state := .busy } := by rw [← b2]
              rw [hr1e] at hp1
              refine ⟨_, by rw [← hl1]; exact hbeg, ?_⟩
              have hf2 : FRel P σ1 nt ⟨f1.t, ⟨f1.s.n, tset HD f1.s.h l (.loop .busy pe1 nt1 t1 ps1 as1 bo1 d1), f1.s.wr ||| 1 <<< l⟩, f1.ds⟩ a1' (w1.putObj (σ1.b l) (.loop { r1 with state := .busy })) :=
                ⟨hp1.rel, hp1.ok, hf1.tr, hf1.to, hf1.ds, hf1.dlt⟩
              show bo.wpIn (FW (some (σ.b l))) 0 P _ _ _
              have hll : l < f1.s.n := Nat.lt_of_lt_of_le hl ha1.le
              refine code_wp hN hcall hdraw (ro := some l) bo _ f3 ex he3 _ σ1 _ _ (by rw [← hl1]; rfl) (fun l' hx => by cases hx; exact hll) hf2 fun σ3 a3' w3 ha3 hf3 => ?_
              obtain ⟨r3, hr3, _⟩ := hf3.rel.at_ _ _ hg3
              have hl3 : σ3.b l = σ.b l := ((ha3.same l hll).1).trans hl1
              have hall := (ha1.trans hp1).trans ha3
              have fin : ∃ v' w4, (Instr.endRound (σ.b l) (jumpOf ex)).run P w3 = .ok v' w4 ∧ ∃ σ', Aft P σ s w σ' ⟨f3.s.n, tset HD f3.s.h l (.loop (if (jumpOf ex).isNone then .ready else .done) (jumpOf ex) nt3 t3 ps3 as3 bo3 d3), f3.s.wr ||| 1 <<< l⟩ w4 ∧ (Ending.returned v' = .returned (ren σ' (.bool (jumpOf ex).isNone))) := by
                have hend := run_endRound (P := P) (jumpOf ex) hr3
                rw [hl3] at hend
                have hp3 := put_loop hf3.rel hf3.ok hg3 (if (jumpOf ex).isNone then .ready else .done) (jumpOf ex) hr3
                rw [hl3] at hp3
                exact ⟨_, _, hend, σ3, hall.trans hp3, by simp [ren]⟩
              obtain ⟨v', w4, hrun, hfin⟩ := fin
              cases ex with
              | normal => exact ⟨v', w4, hrun, hfin⟩
              | ret => exact ⟨v', w4, hrun, hfin⟩
              | exit i => exact ⟨v', w4, hrun, hfin⟩
            · cases h
          · cases h
        · cases h
      · cases h
  · cases h
def evCall (P : Program) (mk : Caller → Drawer) : Nat → Caller
  | 0, _, _, _, _ => none
  | n + 1, false, l, args, s => evRound P (evCall P mk n) (mk (evCall P mk n)) l args s
  | n + 1, true, k, args, s =>
    match P.funcs[k]? with
    | some fn =>
      match fn.body with
      | some c =>
        bif Nat.ble args.length fn.ntmps && Nat.ble fn.ntmps (2 ^ TD) then
          match evCode P (evCall P mk n) (mk (evCall P mk n)) fn.ntmps none c ⟨setArgs 0 args .e, s, []⟩ with
          | some (.exit _, _) => none
          | some (_, f) =>
            match evTake f.ds f.s with
            | some s2 =>
              match evRes P fn.ntmps f.t s2 fn.results.toList with
              | some vs => some (tupOf vs, s2)
              | none => none
            | none => none
          | none => none
        else none
      | none => none
    | none => none
theorem evCall_spec {P : Program} (hN : NoNum P) {mk : Caller → Drawer} (hmk : ∀ call, CallSpec P call → DrawSpec P (mk call)) : ∀ n, CallSpec P (evCall P mk n)
  | 0 => ⟨fun k args s v s' h => by simp [evCall] at h, fun k args s v s' h => by simp [evCall] at h⟩
  | n + 1 => by
    have ih := evCall_spec hN hmk n
    refine ⟨fun k args s v s' h => ?_, fun l args s v s' h σ w hr ok hb => ?_⟩
    · simp only [evCall] at h
      split at h
      · rename_i fn hfn
        split at h
        · rename_i c hc
          cases hz : (Nat.ble args.length fn.ntmps && Nat.ble fn.ntmps (2 ^ TD)) with
          | false => rw [hz] at h; cases h
          | true =>
            rw [hz] at h
            simp only [Bool.and_eq_true, Nat.ble_eq] at hz
            simp only [cond_true] at h
            refine ⟨⟨fn, hfn, by rw [hc]; rfl⟩, fun σ w hr ok hb => ?_⟩
            have hstart : FRel P σ fn.ntmps ⟨setArgs 0 args .e, s, []⟩ { tmps := (args.map (ren σ)).toArray ++ Array.replicate (fn.ntmps - (args.map (ren σ)).toArray.size) undef, defers := [] } w := by
              have hget : ∀ j, j < fn.ntmps → (tget TD (setArgs 0 args .e) j).getD undef = if h : j < args.length then args[j] else undef := by
                intro j hj
                rw [tget_setArgs args 0 .e j (by omega) (by omega)]
                by_cases hl : j < args.length
                · rw [if_pos ⟨Nat.zero_le _, by omega⟩, dif_pos hl]; simp [hl]
                · rw [if_neg (by omega), dif_neg hl, tget_e]; rfl
              refine ⟨hr, ok, ⟨by simp; omega, fun j hj => ?_⟩, ⟨hz.2, fun j hj => ?_⟩, rfl, fun d hd => by cases hd⟩
              · rw [hget j hj]
                by_cases hl : j < args.length
                · rw [dif_pos hl]
                  simp [Array.getElem?_append, hl]
                · rw [dif_neg hl]
                  have h1 : j - args.length < fn.ntmps - args.length := by omega
                  simp [Array.getElem?_append, hl, ren_undef, Array.getElem?_replicate, h1]
              · rw [hget j hj]
                by_cases hl : j < args.length
                · rw [dif_pos hl]; exact (bdL_iff _ _).1 hb _ (List.getElem_mem hl)
                · rw [dif_neg hl]; exact bd_undef _
            refine calls_FW (n := 0) (callsIn_of_wp_marks hfn hc trivial ?_)
            split at h
            · cases h
            · rename_i ex f hne hev
              have hfin : ∃ s2 vs, evTake f.ds f.s = some s2 ∧ evRes P fn.ntmps f.t s2 fn.results.toList = some vs ∧ v = tupOf vs ∧ s' = s2 := by
                split at h
                · rename_i s2 hs2
                  split at h
                  · rename_i vs hvs
                    simp only [Option.some.injEq, Prod.mk.injEq] at h
                    exact ⟨_, _, hs2, hvs, h.1.symm, h.2.symm⟩
                  · cases h
                · cases h
              obtain ⟨s2, vs, hs2, hvs, rfl, rfl⟩ := hfin
              show c.wpIn (FW none) 0 P _ _ w
              refine code_wp hN ih (hmk _ ih) (ro := none) c _ f ex hev _ σ _ w rfl (fun l hl => by cases hl) hstart fun σ' a' w' ha hf' => ?_
              have hleave : LeavesInM (FW none) 0 P fn a'.tmps (fun e w' => ∃ σ', Aft P σ s w σ' s' w' ∧ e = .returned (ren σ' (tupOf vs))) a'.defers .returning w' := by
                rw [hf'.ds]
                refine evTake_ok f.ds f.s s' w' hs2 hf'.rel hf'.ok fun w2 ha2 => ?_
                have hf2 : FRel P σ' fn.ntmps ⟨f.t, s', []⟩ { a' with defers := [] } w2 := ⟨ha2.rel, ha2.ok, ⟨hf'.tr.size, hf'.tr.at_⟩, ⟨hf'.to.top, fun k hk => bd_mono ha2.le _ (hf'.to.bd k hk)⟩, rfl, fun d hd => by cases hd⟩
                have hm := res_run hf2 fn.results.toList vs hvs
                refine ⟨ren σ' (tupOf vs), ?_, σ', ha.trans ha2, rfl⟩
                rw [results_eq, Sem.run_bind, Array.mapM_eq_mapM_toList, Sem.run_map]
                have hm' : (fn.results.toList.mapM (resVal a'.tmps)).run P w2 = .ok (vs.map (ren σ')) w2 := hm
                rw [hm']
                simp only [Result.andThen_ok, Sem.run_pure]
                congr 1
                cases vs with
                | nil => simp [tupOf, ren, renA, renL]
                | cons x xs =>
                  cases xs with
                  | nil => simp [tupOf]
                  | cons y ys => simp [tupOf, ren, renA, renL_map]
              cases ex with
              | normal => exact hleave
              | ret => exact hleave
              | exit i => exact absurd rfl (hne i)
            · cases h
        · cases h
      · cases h
    · simp only [evCall] at h
      exact evRound_ok hN ih (hmk _ ih) h hr ok hb
end Go.Proofs.Ytdfabagclnjoaaa
