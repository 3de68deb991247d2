import Derived.Test.YtdfabagclnjoaaaEvG
namespace Go.Proofs.Ytdfabagclnjoaaa
set_option linter.unusedSimpArgs false
set_option linter.unusedVariables false
open Go
/-- A new block that is no row. -/
theorem Aft.newRaw {P : Program} {σ : Sub} {s : Hs} {w : World} (h : Rel P σ s w) (ok : s.Ok) (o : Obj) (ho : rawOk o = true) (hn : s.n < 2 ^ HD) :
    ∃ σ', σ'.b s.n = w.heap.size ∧ Aft P σ s w σ' ⟨s.n + 1, tset HD s.h s.n (.raw o), s.wr⟩ { w with heap := w.heap.push o } := by
  let σ' : Sub := ⟨fun i => if i = s.n then w.heap.size else σ.b i, σ.c⟩
  have hsame : Sub.same s.n σ' σ := fun i hi => by
    have : i ≠ s.n := by omega
    simp [σ', this]
  have hget := fun j => Hs.get_push (s := s) (j := j) (ob := .raw o) hn
  have hcase : ∀ j ob, (Hs.mk (s.n + 1) (tset HD s.h s.n (.raw o)) s.wr).get j = some ob → (j = s.n ∧ ob = .raw o) ∨ (j < s.n ∧ s.get j = some ob) := by
    intro j ob hj
    rw [hget j] at hj
    by_cases he : j = s.n
    · rw [if_pos he] at hj; exact .inl ⟨he, by injection hj with hj; exact hj.symm⟩
    · rw [if_neg he] at hj; exact .inr ⟨Hs.get_lt hj, hj⟩
  have hnew : σ'.b s.n = w.heap.size := by simp [σ']
  have hheap : ∀ b, b < w.heap.size → (w.heap.push o)[b]? = w.heap[b]? := fun b hb => by
    rw [Array.getElem?_push, if_neg (by omega)]
  refine ⟨σ', hnew, ⟨by simp, fun i hi => ?_, ⟨fun i ob hi => ?_, fun i j hi hj he => ?_, fun i hi => by rw [(hsame i (Nat.lt_of_lt_of_le hi h.ge)).1]; exact h.gl i hi, Nat.le_succ_of_le h.ge⟩, ⟨by simp; omega, fun i ob hi => ?_⟩, by simp, rfl, rfl, rfl, fun _ h => h, fun i h1 h2 => .inl ?_, fun b hb _ => hheap b hb⟩⟩
  · have : i ≠ s.n := by
      rcases hi with hi | hi
      · omega
      · simp only at hi; omega
    simp [σ', this]
  · rcases hcase i ob hi with ⟨rfl, rfl⟩ | ⟨hlt, ho⟩
    · exact ⟨ho, by rw [hnew]; simp⟩
    · have hb := (ok.bd i ob ho).2
      cases hal : ob.alive with
      | false => cases ob <;> first | trivial | cases hal
      | true => exact Ob.At_congr hsame hlt hb (hheap _ (h.lt ⟨ob, ho, hal⟩)) (h.at_ i _ ho)
  · obtain ⟨ob1, h1, al1⟩ := hi
    obtain ⟨ob2, h2, al2⟩ := hj
    rcases hcase i _ h1 with ⟨rfl, _⟩ | ⟨hi, ho1⟩ <;> rcases hcase j _ h2 with ⟨rfl, _⟩ | ⟨hj, ho2⟩
    · rfl
    · rw [hnew, (hsame j hj).1] at he
      have := h.lt ⟨_, ho2, al2⟩; omega
    · rw [hnew, (hsame i hi).1] at he
      have := h.lt ⟨_, ho1, al1⟩; omega
    · rw [(hsame i hi).1, (hsame j hj).1] at he
      exact h.inj i j ⟨_, ho1, al1⟩ ⟨_, ho2, al2⟩ he
  · rcases hcase i ob hi with ⟨rfl, rfl⟩ | ⟨hi, ho⟩
    · exact ⟨by simp, rfl⟩
    · exact ⟨by simp; omega, Ob.bd_mono (by simp) ob (ok.bd i ob ho).2⟩
  · have : i = s.n := by simp at h2; omega
    subst this; rw [hnew]; exact Nat.le_refl _
/-- Such a block is turned. -/
theorem Aft.putRaw {P : Program} {σ : Sub} {s : Hs} {w : World} (h : Rel P σ s w) (ok : s.Ok) {i : Nat} {o o' : Obj} (hi : s.get i = some (.raw o)) (ho : rawOk o' = true) :
    Aft P σ s w σ ⟨s.n, tset HD s.h i (.raw o'), s.wr ||| 1 <<< i⟩ { w with heap := w.heap.setIfInBounds (σ.b i) o' } := by
  have hin := Hs.get_lt hi
  have hget := fun j => Hs.get_set (n := s.n) (wr := s.wr) (wr' := s.wr ||| 1 <<< i) (h := s.h) (i := i) (j := j) (ob := .raw o') ok.top hin
  have hb2 : σ.b i < w.heap.size := h.lt ⟨_, hi, rfl⟩
  have hne : ∀ b, b ≠ σ.b i → (w.heap.setIfInBounds (σ.b i) o')[b]? = w.heap[b]? := fun b hb => Array.getElem?_setIfInBounds_ne (Ne.symm hb)
  have hlive : ∀ j, (Hs.mk s.n (tset HD s.h i (.raw o')) (s.wr ||| 1 <<< i)).live j → s.live j := by
    rintro j ⟨ob1, hj, al⟩
    rw [hget j] at hj
    by_cases he : j = i
    · subst he; exact ⟨_, hi, rfl⟩
    · rw [if_neg he] at hj; exact ⟨_, hj, al⟩
  refine ⟨Nat.le_refl _, fun _ _ => ⟨rfl, rfl⟩, ⟨fun j ob hj => ?_, fun j k hj hk he => h.inj j k (hlive j hj) (hlive k hk) he, h.gl, h.ge⟩, ⟨ok.top, fun j ob hj => ?_⟩, by simp, rfl, rfl, rfl, fun j hj => by simp [Nat.testBit_or, hj], fun j h1 h2 => by simp at h2; omega, fun b hb hn => ?_⟩
  · rw [hget j] at hj
    by_cases he : j = i
    · subst he
      rw [if_pos rfl] at hj; injection hj with hj; subst hj
      exact ⟨ho, by simp [hb2]⟩
    · rw [if_neg he] at hj
      cases hal : ob.alive with
      | false => cases ob <;> first | trivial | cases hal
      | true =>
        refine Ob.At_congr (n := s.n) (fun _ _ => ⟨rfl, rfl⟩) (Hs.get_lt hj) (ok.bd j _ hj).2 (hne _ fun hb => he (h.inj j i ⟨_, hj, hal⟩ ⟨_, hi, rfl⟩ hb)) (h.at_ j _ hj)
  · rw [hget j] at hj
    by_cases he : j = i
    · subst he
      rw [if_pos rfl] at hj; injection hj with hj; subst hj
      exact ⟨hin, rfl⟩
    · rw [if_neg he] at hj
      exact ok.bd j ob hj
  · refine hne b fun hbe => hn i hin ?_ hbe.symm
    simp [Nat.testBit_or, Nat.testBit_shiftLeft]
theorem run_getRaw {P : Program} {w : World} {r : Nat} {o : Obj} (h : w.heap[r]? = some o) (ho : rawOk o = true) : (getObj r).run P w = .ok o w := by
  simp only [getObj, Sem.run, h]
  cases o <;> first | rfl | cases ho
theorem run_setRaw {P : Program} {w : World} {r : Nat} {o o' : Obj} (h : w.heap[r]? = some o) (ho : rawOk o = true) : (setObj r o').run P w = .ok () { w with heap := w.heap.setIfInBounds r o' } := by
  simp only [setObj, Sem.run, h]
  cases o <;> first | rfl | cases ho
-- maps whose keys and values bear no names
def evNewRaw (s : Hs) (o : Obj) : Option (Nat × Hs) :=
  bif Nat.blt s.n (2 ^ HD) && rawOk o then some (s.n, ⟨s.n + 1, tset HD s.h s.n (.raw o), s.wr⟩) else none
def evMakeMap (s : Hs) : Option (Value × Hs) :=
  match evNewRaw s (.map #[] 0) with
  | some (k, s') => some (.map (some k), s')
  | none => none
theorem makeMap_does {P : Program} {σ : Sub} {s s' : Hs} {w : World} {t : TypeId} {v : Value} (h : evMakeMap s = some (v, s')) (hr : Rel P σ s w) (ok : s.Ok) :
    Does P σ s w (do pure (.value (← Instr.makeMap t none))) v s' := by
  unfold evMakeMap evNewRaw at h
  cases hc : (Nat.blt s.n (2 ^ HD) && rawOk (.map #[] 0)) with
  | false => rw [hc] at h; cases h
  | true =>
    rw [hc] at h
    simp only [cond_true, Option.some.injEq, Prod.mk.injEq] at h
    obtain ⟨rfl, rfl⟩ := h
    simp only [Bool.and_eq_true, Nat.blt_eq] at hc
    obtain ⟨σ', h1, ha⟩ := Aft.newRaw hr ok (.map #[] 0) rfl hc.1
    refine Does.value ha ?_
    simp [Instr.makeMap, ren, h1]
def mapAt (s : Hs) : Value → Option (Nat × Array MapEntry × Nat)
  | .map (some i) => match s.get i with
    | some (.raw (.map es clock)) => some (i, es, clock)
    | _ => none
  | _ => none
theorem mapAt_some {P : Program} {σ : Sub} {s : Hs} {w : World} {m : Value} {i : Nat} {es : Array MapEntry} {clock : Nat} (h : mapAt s m = some (i, es, clock)) (hr : Rel P σ s w) :
    s.get i = some (.raw (.map es clock)) ∧ ren σ m = .map (some (σ.b i)) ∧ w.heap[σ.b i]? = some (.map es clock) := by
  unfold mapAt at h
  split at h
  · rename_i j
    split at h
    · rename_i es' cl hg
      simp only [Option.some.injEq, Prod.mk.injEq] at h
      obtain ⟨rfl, rfl, rfl⟩ := h
      exact ⟨hg, by simp [ren], (hr.at_ _ _ hg).2⟩
    · cases h
  · cases h
def evLookup (P : Program) (s : Hs) (t : TypeId) (m ix : Value) (ok : Bool) : Option Value :=
  match mapAt s m, P.underlying t with
  | some (_, es, _), some (.map key elem) =>
    bif bd 0 ix then
      match pureRun P (Instr.checkKey es.isEmpty 10000 key ix), pureRun P (Instr.findKey key ix es.toList), P.info? elem with
      | some _, some (some (_, v)), _ => bif bd 0 v then some (match ok with | true => .tuple #[v, .bool true] | false => v) else none
      | some _, some none, some ei => match ei.zero with
        | some z => bif bd 0 z then some (match ok with | true => .tuple #[z, .bool false] | false => z) else none
        | none => none
      | _, _, _ => none
    else none
  | _, _ => none
theorem lookup_does {P : Program} {σ : Sub} {s : Hs} {w : World} {t : TypeId} {m ix v : Value} {b : Bool} (h : evLookup P s t m ix b = some v) (hr : Rel P σ s w) (ok : s.Ok) :
    Does P σ s w (do pure (.value (← Instr.lookup t (ren σ m) (ren σ ix) b))) v s := by
  refine Does.plain hr ok ?_
  unfold evLookup at h
  split at h
  · rename_i i es clock key elem hm hu
    obtain ⟨hg, hmr, hheap⟩ := mapAt_some hm hr
    cases hb : bd 0 ix with
    | false => rw [hb] at h; cases h
    | true =>
      rw [hb] at h
      simp only [cond_true] at h
      rw [hmr, ren_free σ ix hb]
      split at h
      · rename_i ei u q v2 hck hfk
        cases hbv : bd 0 v2 with
        | false => rw [hbv] at h; cases h
        | true =>
          rw [hbv] at h
          simp only [cond_true, Option.some.injEq] at h
          subst h
          have hf : ren σ (match b with | true => .tuple #[v2, .bool true] | false => v2) = (match b with | true => .tuple #[v2, .bool true] | false => v2) := by
            cases b
            · exact ren_free σ _ hbv
            · exact ren_free σ _ (by simp [bd, bdA, bdL, hbv])
          rw [hf]
          simp only [Instr.lookup, Sem.run_bind, run_underlying hu, Result.andThen_ok, run_getRaw hheap rfl, Sem.run_pure, pureRun_run hck, pureRun_run hfk]
          cases b <;> rfl
      · rename_i u ei hck hfk hei
        split at h
        · rename_i z hz
          cases hbv : bd 0 z with
          | false => rw [hbv] at h; cases h
          | true =>
            rw [hbv] at h
            simp only [cond_true, Option.some.injEq] at h
            subst h
            have hf : ren σ (match b with | true => .tuple #[z, .bool false] | false => z) = (match b with | true => .tuple #[z, .bool false] | false => z) := by
              cases b
              · exact ren_free σ _ hbv
              · exact ren_free σ _ (by simp [bd, bdA, bdL, hbv])
            rw [hf]
            simp only [Instr.lookup, Sem.run_bind, run_underlying hu, Result.andThen_ok, run_getRaw hheap rfl, Sem.run_pure, pureRun_run hck, pureRun_run hfk, run_zero hei hz]
            cases b <;> rfl
        · cases h
      · cases h
  · cases h
def evMapUpdate (P : Program) (s : Hs) (t : TypeId) (m k x : Value) : Option Hs :=
  match mapAt s m, P.underlying t with
  | some (i, es, clock), some (.map key _) =>
    bif bd 0 k && bd 0 x then
      match pureRun P (Instr.checkKey false 10000 key k), pureRun P (Instr.findKey key k es.toList) with
      | some _, some (some (j, _)) =>
        match pureRun P (Instr.keyThatStays (((es[j]?).map (·.key)).getD k) k) with
        | some k' => some ⟨s.n, tset HD s.h i (.raw (.map (es.modify j fun e => { e with key := k', val := x }) clock)), s.wr ||| 1 <<< i⟩
        | none => none
      | some _, some none => some ⟨s.n, tset HD s.h i (.raw (.map (es.push { key := k, val := x, born := clock }) (clock + 1))), s.wr ||| 1 <<< i⟩
      | _, _ => none
    else none
  | _, _ => none
theorem mapUpdate_does {P : Program} {σ : Sub} {s s' : Hs} {w : World} {t : TypeId} {m k x : Value} (h : evMapUpdate P s t m k x = some s') (hr : Rel P σ s w) (ok : s.Ok) :
    Does P σ s w (do Instr.mapUpdate t (ren σ m) (ren σ k) (ren σ x); pure .skip) undef s' := by
  unfold evMapUpdate at h
  split at h
  · rename_i i es clock key elem hm hu
    obtain ⟨hg, hmr, hheap⟩ := mapAt_some hm hr
    cases hb : (bd 0 k && bd 0 x) with
    | false => rw [hb] at h; cases h
    | true =>
      rw [hb] at h
      simp only [cond_true] at h
      simp only [Bool.and_eq_true] at hb
      rw [hmr, ren_free σ k hb.1, ren_free σ x hb.2]
      split at h
      · rename_i u j v2 hck hfk
        split at h
        · rename_i k' hks
          simp only [Option.some.injEq] at h
          subst h
          refine Does.skip (Aft.putRaw hr ok hg (o' := .map (es.modify j fun e => { e with key := k', val := x }) clock) rfl) ?_
          simp only [Instr.mapUpdate, Sem.run_bind, run_underlying hu, Result.andThen_ok, run_getRaw hheap rfl, pureRun_run hck, pureRun_run hfk, pureRun_run hks, run_setRaw hheap rfl]
        · cases h
      · rename_i u hck hfk
        simp only [Option.some.injEq] at h
        subst h
        refine Does.skip (Aft.putRaw hr ok hg (o' := .map (es.push { key := k, val := x, born := clock }) (clock + 1)) rfl) ?_
        simp only [Instr.mapUpdate, Sem.run_bind, run_underlying hu, Result.andThen_ok, run_getRaw hheap rfl, pureRun_run hck, pureRun_run hfk, run_setRaw hheap rfl]
      · cases h
  · cases h
def evMapLen (P : Program) (s : Hs) (t : TypeId) (m : Value) : Option Value :=
  match mapAt s m, P.underlying t with
  | some (_, es, _), some (.map _ _) => some (.int .i64 es.size)
  | _, _ => none
theorem mapLen_does {P : Program} {σ : Sub} {s : Hs} {w : World} {t ty : TypeId} {x v : Value} (h : evMapLen P s t x = some v) (hr : Rel P σ s w) (ok : s.Ok) :
    Does P σ s w (do pure (.value (← Builtin.len_ #[t] ty #[ren σ x]))) v s := by
  refine Does.plain hr ok ?_
  unfold evMapLen at h
  split at h
  · rename_i i es clock key elem hm hu
    obtain ⟨hg, hmr, hheap⟩ := mapAt_some hm hr
    simp only [Option.some.injEq] at h
    subst h
    rw [hmr]
    have h1 : (#[t] : Array TypeId)[0]? = some t := rfl
    have h2 : (#[Value.map (some (σ.b i))] : Array Value)[0]? = some (Value.map (some (σ.b i))) := rfl
    simp only [Builtin.len_, h1, h2, Sem.run_bind, run_underlying hu, Result.andThen_ok, run_getRaw hheap rfl, Sem.run_pure, ren]
    rfl
  · cases h
def evDelete (P : Program) (s : Hs) (t : TypeId) (m k : Value) : Option Hs :=
  match mapAt s m, P.underlying t with
  | some (i, es, clock), some (.map key _) =>
    bif bd 0 k then
      match pureRun P (Instr.checkKey es.isEmpty 10000 key k), pureRun P (Instr.findKey key k es.toList) with
      | some _, some (some (j, _)) => some ⟨s.n, tset HD s.h i (.raw (.map (es.eraseIdxIfInBounds j) clock)), s.wr ||| 1 <<< i⟩
      | some _, some none => some ⟨s.n, tset HD s.h i (.raw (.map es clock)), s.wr ||| 1 <<< i⟩
      | _, _ => none
    else none
  | _, _ => none
theorem delete_does {P : Program} {σ : Sub} {s s' : Hs} {w : World} {t ty : TypeId} {ts : Array TypeId} {m k : Value} (ht : ts[0]? = some t) (h : evDelete P s t m k = some s') (hr : Rel P σ s w) (ok : s.Ok) :
    Does P σ s w (do pure (.value (← Builtin.delete_ ts ty #[ren σ m, ren σ k]))) undef s' := by
  unfold evDelete at h
  split at h
  · rename_i i es clock key elem hm hu
    obtain ⟨hg, hmr, hheap⟩ := mapAt_some hm hr
    cases hb : bd 0 k with
    | false => rw [hb] at h; cases h
    | true =>
      rw [hb] at h
      simp only [cond_true] at h
      rw [hmr, ren_free σ k hb]
      have h1 : (#[Value.map (some (σ.b i)), k] : Array Value)[0]? = some (Value.map (some (σ.b i))) := rfl
      have h2 : (#[Value.map (some (σ.b i)), k] : Array Value)[1]? = some k := rfl
      split at h
      · rename_i u j v2 hck hfk
        simp only [Option.some.injEq] at h
        subst h
        refine Does.value (Aft.putRaw hr ok hg (o' := .map (es.eraseIdxIfInBounds j) clock) rfl) ?_
        simp only [Builtin.delete_, ht, h1, h2, Sem.run_bind, run_underlying hu, Result.andThen_ok, run_getRaw hheap rfl, pureRun_run hck, pureRun_run hfk, run_setRaw hheap rfl, Sem.run_pure, ren_undef]
        rfl
      · rename_i u hck hfk
        simp only [Option.some.injEq] at h
        subst h
        refine Does.value (Aft.putRaw hr ok hg (o' := .map es clock) rfl) ?_
        simp only [Builtin.delete_, ht, h1, h2, Sem.run_bind, run_underlying hu, Result.andThen_ok, run_getRaw hheap rfl, pureRun_run hck, pureRun_run hfk, run_setRaw hheap rfl, Sem.run_pure, ren_undef]
        rfl
      · cases h
  · cases h
end Go.Proofs.Ytdfabagclnjoaaa
