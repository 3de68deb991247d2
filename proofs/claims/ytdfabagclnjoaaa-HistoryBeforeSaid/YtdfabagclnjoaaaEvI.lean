import Derived.Test.YtdfabagclnjoaaaEvH
namespace Go.Proofs.Ytdfabagclnjoaaa
set_option linter.unusedSimpArgs false
set_option linter.unusedVariables false
open Go
theorem evNew'_does {P : Program} {σ : Sub} {s s' : Hs} {w : World} {e : TypeId} {v : Value} (h : evNew' P s e = some (v, s')) (hr : Rel P σ s w) (ok : s.Ok) :
    Does P σ s w (do pure (.value (← Instr.alloc e true (.tuple #[])))) v s' := by
  unfold evNew' at h
  split at h
  · rename_i i hi
    split at h
    · rename_i z hz
      cases hb : bdA 0 z.cells with
      | false => rw [hb] at h; cases h
      | true =>
        rw [hb] at h
        simp only [cond_true] at h
        refine Does.newVar (u := z) h hr ok ?_ ?_
        · have := renL_free σ z.cells.toList (by cases hz : z.cells; rw [hz] at hb; simpa [bdA] using hb)
          rw [← renL_map, this]
        · simp [Instr.alloc, run_zero hi hz, newVar, newRow]
    · cases h
  · cases h
theorem pairs_map (ρ : Operand → Value) (σ : Sub) (ps : Array (Nat × Operand)) : (ps.map fun (i, x) => (i, ren σ (ρ x))) = (ps.map fun (i, x) => (i, ρ x)).map fun p => (p.1, ren σ p.2) := by
  rw [Array.map_map]; rfl
theorem builtin_does {P : Program} {σ : Sub} {s s' : Hs} {w : World} {b : Builtin} {args : Array Value} {ts : Array TypeId} {ty : TypeId} {cs : Array Bool} {v : Value} (h : evBuiltin P s b args.toList ts.toList = some (v, s')) (hr : Rel P σ s w) (ok : s.Ok) :
    Does P σ s w (builtin b ts ty cs (args.map (ren σ))) v s' := by
  unfold evBuiltin at h
  split at h
  · rename_i x y t u ha ht
    cases hb : Nat.beq t u with
    | false =>
      rw [hb] at h
      simp only [cond_false] at h
      have e1 : args = #[x, y] := by rw [← ha]
      have e2 : ts = #[t, u] := by rw [← ht]
      subst e1; subst e2
      have := appendZ_does (ty := ty) h hr ok
      simpa [builtin] using this
    | true =>
      rw [hb] at h
      simp only [cond_true] at h
      have hb' := Nat.eq_of_beq_eq_true hb
      subst hb'
      have e1 : args = #[x, y] := by rw [← ha]
      have e2 : ts = #[t, t] := by rw [← ht]
      subst e1; subst e2
      rcases evOr_some h with h | h
      · have := appendIn_does (ty := ty) h hr ok
        simpa [builtin] using this
      rcases evOr_some h with h | h
      · have := append_does (ty := ty) h hr ok
        simpa [builtin] using this
      · have := append0_does (ty := ty) h hr ok
        simpa [builtin] using this
  · rename_i x y t u ha ht
    have e1 : args = #[x, y] := by rw [← ha]
    have e2 : ts = #[t, u] := by rw [← ht]
    subst e1; subst e2
    have := copy_does (u := u) (ty := ty) h hr ok
    simpa [builtin] using this
  · rename_i x t ha ht
    split at h
    · rename_i s2 hc
      simp only [Option.some.injEq, Prod.mk.injEq] at h
      obtain ⟨rfl, rfl⟩ := h
      have e1 : args = #[x] := by rw [← ha]
      have e2 : ts = #[t] := by rw [← ht]
      subst e1; subst e2
      have := clear_does (ty := ty) hc hr ok
      simpa [builtin] using this
    · cases h
  · rename_i x t ha ht
    obtain ⟨h1, rfl⟩ := keep_some h
    have e1 : args = #[x] := by rw [← ha]
    have e2 : ts = #[t] := by rw [← ht]
    subst e1; subst e2
    rcases evOr_some h1 with h1 | h1
    · have := len_does (ty := ty) h1 hr ok
      simpa [builtin] using this
    · have := mapLen_does (ty := ty) h1 hr ok
      simpa [builtin] using this
  · rename_i m k t tl ha ht
    split at h
    · rename_i s2 hd
      simp only [Option.some.injEq, Prod.mk.injEq] at h
      obtain ⟨rfl, rfl⟩ := h
      have e1 : args = #[m, k] := by rw [← ha]
      have e2 : ts[0]? = some t := by rw [← Array.getElem?_toList, ht]; rfl
      subst e1
      have := delete_does (ty := ty) e2 hd hr ok
      simpa [builtin] using this
    · cases h
  · cases h
theorem mem_does {P : Program} {σ : Sub} {s s' : Hs} {w : World} {ρ : Operand → Value} {o : Oper} {v : Value} (h : evMem P ρ s o = some (v, s')) (hr : Rel P σ s w) (ok : s.Ok) :
    Does P σ s w (execOp (fun x => ren σ (ρ x)) o) v s' := by
  unfold evMem at h
  split at h
  · rename_i x ho
    simp only [Option.some.injEq, Prod.mk.injEq] at h
    obtain ⟨rfl, rfl⟩ := h
    exact ⟨σ, w, .value (ren σ (ρ x)), Aft.refl hr ok, by simp [execOp, ho], rfl⟩
  · rename_i x ho
    simp only [Option.some.injEq, Prod.mk.injEq] at h
    obtain ⟨rfl, rfl⟩ := h
    exact ⟨σ, w, .value (ren σ (ρ x)), Aft.refl hr ok, by simp [execOp, ho], rfl⟩
  · rename_i c a b ho
    split at h
    · rename_i t hc
      simp only [Option.some.injEq, Prod.mk.injEq] at h
      obtain ⟨rfl, rfl⟩ := h
      refine ⟨σ, w, _, Aft.refl hr ok, by simp [execOp, ho, hc, ren, asBool]; rfl, ?_⟩
      cases t <;> simp [Fits]
    · cases h
  · rename_i e ho
    have := evNew'_does h hr ok
    simpa [execOp, ho] using this
  · rename_i e x ho
    have := Does.newVar (u := ren σ (ρ x)) (x := Instr.box e (ren σ (ρ x))) h hr ok (by rw [ren_cells]; simp) (by simp [Instr.box, newVar, newRow])
    simpa [execOp, ho] using this
  · rename_i t a ho
    obtain ⟨h1, rfl⟩ := keep_some h
    have := load_does h1 hr ok
    simpa [execOp, ho] using this
  · rename_i t a x ho
    split at h
    · rename_i s2 hs
      simp only [Option.some.injEq, Prod.mk.injEq] at h
      obtain ⟨rfl, rfl⟩ := h
      have := store_does hs hr ok
      simpa [execOp, ho] using this
    · cases h
  · rename_i t x f ho
    obtain ⟨h1, rfl⟩ := keep_some h
    have := field_does h1 hr ok
    simpa [execOp, ho] using this
  · rename_i t x f ho
    obtain ⟨h1, rfl⟩ := keep_some h
    have := fieldOf_does h1 hr ok
    simpa [execOp, ho] using this
  · rename_i t x i ho
    obtain ⟨h1, rfl⟩ := keep_some h
    have := index_does h1 hr ok
    simpa [execOp, ho] using this
  · rename_i t x lo hi mx ho
    rcases evOr_some h with h | h
    · obtain ⟨h1, rfl⟩ := keep_some h
      have := slice_does h1 hr ok
      simp only [Option.map_map] at this
      simpa [execOp, ho, Function.comp_def] using this
    · exact pure_does h hr ok
  · rename_i t ps ho
    obtain ⟨h1, rfl⟩ := keep_some h
    have := build_does h1 hr ok
    simpa [execOp, ho, Function.comp_def] using this
  · rename_i t n ps ho
    have := buildSlice_does h hr ok
    simpa [execOp, ho, Function.comp_def] using this
  · rename_i x k ho
    obtain ⟨h1, rfl⟩ := keep_some h
    have := extract_does h1 hr ok
    simpa [execOp, ho] using this
  · rename_i t x ho
    split at h
    · cases h
    · cases h
    · rename_i d hd hni
      simp only [Option.some.injEq, Prod.mk.injEq] at h
      obtain ⟨rfl, rfl⟩ := h
      have hx : (Instr.makeInterface t (ren σ (ρ x))).run P w = .ok (ren σ (.iface t (ρ x))) w := by
        simp only [Instr.makeInterface, Sem.run_bind, run_underlying hni, Result.andThen_ok]
        cases d <;> first | (exact absurd rfl (hd _)) | simp [ren]
      have := Does.plain (x := Instr.makeInterface t (ren σ (ρ x))) hr ok hx
      simpa [execOp, ho] using this
  · rename_i fn first cap ho
    split at h
    · cases h
    · rename_i hny
      simp only [Option.some.injEq, Prod.mk.injEq] at h
      obtain ⟨rfl, rfl⟩ := h
      have hf : renFn σ fn = fn := by cases fn <;> first | rfl | exact absurd rfl (hny _)
      refine ⟨σ, w, .value (ren σ (.func fn (first.map ρ) (cap.map ρ))), Aft.refl hr ok, ?_, rfl⟩
      simp [execOp, ho, Instr.makeFunc, ren, renA_map, hf, Function.comp_def]
  · rename_i t l c ho
    have := makeSlice_does h hr ok
    simpa [execOp, ho] using this
  · rename_i x ho
    split at h
    · rename_i a hx
      simp only [Option.some.injEq, Prod.mk.injEq] at h
      obtain ⟨rfl, rfl⟩ := h
      exact ⟨σ, w, .value (ren σ (.pointer (some a))), Aft.refl hr ok, by simp [execOp, ho, hx, ren], rfl⟩
    · rename_i f a b hx
      simp only [Option.some.injEq, Prod.mk.injEq] at h
      obtain ⟨rfl, rfl⟩ := h
      exact ⟨σ, w, .value (ren σ (.func (.func f) a b)), Aft.refl hr ok, by simp [execOp, ho, hx, ren, renFn], rfl⟩
    · cases h
  · rename_i op t x y ty ho
    rcases evOr_some h with h | h
    · exact pure_does h hr ok
    · obtain ⟨h1, rfl⟩ := keep_some h
      have := nil_does (a := x) (b := y) h1 hr ok
      simpa only [execOp, ho] using this
  · rename_i t r ho
    split at h
    · have := makeMap_does (t := t) h hr ok
      simpa [execOp, ho] using this
    · cases h
  · rename_i t m i ok' ho
    rcases evOr_some h with h | h
    · obtain ⟨h1, rfl⟩ := keep_some h
      have := lookup_does h1 hr ok
      simpa [execOp, ho] using this
    · exact pure_does h hr ok
  · rename_i t m k x ho
    split at h
    · rename_i s2 hs
      simp only [Option.some.injEq, Prod.mk.injEq] at h
      obtain ⟨rfl, rfl⟩ := h
      have := mapUpdate_does hs hr ok
      simpa [execOp, ho] using this
    · cases h
  · rename_i t m k x ho
    split at h
    · rename_i s2 hs
      simp only [Option.some.injEq, Prod.mk.injEq] at h
      obtain ⟨rfl, rfl⟩ := h
      have := mapUpdate_does hs hr ok
      simpa [execOp, ho] using this
    · cases h
  · rename_i c ho
    split at h
    · rename_i b hc
      rcases evOr_some h with h | h
      · exact pure_does h hr ok
      · have := builtin_does (args := c.args.map ρ) (ts := c.argTypes) (ty := o.type) (cs := c.args.map fun | .const _ => true | _ => false) (by simpa using h) hr ok
        have he : execOp (fun x => ren σ (ρ x)) o = builtin b c.argTypes o.type (c.args.map fun | .const _ => true | _ => false) ((c.args.map ρ).map (ren σ)) := by
          simp only [execOp, ho, resolve, hc]
          simp [invoke, Function.comp_def]
          rfl
        rw [he]; exact this
    · cases h
  · exact pure_does h hr ok
end Go.Proofs.Ytdfabagclnjoaaa
