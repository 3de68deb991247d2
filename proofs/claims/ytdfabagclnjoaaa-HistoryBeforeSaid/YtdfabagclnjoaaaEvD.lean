import Derived.Test.YtdfabagclnjoaaaEvC
import Derived.Laws.Tables
import Derived.Laws.MakeOwn
import Derived.Great.BuildSlice
namespace Go.Proofs.Ytdfabagclnjoaaa
set_option linter.unusedSimpArgs false
set_option linter.unusedVariables false
open Go
-- places
def evField (P : Program) (st : TypeId) (f : Nat) : Value → Option Value
  | .pointer (some ⟨i, off, none⟩) =>
    match P.underlying st with
    | some (.struct fs) =>
      match fs[f]? with
      | some fd =>
        match P.info? fd.type with
        | some fi => bif Nat.beq fi.size 0 then none else some (.pointer (some ⟨i, off + fd.offset, none⟩))
        | none => none
      | none => none
    | _ => none
  | _ => none
theorem field_does {P : Program} {σ : Sub} {s : Hs} {w : World} {t : TypeId} {f : Nat} {a v : Value} (h : evField P t f a = some v) (hr : Rel P σ s w) (ok : s.Ok) :
    Does P σ s w (do pure (.value (← Instr.fieldAt t (ren σ a) f))) v s := by
  refine Does.plain hr ok ?_
  unfold evField at h
  split at h
  · rename_i i off
    split at h
    · rename_i fs hu
      split at h
      · rename_i fd hf
        split at h
        · rename_i fi hi
          cases hz : Nat.beq fi.size 0 with
          | true => rw [hz] at h; cases h
          | false =>
            rw [hz] at h
            simp only [cond_false, Option.some.injEq] at h
            subst h
            have hz' : fi.size ≠ 0 := fun he => by rw [he] at hz; cases hz
            simp [Instr.fieldAt, run_underlying hu, hf, ren, Instr.sureAddr, fieldPlace, run_size hi, hz', add_none]
        · cases h
      · cases h
    · cases h
  · cases h
def natOf : Value → Option Nat
  | .int _ (.ofNat m) => some m
  | _ => none
theorem natOf_some {v : Value} {m : Nat} (h : natOf v = some m) : ∃ k, v = .int k (m : Nat) := by
  unfold natOf at h
  split at h
  · injection h with h; subst h; exact ⟨_, rfl⟩
  · cases h
def evIndex (P : Program) (t : TypeId) (x ix : Value) : Option Value :=
  match natOf ix, P.underlying t, x with
  | some m, some (.slice elem), .slice (some ⟨i, off, none⟩) len _ =>
    match P.info? elem with
    | some ei => bif Nat.blt m len then some (.pointer (some ⟨i, off + m * ei.size, none⟩)) else none
    | none => none
  | some m, some (.array len elem), .pointer (some ⟨i, off, none⟩) =>
    match P.info? elem with
    | some ei => bif Nat.blt m len then some (.pointer (some ⟨i, off + m * ei.size, none⟩)) else none
    | none => none
  | _, _, _ => none
theorem index_does {P : Program} {σ : Sub} {s : Hs} {w : World} {t : TypeId} {x ix v : Value} (h : evIndex P t x ix = some v) (hr : Rel P σ s w) (ok : s.Ok) :
    Does P σ s w (do pure (.value (← Instr.indexAt t (ren σ x) (ren σ ix)))) v s := by
  refine Does.plain hr ok ?_
  unfold evIndex at h
  split at h
  · rename_i m elem i off len cap hm hu
    obtain ⟨k, rfl⟩ := natOf_some hm
    split at h
    · rename_i ei hi
      cases hz : Nat.blt m len with
      | false => rw [hz] at h; cases h
      | true =>
        rw [hz] at h
        simp only [cond_true, Option.some.injEq] at h
        subst h
        rw [Nat.blt_eq] at hz
        have h2 : ((m : Nat) : Int) < (len : Nat) := by omega
        simp [Instr.indexAt, run_underlying hu, ren, asIntOf, run_size hi, add_none, h2, hz]
    · cases h
  · rename_i m len elem i off hm hu
    obtain ⟨k, rfl⟩ := natOf_some hm
    split at h
    · rename_i ei hi
      cases hz : Nat.blt m len with
      | false => rw [hz] at h; cases h
      | true =>
        rw [hz] at h
        simp only [cond_true, Option.some.injEq] at h
        subst h
        rw [Nat.blt_eq] at hz
        have h2 : ((m : Nat) : Int) < (len : Nat) := by omega
        simp [Instr.indexAt, run_underlying hu, ren, asIntOf, run_size hi, add_none, h2, hz, Instr.sureAddr]
    · cases h
  · cases h
-- parts of values
def evPart (P : Program) (t : TypeId) (cs : List Value) (off : Nat) : Option Value :=
  match P.underlying t, P.info? t with
  | some d, some ti => bif isAggD d then some (.agg ⟨(cs.drop off).take ti.size⟩) else cs[off]?
  | _, _ => none
theorem part_run {P : Program} {σ : Sub} {w : World} {t : TypeId} {cs : List Value} {off : Nat} {v : Value} (h : evPart P t cs off = some v) : (part t ⟨cs.map (ren σ)⟩ off).run P w = .ok (ren σ v) w := by
  unfold evPart at h
  split at h
  · rename_i d ti hd hi
    simp only [part, Sem.run_bind, run_isAggD hd, Result.andThen_ok]
    cases hA : isAggD d with
    | true =>
      rw [hA] at h
      simp only [cond_true, Option.some.injEq] at h
      subst h
      simp [run_size hi, ren, renA, renL_map, List.map_take, List.map_drop, List.extract_eq_take_drop]
    | false =>
      rw [hA] at h
      simp only [cond_false] at h
      simp [h]
  · cases h
def evFieldOf (P : Program) (t : TypeId) (f : Nat) : Value → Option Value
  | .agg cs =>
    match P.underlying t with
    | some (.struct fs) =>
      match fs[f]? with
      | some fd => evPart P fd.type cs.toList fd.offset
      | none => none
    | _ => none
  | _ => none
theorem fieldOf_does {P : Program} {σ : Sub} {s : Hs} {w : World} {t : TypeId} {f : Nat} {x v : Value} (h : evFieldOf P t f x = some v) (hr : Rel P σ s w) (ok : s.Ok) :
    Does P σ s w (do pure (.value (← Instr.field t (ren σ x) f))) v s := by
  refine Does.plain hr ok ?_
  unfold evFieldOf at h
  split at h
  · rename_i cs
    split at h
    · rename_i fs hu
      split at h
      · rename_i fd hf
        have := part_run (P := P) (σ := σ) (w := w) h
        have he : (⟨cs.toList.map (ren σ)⟩ : Array Value) = cs.map (ren σ) := by cases cs; simp
        rw [he] at this
        simp [Instr.field, run_underlying hu, hf, ren, renA_map, asAgg, this]
      · cases h
    · cases h
  · cases h
def evExtract (k : Nat) : Value → Option Value
  | .tuple vs => vs.toList[k]?
  | _ => none
theorem extract_does {P : Program} {σ : Sub} {s : Hs} {w : World} {k : Nat} {x v : Value} (h : evExtract k x = some v) (hr : Rel P σ s w) (ok : s.Ok) :
    Does P σ s w (do pure (.value (← Instr.extract (ren σ x) k))) v s := by
  refine Does.plain hr ok ?_
  unfold evExtract at h
  split at h
  · rename_i vs
    have h' : vs[k]? = some v := by simpa using h
    simp [Instr.extract, ren, renA_map, h']
  · cases h
-- aggregates
theorem foldl_set_map (σ : Sub) (off : Nat) : ∀ (l : List (Value × Nat)) (cs : Array Value),
    (l.map fun p => (ren σ p.1, p.2)).foldl (fun cs (p : Value × Nat) => cs.setIfInBounds (off + p.2) p.1) (cs.map (ren σ)) = (l.foldl (fun cs (p : Value × Nat) => cs.setIfInBounds (off + p.2) p.1) cs).map (ren σ)
  | [], cs => rfl
  | p :: l, cs => by
    have : (cs.map (ren σ)).setIfInBounds (off + p.2) (ren σ p.1) = (cs.setIfInBounds (off + p.2) p.1).map (ren σ) := by
      cases cs with
      | mk l => simp [List.map_set]
    simp only [List.map_cons, List.foldl_cons, this]
    exact foldl_set_map σ off l _
theorem fill_ren (σ : Sub) (pl : Nat → Option (Nat × Nat)) : ∀ (ps : List (Nat × Value)) (cs : Array Value),
    Instr.fill pl (cs.map (ren σ)) (ps.map fun p => (p.1, ren σ p.2)) = (Instr.fill pl cs ps).map fun a => a.map (ren σ)
  | [], cs => by simp [Instr.fill]
  | (i, v) :: ps, cs => by
    simp only [List.map_cons, Instr.fill]
    cases hp : pl i with
    | none => rfl
    | some q =>
      obtain ⟨off, size⟩ := q
      simp only [ren_cells, Array.size_map]
      split
      · rfl
      · have hz : (v.cells.map (ren σ)).zipIdx = v.cells.zipIdx.map fun p => (ren σ p.1, p.2) := by
          rw [Array.zipIdx_map]
          rfl
        have hf : Array.foldl (fun cs (x : Value × Nat) => match x with | (c, j) => cs.setIfInBounds (off + j) c) (cs.map (ren σ)) (v.cells.map (ren σ)).zipIdx
            = (Array.foldl (fun cs (x : Value × Nat) => match x with | (c, j) => cs.setIfInBounds (off + j) c) cs v.cells.zipIdx).map (ren σ) := by
          rw [hz, ← Array.foldl_toList, ← Array.foldl_toList, Array.toList_map]
          exact foldl_set_map σ off _ _
        rw [hf]
        exact fill_ren σ pl ps _
theorem free_arr {σ : Sub} {cs : Array Value} (h : bdA 0 cs = true) : cs.map (ren σ) = cs := by
  rw [← renA_map]; exact renA_free σ cs h
def zeroFree (P : Program) (t : TypeId) : Bool :=
  match P.info? t with
  | some i => match i.zero with
    | some z => bdA 0 z.cells
    | none => false
  | none => false
theorem built_ren {P : Program} (σ : Sub) {t : TypeId} {ps : List (Nat × Value)} {cs : Array Value} (hz : zeroFree P t = true) (h : P.built t ps = some cs) :
    P.built t (ps.map fun p => (p.1, ren σ p.2)) = some (cs.map (ren σ)) := by
  unfold zeroFree at hz
  unfold Program.built at h ⊢
  cases hi : P.info? t with
  | none => rw [hi] at h; cases h
  | some it =>
    rw [hi] at h hz
    simp only at hz
    cases hu : P.underlying t with
    | none => rw [hu] at h; cases h
    | some d =>
      rw [hu] at h
      cases hzz : it.zero with
      | none => rw [hzz] at hz; cases hz
      | some z =>
        rw [hzz] at hz
        simp only at hz
        have hfr : z.cells.map (ren σ) = z.cells := free_arr hz
        cases d with
        | array n e =>
          simp only [hzz] at h ⊢
          cases hie : P.info? e with
          | none => rw [hie] at h; cases h
          | some ie =>
            rw [hie] at h
            simp only at h ⊢
            have := fill_ren σ (fun i => some (i * ie.size, ie.size)) ps z.cells
            rw [hfr, h] at this
            exact this
        | struct fields =>
          simp only [hzz] at h ⊢
          cases hpl : fields.toList.mapM (fun f => (P.info? f.type).map fun i => (f.offset, i.size)) with
          | none => rw [hpl] at h; cases h
          | some places =>
            rw [hpl] at h
            simp only at h ⊢
            have := fill_ren σ (places.toArray[·]?) ps z.cells
            rw [hfr, h] at this
            exact this
        | _ => cases h
def evBuild (P : Program) (t : TypeId) (ps : List (Nat × Value)) : Option Value :=
  bif zeroFree P t then (P.built t ps).map .agg else none
theorem build_does {P : Program} {σ : Sub} {s : Hs} {w : World} {t : TypeId} {ps : Array (Nat × Value)} {v : Value} (h : evBuild P t ps.toList = some v) (hr : Rel P σ s w) (ok : s.Ok) :
    Does P σ s w (do pure (.value (← Instr.build t (ps.map fun p => (p.1, ren σ p.2))))) v s := by
  refine Does.plain hr ok ?_
  unfold evBuild at h
  cases hz : zeroFree P t with
  | false => rw [hz] at h; cases h
  | true =>
    rw [hz] at h
    simp only [cond_true, Option.map_eq_some_iff] at h
    obtain ⟨cs, hb, rfl⟩ := h
    have := built_ren σ hz hb
    rw [run_build w t _ (cs.map (ren σ)) (by rw [Array.toList_map]; exact this)]
    simp [ren, renA_map]
-- slices
def evBuildSlice (P : Program) (s : Hs) (t : TypeId) (len : Nat) (ps : List (Nat × Value)) : Option (Value × Hs) :=
  match P.underlying t with
  | some (.slice e) =>
    match P.info? e with
    | some ie =>
      match ie.zero with
      | some z =>
        bif zeroFree P e && Nat.blt 0 (len * ie.size) && Nat.ble (len * ie.size) 16777216 && Nat.blt 0 z.cells.size then
          match Instr.fill (fun i => some (i * ie.size, ie.size)) ((Array.range (len * ie.size)).map (z.cells[· % z.cells.size]!)) ps with
          | some cells =>
            bif Nat.blt len bigCap then
            match evNew s cells.toList e with
            | some (_, s') => some (.slice (some ⟨s.n, 0, none⟩) len len, s')
            | none => none
            else none
          | none => none
        else bif Nat.beq (len * ie.size) 0 && ps.isEmpty && Nat.blt len bigCap then
          match evNew s [] e with
          | some (_, s') => some (.slice (some ⟨s.n, 0, none⟩) len len, s')
          | none => none
        else none
      | none => none
    | none => none
  | _ => none
theorem made_free {σ : Sub} {z : Array Value} (h : bdA 0 z = true) (n : Nat) (hp : 0 < z.size) : ((Array.range n).map (z[· % z.size]!)).map (ren σ) = (Array.range n).map (z[· % z.size]!) := by
  rw [Array.map_map]
  apply Array.map_congr_left
  intro i _
  have hlt : i % z.size < z.size := Nat.mod_lt _ hp
  simp only [Function.comp]
  refine ren_free σ _ ?_
  have := (bdA_iff 0 z).1 h (z[i % z.size]!) (by simp [hlt])
  exact this
end Go.Proofs.Ytdfabagclnjoaaa
