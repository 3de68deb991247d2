import Derived.Test.YtdfabagclnjoaaaEvB
namespace Go.Proofs.Ytdfabagclnjoaaa
set_option linter.unusedSimpArgs false
set_option linter.unusedVariables false
open Go
def pureRun {α : Type} (P : Program) : Sem α → Option α
  | .pure a => some a
  | .program k => pureRun P (k P)
  | .mark _ k => pureRun P k
  | _ => none
theorem pureRun_run {α : Type} {P : Program} : ∀ {x : Sem α} {a : α}, pureRun P x = some a → ∀ w, x.run P w = .ok a w
  | .pure b, a, h, w => by simp [pureRun] at h; subst h; rfl
  | .program k, a, h, w => by simp only [pureRun] at h; simp only [Sem.run]; exact pureRun_run h w
  | .mark m k, a, h, w => by simp only [pureRun] at h; simp only [Sem.run]; exact pureRun_run h w
/-- What an operation comes to. -/
def Fits (v : Value) : Next → Prop
  | .value u => u = v
  | .skip => v = undef
  | _ => False
/-- An operation that is reckoned. -/
def Does (P : Program) (σ : Sub) (s : Hs) (w : World) (x : Sem Next) (v : Value) (s' : Hs) : Prop :=
  ∃ σ' w' nx, Aft P σ s w σ' s' w' ∧ x.run P w = .ok nx w' ∧ Fits (ren σ' v) nx
theorem Does.value {P : Program} {σ σ' : Sub} {s s' : Hs} {w w' : World} {x : Sem Value} {v : Value} (ha : Aft P σ s w σ' s' w') (h : x.run P w = .ok (ren σ' v) w') :
    Does P σ s w (do pure (.value (← x))) v s' :=
  ⟨σ', w', .value (ren σ' v), ha, by simp [h], rfl⟩
theorem Does.plain {P : Program} {σ : Sub} {s : Hs} {w : World} (h : Rel P σ s w) (ok : s.Ok) {x : Sem Value} {v : Value} (hx : x.run P w = .ok (ren σ v) w) :
    Does P σ s w (do pure (.value (← x))) v s := Does.value (Aft.refl h ok) hx
theorem Does.skip {P : Program} {σ σ' : Sub} {s s' : Hs} {w w' : World} {x : Sem Unit} (ha : Aft P σ s w σ' s' w') (h : x.run P w = .ok () w') :
    Does P σ s w (do x; pure .skip) undef s' :=
  ⟨σ', w', .skip, ha, by simp [h], by simp [Fits, ren_undef]⟩
def isAggD : TypeDesc → Bool
  | .struct _ | .array _ _ => true
  | _ => false
theorem run_und {P : Program} {t : TypeId} {d : TypeDesc} (h : P.underlying t = some d) (w : World) : (underlying t).run P w = .ok d w := run_underlying h w
theorem run_size {P : Program} {t : TypeId} {i : TypeInfo} (h : P.info? t = some i) (w : World) : (sizeOf t).run P w = .ok i.size w := by
  simp [sizeOf, typeInfo, h]
theorem run_info {P : Program} {t : TypeId} {i : TypeInfo} (h : P.info? t = some i) (w : World) : (typeInfo t).run P w = .ok i w := by
  simp [typeInfo, h]
theorem run_isAggD {P : Program} {t : TypeId} {d : TypeDesc} (h : P.underlying t = some d) (w : World) : (isAgg t).run P w = .ok (isAggD d) w := by
  unfold isAgg
  simp only [Sem.run_bind, run_underlying h, Result.andThen_ok]
  cases d <;> rfl
theorem run_zero {P : Program} {t : TypeId} {i : TypeInfo} {z : Value} (h : P.info? t = some i) (hz : i.zero = some z) (w : World) : (zeroValue t).run P w = .ok z w := by
  simp [zeroValue, typeInfo, h, hz]
/-- A new block. -/
def evNew (s : Hs) (c : List Value) (e : TypeId) : Option (Value × Hs) :=
  bif Nat.blt s.n (2 ^ HD) && bdL s.n c then some (.pointer (some ⟨s.n, 0, none⟩), ⟨s.n + 1, tset HD s.h s.n (.cells c e .fixed), s.wr⟩) else none
theorem evNew_ok {P : Program} {σ : Sub} {s s' : Hs} {w : World} {c : List Value} {e : TypeId} {v : Value} (h : evNew s c e = some (v, s')) (hr : Rel P σ s w) (ok : s.Ok) :
    ∃ σ' w', Aft P σ s w σ' s' w' ∧ w' = { w with heap := w.heap.push (.cells (c.map (ren σ)).toArray e (0, 0)) } ∧ ren σ' v = .pointer (some ⟨w.heap.size, 0, none⟩) := by
  unfold evNew at h
  cases hc : (Nat.blt s.n (2 ^ HD) && bdL s.n c) with
  | false => rw [hc] at h; cases h
  | true =>
    rw [hc] at h
    simp only [Bool.and_eq_true, Nat.blt_eq] at hc
    simp only [cond_true, Option.some.injEq, Prod.mk.injEq] at h
    obtain ⟨rfl, rfl⟩ := h
    obtain ⟨σ', h1, h2, ha⟩ := Aft.new hr ok c e .fixed [] 0 hc.2 hc.1 (fun _ => rfl) (by simp)
    exact ⟨σ', _, ha, by simp, by simp [ren, h1]⟩
theorem Does.newVar {P : Program} {σ : Sub} {s s' : Hs} {w : World} {c : List Value} {e : TypeId} {v : Value} (h : evNew s c e = some (v, s')) (hr : Rel P σ s w) (ok : s.Ok) {u : Value} (hu : u.cells.toList = c.map (ren σ)) {x : Sem Value}
    (hx : x.run P w = .ok (.pointer (some ⟨w.heap.size, 0, none⟩)) { w with heap := w.heap.push (.cells u.cells e (0, 0)) }) :
    Does P σ s w (do pure (.value (← x))) v s' := by
  obtain ⟨σ', w', ha, rfl, hv⟩ := evNew_ok h hr ok
  refine Does.value ha ?_
  rw [hx, hv, ← hu]
-- the operations on memory
def evLoad (P : Program) (s : Hs) (t : TypeId) : Value → Option Value
  | .pointer (some ⟨i, off, none⟩) =>
    match s.get i, P.underlying t, P.info? t with
    | some (.cells c _ _), some d, some ti =>
      bif isAggD d then (let l := (c.drop off).take ti.size; bif Nat.beq l.length ti.size then some (.agg ⟨l⟩) else none) else c[off]?
    | _, _, _ => none
  | _ => none
theorem cell_of {w : World} {b k : Nat} {l : List Value} {e : TypeId} {fr : Nat × Nat} (h : w.heap[b]? = some (.cells l.toArray e fr)) : w.cell? ⟨b, k, none⟩ = l[k]? := by
  simp [World.cell?, h]
theorem add_none (b o k : Nat) : (⟨b, o, none⟩ : Addr).add k = ⟨b, o + k, none⟩ := by
  unfold Addr.add; split <;> simp_all
theorem loadAt_run {P : Program} {σ : Sub} {s : Hs} {w : World} {t : TypeId} {a v : Value} (h : evLoad P s t a = some v) (hr : Rel P σ s w) (ok : s.Ok) : (Instr.loadAt t (ren σ a)).run P w = .ok (ren σ v) w := by
  unfold evLoad at h
  split at h
  · rename_i i off
    split at h
    · rename_i c e g d ti hg hd hi
      obtain ⟨tail, ty, fr, h1, _, _, _⟩ := hr.at_ i _ hg
      simp only [Instr.loadAt, ren, Instr.sureAddr, Sem.run_bind, Sem.run_pure, Result.andThen_ok, loadVar, run_isAggD hd, run_size hi]
      cases hA : isAggD d with
      | true =>
        rw [hA] at h
        simp only [cond_true] at h
        cases hl : Nat.beq ((c.drop off).take ti.size).length ti.size with
        | false => rw [hl] at h; cases h
        | true =>
          rw [hl] at h
          simp only [cond_true, Option.some.injEq] at h
          subst h
          have hl' : ((c.drop off).take ti.size).length = ti.size := Nat.eq_of_beq_eq_true hl
          have hlen := run_loadCells_list (P := P) w ⟨σ.b i, off, none⟩ (((c.drop off).take ti.size).map (ren σ)) (fun j u hj => by
            rw [add_none, cell_of h1]
            have hj' : j < ((c.drop off).take ti.size).length := by
              rcases Nat.lt_or_ge j ((c.drop off).take ti.size).length with hlt | hge
              · exact hlt
              · rw [List.getElem?_eq_none (by simpa using hge)] at hj; cases hj
            have hjt : j < ti.size := by omega
            have hjc : off + j < c.length := by simp at hj'; omega
            rw [List.getElem?_append_left (by simpa using hjc)]
            rw [← hj]
            simp [List.getElem?_take, hjt, List.getElem?_drop])
          simp only [if_true, Sem.run_bind, run_size hi, Result.andThen_ok]
          rw [List.length_map, hl'] at hlen
          rw [hlen]
          simp [ren, renA, renL_map]
      | false =>
        rw [hA] at h
        simp only [cond_false] at h
        have hc : w.cell? ⟨σ.b i, off, none⟩ = some (ren σ v) := by
          rw [cell_of h1]
          have hlt : off < c.length := by
            rcases Nat.lt_or_ge off c.length with hlt | hge
            · exact hlt
            · rw [List.getElem?_eq_none hge] at h; cases h
          rw [List.getElem?_append_left (by simpa using hlt), List.getElem?_map, h]
          rfl
        simp [hc]
    · cases h
  · cases h
theorem load_does {P : Program} {σ : Sub} {s : Hs} {w : World} {t : TypeId} {a v : Value} (h : evLoad P s t a = some v) (hr : Rel P σ s w) (ok : s.Ok) :
    Does P σ s w (do pure (.value (← Instr.loadAt t (ren σ a)))) v s := Does.plain hr ok (loadAt_run h hr ok)
def evStore (P : Program) (s : Hs) (t : TypeId) (x : Value) : Value → Option Hs
  | .pointer (some ⟨i, off, none⟩) =>
    match s.get i, P.info? t with
    | some (.cells c e g), some ti =>
      let vs := x.cells.toList
      bif Nat.beq vs.length ti.size && Nat.ble (off + vs.length) c.length && vs.all (·.oneCell') && bdL s.n vs && g.w then
        some ⟨s.n, tset HD s.h i (.cells (c.take off ++ vs ++ c.drop (off + vs.length)) e g), s.wr ||| 1 <<< i⟩ else none
    | _, _ => none
  | _ => none
theorem oneCell_ren (σ : Sub) (v : Value) : (ren σ v).oneCell' = v.oneCell' := by
  cases v with
  | pointer a => cases a <;> simp [ren, Value.oneCell']
  | slice a _ _ => cases a <;> simp [ren, Value.oneCell']
  | map a => cases a <;> simp [ren, Value.oneCell']
  | _ => simp [ren, Value.oneCell']
theorem setRow_rest (w : World) (g : Nat) (cs : Array Value) : (w.setRow g cs).heap.size = w.heap.size ∧ (w.setRow g cs).os = w.os ∧ (w.setRow g cs).tape = w.tape ∧ (w.setRow g cs).output = w.output := ⟨size_setRow _ _ _, rfl, rfl, rfl⟩
/-- Cells that are written into a block. -/
theorem put_cells {P : Program} {σ : Sub} {s : Hs} {w : World} (hr : Rel P σ s w) (ok : s.Ok) {i : Nat} {c : List Value} {e : TypeId} {g : Gr} (hg : s.get i = some (.cells c e g)) (hgw : g.w = true) (off : Nat) (vs : List Value)
    (hl : off + vs.length ≤ c.length) (h1 : ∀ v ∈ vs, v.oneCell' = true) (hb : bdL s.n vs = true) :
    ∃ w', Aft P σ s w σ ⟨s.n, tset HD s.h i (.cells (c.take off ++ vs ++ c.drop (off + vs.length)) e g), s.wr ||| 1 <<< i⟩ w' ∧ (storeCells ⟨σ.b i, off, none⟩ (vs.map (ren σ))).run P w = .ok () w' := by
  obtain ⟨tail, ty, fr, k1, k0, _, _⟩ := hr.at_ i _ hg
  obtain ⟨rfl, rfl⟩ := k0 (Gr.w_ne hgw)
  have hrun := run_storeCells_at (P := P) (σ.b i) off ty (vs.map (ren σ)) 0 _ w k1 (by simp; omega) (fun v hv => by
    obtain ⟨u, hu, rfl⟩ := List.mem_map.1 hv
    rw [oneCell_ren]; exact h1 u hu)
  refine ⟨_, ?_, hrun⟩
  obtain ⟨r1, r2, r3, r4⟩ := setRow_rest w (σ.b i) ((c.map (ren σ) ++ tail).toArray.toList.take (off + 0) ++ vs.map (ren σ) ++ (c.map (ren σ) ++ tail).toArray.toList.drop (off + 0 + (vs.map (ren σ)).length)).toArray
  refine Aft.put hr ok hg _ (by simp; omega) ?_ _ tail k1 ?_ (fun b hb => setRow_other _ _ _ _ hb) r1 r2 r3 r4
  · rw [bdL_iff] at hb ⊢
    have hc := (bdL_iff _ _).1 (ok.bd i _ hg).2
    intro v hv
    simp only [List.mem_append] at hv
    rcases hv with (hv | hv) | hv
    · exact hc v (List.mem_of_mem_take hv)
    · exact hb v hv
    · exact hc v (List.mem_of_mem_drop hv)
  · rw [setRow_heap _ _ _ _ _ _ k1]
    congr 3
    have e1 : (c.map (ren σ) ++ tail).take off = (c.take off).map (ren σ) := by
      rw [List.take_append_of_le_length (by simp; omega), List.map_take]
    have e2 : (c.map (ren σ) ++ tail).drop (off + vs.length) = (c.drop (off + vs.length)).map (ren σ) ++ tail := by
      rw [List.drop_append_of_le_length (by simp; omega), List.map_drop]
    simp [e1, e2]
theorem store_does {P : Program} {σ : Sub} {s s' : Hs} {w : World} {t : TypeId} {a x : Value} (h : evStore P s t x a = some s') (hr : Rel P σ s w) (ok : s.Ok) :
    Does P σ s w (do Instr.storeAt t (ren σ a) (ren σ x); pure .skip) undef s' := by
  unfold evStore at h
  split at h
  · rename_i i off
    split at h
    · rename_i c e g ti hg hi
      simp only at h
      cases hc : (Nat.beq x.cells.toList.length ti.size && Nat.ble (off + x.cells.toList.length) c.length && x.cells.toList.all (·.oneCell') && bdL s.n x.cells.toList && g.w) with
      | false => rw [hc] at h; cases h
      | true =>
        rw [hc] at h
        simp only [Bool.and_eq_true, Nat.ble_eq] at hc
        obtain ⟨⟨⟨⟨c1, c2⟩, c3⟩, c4⟩, c5⟩ := hc
        have c1' := Nat.eq_of_beq_eq_true c1
        simp only [cond_true, Option.some.injEq] at h
        subst h
        obtain ⟨w', ha, hrun⟩ := put_cells hr ok hg c5 off x.cells.toList c2 (fun v hv => List.all_eq_true.1 c3 v hv) c4
        refine Does.skip ha ?_
        simp only [Instr.storeAt, ren, Instr.sureAddr, Sem.run_bind, Sem.run_pure, Result.andThen_ok, storeVar, run_size hi, ren_cells, Array.size_map]
        have hz : x.cells.size = ti.size := by simpa using c1'
        simp only [hz, ne_eq, not_true_eq_false, if_false]
        have : (x.cells.map (ren σ)).toList = x.cells.toList.map (ren σ) := by simp
        simp [this, hrun]
    · cases h
  · cases h
end Go.Proofs.Ytdfabagclnjoaaa
