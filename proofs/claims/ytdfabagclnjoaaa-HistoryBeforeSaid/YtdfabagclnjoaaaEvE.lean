import Derived.Test.YtdfabagclnjoaaaEvD
import Derived.Maps.AppendAt
namespace Go.Proofs.Ytdfabagclnjoaaa
set_option linter.unusedSimpArgs false
set_option linter.unusedVariables false
open Go
theorem cap_small {σ : Sub} {i c : Nat} (h : c < bigCap) : σ.cap i c = c := by unfold Sub.cap; rw [if_pos h]
theorem cap_big {σ : Sub} {i : Nat} : σ.cap i (2 * bigCap) = σ.c i := by
  have : ¬ 2 * bigCap < bigCap := by decide
  unfold Sub.cap; rw [if_neg this]; omega
theorem cap_grown {σ : Sub} {i c : Nat} (h : bigCap ≤ c) : σ.cap i c = σ.c i - (2 * bigCap - c) := by unfold Sub.cap; rw [if_neg (by omega)]
theorem bigCap_le : bigCap ≤ 9223372036854775807 := by decide
theorem evNew_val {s s' : Hs} {c : List Value} {e : TypeId} {v : Value} (h : evNew s c e = some (v, s')) : v = .pointer (some ⟨s.n, 0, none⟩) := by
  unfold evNew at h
  cases hc : (Nat.blt s.n (2 ^ HD) && bdL s.n c) with
  | false => rw [hc] at h; cases h
  | true =>
    rw [hc] at h
    simp only [cond_true, Option.some.injEq, Prod.mk.injEq] at h
    exact h.1.symm
theorem zeroFree_some {P : Program} {e : TypeId} {ie : TypeInfo} {z : Value} (h : zeroFree P e = true) (hi : P.info? e = some ie) (hz : ie.zero = some z) : bdA 0 z.cells = true := by
  unfold zeroFree at h
  rw [hi] at h
  simp only [hz] at h
  exact h
theorem alloc_cells (w : World) (a : Array Value) (e : TypeId) : w.alloc (.cells a e) = { w with heap := w.heap.push (.cells a e (0, 0)) } := rfl
theorem map_toList {f : Value → Value} (a : Array Value) : a.map f = (a.toList.map f).toArray := by cases a; simp
/-- A new row. -/
theorem row_does {P : Program} {σ : Sub} {s s' : Hs} {w : World} {c : List Value} {e : TypeId} {u : Value} {len : Nat} (h : evNew s c e = some (u, s')) (hr : Rel P σ s w) (ok : s.Ok) (hb : len < bigCap) (l : Nat) {x : Sem Value}
    (hx : x.run P w = .ok (.slice (some ⟨w.heap.size, 0, none⟩) l len) { w with heap := w.heap.push (.cells (c.map (ren σ)).toArray e (0, 0)) }) :
    Does P σ s w (do pure (.value (← x))) (.slice (some ⟨s.n, 0, none⟩) l len) s' := by
  have hv := evNew_val h
  obtain ⟨σ', w', ha, rfl, hv'⟩ := evNew_ok h hr ok
  refine Does.value ha ?_
  rw [hx]
  subst hv
  simp only [ren, Value.pointer.injEq, Option.some.injEq, Addr.mk.injEq] at hv'
  simp [ren, hv', cap_small hb]
theorem buildSlice_does {P : Program} {σ : Sub} {s s' : Hs} {w : World} {t : TypeId} {len : Nat} {ps : Array (Nat × Value)} {v : Value} (h : evBuildSlice P s t len ps.toList = some (v, s')) (hr : Rel P σ s w) (ok : s.Ok) :
    Does P σ s w (do pure (.value (← Instr.buildSlice t len (ps.map fun p => (p.1, ren σ p.2))))) v s' := by
  unfold evBuildSlice at h
  split at h
  · rename_i e hu
    split at h
    · rename_i ie hi
      split at h
      · rename_i z hz
        cases hc : (zeroFree P e && Nat.blt 0 (len * ie.size) && Nat.ble (len * ie.size) 16777216 && Nat.blt 0 z.cells.size) with
        | false =>
          rw [hc] at h
          simp only [cond_false] at h
          cases hd : (Nat.beq (len * ie.size) 0 && ps.toList.isEmpty && Nat.blt len bigCap) with
          | false => rw [hd] at h; cases h
          | true =>
            rw [hd] at h
            simp only [cond_true] at h
            simp only [Bool.and_eq_true, Nat.blt_eq] at hd
            obtain ⟨⟨d1, d2⟩, d3⟩ := hd
            have d1' := Nat.eq_of_beq_eq_true d1
            have d2' : ps = #[] := by
              have := List.isEmpty_iff.1 d2
              simpa using this
            subst d2'
            split at h
            · rename_i u s2 hn
              simp only [Option.some.injEq, Prod.mk.injEq] at h
              obtain ⟨rfl, rfl⟩ := h
              refine row_does hn hr ok d3 len ?_
              have hru : (Instr.buildSlice t len ((#[] : Array (Nat × Value)).map fun p => (p.1, ren σ p.2))).run P w = .ok (.slice (some ⟨w.heap.size, 0, none⟩) len len) (w.alloc (.cells #[] e)) := by
                simp [Instr.buildSlice, run_underlying hu, sizeOf, typeInfo, hi, d1', Instr.fill, newRow]
                rw [show Array.range 0 = #[] from Array.eq_empty_of_size_eq_zero (by simp), Array.map_empty]
              rw [hru, alloc_cells]
              rfl
            · cases h
        | true =>
          rw [hc] at h
          simp only [cond_true] at h
          simp only [Bool.and_eq_true, Nat.blt_eq, Nat.ble_eq] at hc
          obtain ⟨⟨⟨c1, c2⟩, c3⟩, c4⟩ := hc
          split at h
          · rename_i cells hf
            cases hb : Nat.blt len bigCap with
            | false => rw [hb] at h; cases h
            | true =>
              rw [hb] at h
              rw [Nat.blt_eq] at hb
              simp only [cond_true] at h
              split at h
              · rename_i u s2 hn
                simp only [Option.some.injEq, Prod.mk.injEq] at h
                obtain ⟨rfl, rfl⟩ := h
                refine row_does hn hr ok hb len ?_
                have hzf := zeroFree_some c1 hi hz
                have hfr := fill_ren σ (fun i => some (i * ie.size, ie.size)) ps.toList ((Array.range (len * ie.size)).map (z.cells[· % z.cells.size]!))
                rw [made_free hzf _ c4, hf] at hfr
                rw [run_buildSlice w t e len _ (cells.map (ren σ)) ie z hu hi hz (by omega) (by omega) (by rw [Array.toList_map]; exact hfr), alloc_cells, map_toList]
              · cases h
          · cases h
      · cases h
    · cases h
  · cases h
def evMakeSlice (P : Program) (s : Hs) (t : TypeId) (l c : Value) : Option (Value × Hs) :=
  match P.underlying t, natOf l, natOf c with
  | some (.slice e), some l, some c =>
    match P.info? e with
    | some ie =>
      match ie.zero with
      | some z =>
        bif zeroFree P e && Nat.ble l c && Nat.blt 0 z.cells.size && Nat.ble (ie.bytes * c) 281474976710656 && Nat.blt c bigCap then
          match evNew s (madeCells z.cells (c * ie.size)).toList e with
          | some (_, s') => some (.slice (some ⟨s.n, 0, none⟩) l c, s')
          | none => none
        else none
      | none => none
    | none => none
  | _, _, _ => none
theorem makeSlice_does {P : Program} {σ : Sub} {s s' : Hs} {w : World} {t : TypeId} {l c v : Value} (h : evMakeSlice P s t l c = some (v, s')) (hr : Rel P σ s w) (ok : s.Ok) :
    Does P σ s w (do pure (.value (← Instr.makeSlice t (ren σ l) (ren σ c)))) v s' := by
  unfold evMakeSlice at h
  split at h
  · rename_i e l' c' hu hl hc
    obtain ⟨kl, rfl⟩ := natOf_some hl
    obtain ⟨kc, rfl⟩ := natOf_some hc
    split at h
    · rename_i ie hi
      split at h
      · rename_i z hz
        cases hcc : (zeroFree P e && Nat.ble l' c' && Nat.blt 0 z.cells.size && Nat.ble (ie.bytes * c') 281474976710656 && Nat.blt c' bigCap) with
        | false => rw [hcc] at h; cases h
        | true =>
          rw [hcc] at h
          simp only [cond_true] at h
          simp only [Bool.and_eq_true, Nat.blt_eq, Nat.ble_eq] at hcc
          obtain ⟨⟨⟨⟨c1, c2⟩, c3⟩, c4⟩, c5⟩ := hcc
          split at h
          · rename_i u s2 hn
            simp only [Option.some.injEq, Prod.mk.injEq] at h
            obtain ⟨rfl, rfl⟩ := h
            refine row_does hn hr ok c5 l' ?_
            have c4i : (ie.bytes : Int) * (c' : Int) ≤ 281474976710656 := by
              have h1 : ((ie.bytes * c' : Nat) : Int) = (ie.bytes : Int) * (c' : Int) := Int.natCast_mul _ _
              rw [← h1]; omega
            have hm := run_make (P := P) w t e ie z hu hi hz kl kc (l' : Int) (c' : Int) (by omega) (by omega) c4i (by have := bigCap_le; omega)
            simp only [ren]
            rw [hm]
            have hfr := made_free (σ := σ) (zeroFree_some c1 hi hz) (c' * ie.size) c3
            have hfl : (madeCells z.cells (c' * ie.size)) = ((madeCells z.cells (c' * ie.size)).toList.map (ren σ)).toArray := by
              rw [← map_toList]; exact hfr.symm
            rw [alloc_cells, Int.toNat_natCast, Int.toNat_natCast, ← hfl]
          · cases h
      · cases h
    · cases h
  · cases h
end Go.Proofs.Ytdfabagclnjoaaa
