import Derived.Test.YtdfabagclnjoaaaEvE
namespace Go.Proofs.Ytdfabagclnjoaaa
set_option linter.unusedSimpArgs false
set_option linter.unusedVariables false
open Go
-- a part of a slice: 's[l:h]', 's[l:h:m]', where the bounds lie within its length
def evSliceB (lo hi mx : Option Value) (len top : Nat) : Option (Nat × Nat × Option Nat) :=
  match (match lo with | none => some 0 | some v => natOf v), (match hi with | none => some len | some v => natOf v), mx with
  | some l, some h, none => bif Nat.ble l h && Nat.ble h top then some (l, h, none) else none
  | some l, some h, some v =>
    match hi, natOf v with
    | some _, some m => bif Nat.ble l h && Nat.ble h m && Nat.ble m top then some (l, h, some m) else none
    | _, _ => none
  | _, _, _ => none
def evSlice (P : Program) (s : Hs) (t : TypeId) (x : Value) (lo hi mx : Option Value) : Option Value :=
  match P.underlying t, x with
  | some (.slice e), .slice (some ⟨i, off, none⟩) len cap =>
    match P.info? e, s.get i with
    | some ie, some (.cells c e2 g) =>
      let top := bif Nat.blt cap bigCap then cap else c.length / ie.size - (2 * bigCap - cap)
      match evSliceB lo hi mx len top with
      | some (l, h, m) =>
        bif Nat.blt cap bigCap then
          -- a row of a room that is known
          bif Nat.ble len cap then
            match m with
            | none => some (.slice (some (bif Nat.beq cap l then ⟨i, off, none⟩ else ⟨i, off + l * ie.size, none⟩)) (h - l) (cap - l))
            | some m => some (.slice (some (bif Nat.beq m l then ⟨i, off, none⟩ else ⟨i, off + l * ie.size, none⟩)) (h - l) (m - l))
          else none
        else
          -- a row that grew: all of it
          bif Nat.blt bigCap cap && Nat.ble cap (2 * bigCap) && Nat.beq off ((2 * bigCap - cap) * ie.size) && g.isGrown && Nat.blt 0 ie.size && Nat.ble ((2 * bigCap - cap + len) * ie.size) c.length && Nat.beq e2 e then
            match m with
            | none => bif Nat.beq l 0 then some (.slice (some ⟨i, off, none⟩) h cap) else
              bif Nat.ble bigCap (cap - l) then
                bif Nat.blt l top then some (.slice (some ⟨i, off + l * ie.size, none⟩) (h - l) (cap - l)) else some (.slice (some ⟨i, off + l * ie.size, some off⟩) (h - l) (cap - l))
              else none
            | some m => bif Nat.blt m bigCap then some (.slice (some (bif Nat.beq m l then ⟨i, off, none⟩ else ⟨i, off + l * ie.size, none⟩)) (h - l) (m - l)) else none
          else none
      | none => none
    | _, _ => none
  | some (.array n e), .pointer (some ⟨i, off, none⟩) =>
    match evSliceB lo hi mx n n, P.info? e with
    | some (l, h, m), some ie =>
      bif Nat.blt n bigCap then some (.slice (some (bif Nat.beq (m.getD n) l then ⟨i, off, none⟩ else ⟨i, off + l * ie.size, none⟩)) (h - l) (m.getD n - l)) else none
    | _, _ => none
  | _, _ => none
theorem cap_zero {σ : Sub} {i : Nat} : σ.cap i 0 = 0 := cap_small (by decide)
theorem run_bound {P : Program} {k : IntKind} {n y : Nat} {code : BoundsCode} {w : World} (h : n ≤ y) : (Instr.sliceBound (.int k (n : Int)) y code).run P w = .ok n w := by
  have h1 : (0 : Int) ≤ (n : Int) ∧ (n : Int) ≤ (y : Int) := by omega
  simp [Instr.sliceBound, asIntOf, h]
theorem ren_nat {σ : Sub} {k : IntKind} {n : Int} : ren σ (.int k n) = .int k n := by simp [ren]
theorem bounds_run {P : Program} {σ : Sub} {lo hi mx : Option Value} {len top cap l h : Nat} {m : Option Nat} {w : World} (hb : evSliceB lo hi mx len top = some (l, h, m)) (hc : top ≤ cap) (b : Bool) :
    (Instr.sliceBounds b len cap (lo.map (ren σ)) (hi.map (ren σ)) (mx.map (ren σ))).run P w = .ok (l, h, m.getD cap) w ∧ l ≤ h ∧ h ≤ top ∧ (∀ m', m = some m' → h ≤ m' ∧ m' ≤ top) := by
  unfold evSliceB at hb
  split at hb
  · rename_i l' h' hl hh
    cases hcc : (Nat.ble l' h' && Nat.ble h' top) with
    | false => rw [hcc] at hb; cases hb
    | true =>
      rw [hcc] at hb
      simp only [Bool.and_eq_true, Nat.ble_eq] at hcc
      obtain ⟨c1, c2⟩ := hcc
      simp only [cond_true, Option.some.injEq, Prod.mk.injEq] at hb
      obtain ⟨rfl, rfl, rfl⟩ := hb
      refine ⟨?_, c1, c2, fun m' hm => by cases hm⟩
      cases lo with
      | none =>
        simp only [Option.some.injEq] at hl; subst hl
        cases hi with
        | none => simp only [Option.some.injEq] at hh; subst hh; simp [Instr.sliceBounds]
        | some v =>
          obtain ⟨k, rfl⟩ := natOf_some hh
          simp [Instr.sliceBounds, ren_nat, run_bound (P := P) (Nat.le_trans c2 hc)]
      | some u =>
        obtain ⟨k2, rfl⟩ := natOf_some hl
        cases hi with
        | none => simp only [Option.some.injEq] at hh; subst hh; simp [Instr.sliceBounds, ren_nat, run_bound (P := P) c1]
        | some v =>
          obtain ⟨k, rfl⟩ := natOf_some hh
          simp [Instr.sliceBounds, ren_nat, run_bound (P := P) (Nat.le_trans c2 hc), run_bound (P := P) c1]
  · rename_i l' h' v hl hh
    split at hb
    · rename_i v2 m2 hm
      cases hcc : (Nat.ble l' h' && Nat.ble h' m2 && Nat.ble m2 top) with
      | false => rw [hcc] at hb; cases hb
      | true =>
        rw [hcc] at hb
        simp only [Bool.and_eq_true, Nat.ble_eq] at hcc
        obtain ⟨⟨c1, c2⟩, c3⟩ := hcc
        simp only [cond_true, Option.some.injEq, Prod.mk.injEq] at hb
        obtain ⟨rfl, rfl, rfl⟩ := hb
        obtain ⟨km, rfl⟩ := natOf_some hm
        refine ⟨?_, c1, by omega, fun m' hm => by cases hm; exact ⟨c2, c3⟩⟩
        simp only at hh
        obtain ⟨k, rfl⟩ := natOf_some hh
        cases lo with
        | none =>
          simp only [Option.some.injEq] at hl; subst hl
          simp [Instr.sliceBounds, ren_nat, run_bound (P := P) (Nat.le_trans c3 hc), run_bound (P := P) c2]
        | some u =>
          obtain ⟨k2, rfl⟩ := natOf_some hl
          simp [Instr.sliceBounds, ren_nat, run_bound (P := P) (Nat.le_trans c3 hc), run_bound (P := P) c2, run_bound (P := P) c1]
    · cases hb
  · cases hb
theorem slice_does {P : Program} {σ : Sub} {s : Hs} {w : World} {t : TypeId} {x v : Value} {lo hi mx : Option Value} (h : evSlice P s t x lo hi mx = some v) (hr : Rel P σ s w) (ok : s.Ok) :
    Does P σ s w (do pure (.value (← Instr.sliceAt t (ren σ x) (lo.map (ren σ)) (hi.map (ren σ)) (mx.map (ren σ))))) v s := by
  refine Does.plain hr ok ?_
  unfold evSlice at h
  split at h
  · rename_i e i off len cap hu
    split at h
    · rename_i ie c e2 g hi2 hg
      dsimp only at h
      generalize htop : (bif Nat.blt cap bigCap then cap else c.length / ie.size - (2 * bigCap - cap)) = top at h
      split at h
      · rename_i l hh m hb
        have hrun : ∀ rc, top ≤ rc → (Instr.sliceAt t (.slice (some ⟨σ.b i, off, none⟩) len rc) (lo.map (ren σ)) (hi.map (ren σ)) (mx.map (ren σ))).run P w
            = .ok (.slice (some (if m.getD rc = l then ⟨σ.b i, off, none⟩ else ⟨σ.b i, off + l * ie.size, none⟩)) (hh - l) (m.getD rc - l)) w := by
          intro rc hrc
          obtain ⟨k1, k2, k3, k4⟩ := bounds_run (P := P) (σ := σ) (w := w) hb hrc true
          simp only [Instr.sliceAt, Sem.run_bind, run_underlying hu, Result.andThen_ok, Instr.slice, k1, run_size hi2, Sem.run_pure]
          congr 2
          split <;> simp [add_none]
        obtain ⟨k1, k2, k3, k4⟩ := bounds_run (P := P) (σ := σ) (w := w) hb (Nat.le_refl top) true
        cases hcb : Nat.blt cap bigCap with
        | true =>
          rw [hcb] at h htop
          simp only [cond_true] at h htop
          subst htop
          rw [Nat.blt_eq] at hcb
          cases hlc : Nat.ble len cap with
          | false => rw [hlc] at h; cases h
          | true =>
            rw [hlc] at h
            simp only [cond_true] at h
            simp only [ren, renOff_none, cap_small hcb]
            rw [hrun cap (Nat.le_refl _)]
            cases m with
            | none =>
              simp only [Option.some.injEq] at h
              subst h
              simp only [Option.getD_none]
              cases hbq : Nat.beq cap l with
              | true =>
                have := Nat.eq_of_beq_eq_true hbq
                simp [this, ren, cap_zero]
              | false =>
                have hne : cap ≠ l := fun he => by rw [he, Nat.beq_refl] at hbq; cases hbq
                simp [hne, ren, cap_small (σ := σ) (show cap - l < bigCap by omega)]
            | some m =>
              have hm := k4 m rfl
              simp only [Option.some.injEq] at h
              subst h
              simp only [Option.getD_some]
              cases hbq : Nat.beq m l with
              | true =>
                have := Nat.eq_of_beq_eq_true hbq
                subst this
                simp [ren, cap_zero]
              | false =>
                have hne : m ≠ l := fun he => by rw [he, Nat.beq_refl] at hbq; cases hbq
                simp [hne, ren, cap_small (σ := σ) (show m - l < bigCap by omega)]
        | false =>
          rw [hcb] at h htop
          simp only [cond_false] at h htop
          cases hcc : (Nat.blt bigCap cap && Nat.ble cap (2 * bigCap) && Nat.beq off ((2 * bigCap - cap) * ie.size) && g.isGrown && Nat.blt 0 ie.size && Nat.ble ((2 * bigCap - cap + len) * ie.size) c.length && Nat.beq e2 e) with
          | false => rw [hcc] at h; cases h
          | true =>
            rw [hcc] at h
            simp only [cond_true] at h
            simp only [Bool.and_eq_true, Nat.blt_eq, Nat.ble_eq] at hcc
            obtain ⟨⟨⟨⟨⟨⟨c0, c1⟩, c2⟩, c3⟩, c4⟩, c5⟩, c6⟩ := hcc
            have c6' := Nat.eq_of_beq_eq_true c6
            subst c6'
            obtain ⟨tail, ty, fr, t1, t0, t2, t3⟩ := hr.at_ i _ hg
            obtain ⟨t3, t4⟩ := t3 (Gr.isGrown_eq c3)
            have hco : P.cellsOf e2 = ie.size := by simp [Program.cellsOf, hi2]
            rw [hco] at t3
            have hdiv : c.length / ie.size ≤ σ.c i := Nat.div_le_of_le_mul (by rw [Nat.mul_comm]; omega)
            have hce : σ.cap i cap = σ.c i - (2 * bigCap - cap) := cap_grown (by omega)
            have hroom : top ≤ σ.cap i cap := by omega
            simp only [ren, renOff_none]
            rw [hrun _ hroom]
            cases m with
            | none =>
              simp only at h
              cases hbq : Nat.beq l 0 with
              | true =>
                rw [hbq] at h
                simp only [cond_true, Option.some.injEq] at h
                have := Nat.eq_of_beq_eq_true hbq
                subst this; subst h
                simp [ren]
              | false =>
                rw [hbq] at h
                simp only [cond_false] at h
                have hl0 : l ≠ 0 := fun he => by rw [he] at hbq; cases hbq
                cases hbl : Nat.ble bigCap (cap - l) with
                | false => rw [hbl] at h; cases h
                | true =>
                  rw [hbl] at h
                  simp only [cond_true] at h
                  rw [Nat.ble_eq] at hbl
                  have hcl : σ.cap i (cap - l) = σ.cap i cap - l := by rw [cap_grown hbl, hce]; omega
                  simp only [Option.getD_none]
                  cases hle : Nat.blt l top with
                  | true =>
                    rw [hle] at h
                    simp only [cond_true, Option.some.injEq] at h
                    rw [Nat.blt_eq] at hle
                    subst h
                    simp only [ren, hcl, renOff_none]
                    rw [if_neg (by omega)]
                  | false =>
                    rw [hle] at h
                    simp only [cond_false, Option.some.injEq] at h
                    subst h
                    simp only [ren, hcl, renOff]
                    by_cases hz : σ.cap i cap = l
                    · rw [if_pos hz, if_pos (by omega)]
                    · rw [if_neg hz, if_neg (by omega)]
            | some m =>
              have hm := k4 m rfl
              simp only at h
              cases hmb : Nat.blt m bigCap with
              | false => rw [hmb] at h; cases h
              | true =>
                rw [hmb] at h
                simp only [cond_true, Option.some.injEq] at h
                rw [Nat.blt_eq] at hmb
                subst h
                simp only [Option.getD_some]
                cases hbq : Nat.beq m l with
                | true =>
                  have := Nat.eq_of_beq_eq_true hbq
                  subst this
                  simp [ren, cap_zero]
                | false =>
                  have hne : m ≠ l := fun he => by rw [he, Nat.beq_refl] at hbq; cases hbq
                  simp [hne, ren, cap_small (σ := σ) (show m - l < bigCap by omega)]
      · cases h
    · cases h
  · rename_i n e i off hu
    split at h
    · rename_i l hh m ie hb hi2
      cases hnb : Nat.blt n bigCap with
      | false => rw [hnb] at h; cases h
      | true =>
        rw [hnb] at h
        simp only [cond_true, Option.some.injEq] at h
        rw [Nat.blt_eq] at hnb
        subst h
        obtain ⟨k1, k2, k3, k4⟩ := bounds_run (P := P) (σ := σ) (w := w) hb (Nat.le_refl n) false
        have hmn : m.getD n ≤ n := by
          cases m with
          | none => exact Nat.le_refl _
          | some m => exact (k4 m rfl).2
        simp only [ren, Instr.sliceAt, Sem.run_bind, run_underlying hu, Result.andThen_ok, Instr.sureAddr, Sem.run_pure, k1, run_size hi2]
        cases hbq : Nat.beq (m.getD n) l with
        | true =>
          have := Nat.eq_of_beq_eq_true hbq
          simp only [cond_true, ren, renOff_none, this, if_true, Nat.sub_self, cap_zero]
        | false =>
          have hne : m.getD n ≠ l := fun he => by rw [he, Nat.beq_refl] at hbq; cases hbq
          simp only [cond_false, ren, renOff_none, if_neg hne, add_none, cap_small (σ := σ) (i := i) (show m.getD n - l < bigCap by omega)]
    · cases h
  · cases h
end Go.Proofs.Ytdfabagclnjoaaa
