import Derived.Test.YtdfabagclnjoaaaEvK
namespace Go.Proofs.Ytdfabagclnjoaaa
set_option linter.unusedSimpArgs false
set_option linter.unusedVariables false
open Go
theorem round_same {n : Nat} {σ τ : Sub} (h : Sub.same n τ σ) {ro R : Option Nat} (hl : ∀ l, ro = some l → l < n) (hR : R = ro.map σ.b) : R = ro.map τ.b := by
  cases ro with
  | none => exact hR
  | some l => rw [hR]; simp [(h l (hl l rfl)).1]
theorem code_wp {P : Program} (hN : NoNum P) {call : Caller} (hcall : CallSpec P call) {draw : Drawer} (hdraw : DrawSpec P draw) {nt : Nat} {ro R : Option Nat} : ∀ (c : Code) (f f' : Fs) (ex : Ex), evCode P call draw nt ro c f = some (ex, f') →
    ∀ (Q : Exit → Act → World → Prop) (σ : Sub) (a : Act) (w : World), R = ro.map σ.b → (∀ l, ro = some l → l < f.s.n) → FRel P σ nt f a w → (∀ σ' a' w', Aft P σ f.s w σ' f'.s w' → FRel P σ' nt f' a' w' → Q ex.of a' w') → c.wpIn (FW R) 0 P Q a w
  | .skip, f, f', ex, h, Q, σ, a, w, hR, hl, hf, hQ => by
    simp only [evCode, Option.some.injEq, Prod.mk.injEq] at h
    obtain ⟨rfl, rfl⟩ := h
    exact wpIn_skip (hQ σ a w (Aft.refl hf.rel hf.ok) hf)
  | .label l, f, f', ex, h, Q, σ, a, w, hR, hl, hf, hQ => by
    simp only [evCode, Option.some.injEq, Prod.mk.injEq] at h
    obtain ⟨rfl, rfl⟩ := h
    exact wpIn_label (hQ σ a w (Aft.refl hf.rel hf.ok) hf)
  | .ret, f, f', ex, h, Q, σ, a, w, hR, hl, hf, hQ => by
    simp only [evCode, Option.some.injEq, Prod.mk.injEq] at h
    obtain ⟨rfl, rfl⟩ := h
    exact wpIn_ret (hQ σ a w (Aft.refl hf.rel hf.ok) hf)
  | .exit i, f, f', ex, h, Q, σ, a, w, hR, hl, hf, hQ => by
    simp only [evCode, Option.some.injEq, Prod.mk.injEq] at h
    obtain ⟨rfl, rfl⟩ := h
    exact wpIn_exit (hQ σ a w (Aft.refl hf.rel hf.ok) hf)
  | .seq x y, f, f', ex, h, Q, σ, a, w, hR, hl, hf, hQ => by
    simp only [evCode] at h
    refine wpIn_seq ?_
    split at h
    · rename_i f1 h1
      refine code_wp hN hcall hdraw x f f1 .normal h1 _ σ a w hR hl hf fun σ1 a1 w1 ha1 hf1 => ?_
      exact code_wp hN hcall hdraw y f1 f' ex h Q σ1 a1 w1 (round_same ha1.same hl hR) (fun l hx => Nat.lt_of_lt_of_le (hl l hx) ha1.le) hf1 fun σ2 a2 w2 ha2 hf2 => hQ σ2 a2 w2 (ha1.trans ha2) hf2
    · rename_i hne
      refine code_wp hN hcall hdraw x f f' ex h _ σ a w hR hl hf fun σ1 a1 w1 ha1 hf1 => ?_
      have := hQ σ1 a1 w1 ha1 hf1
      cases ex with
      | normal => exact absurd h (hne f')
      | exit i => exact this
      | ret => exact this
  | .cond c x y, f, f', ex, h, Q, σ, a, w, hR, hl, hf, hQ => by
    simp only [evCode] at h
    cases hc : okArg P c with
    | false => rw [hc] at h; cases h
    | true =>
      rw [hc] at h
      simp only [cond_true] at h
      have he := hf.tr.eval hf.rel.gl hc
      split at h
      · rename_i hv
        rw [hv] at he
        exact wpIn_cond_true (by rw [he]; simp [ren]) (code_wp hN hcall hdraw x f f' ex h Q σ a w hR hl hf hQ)
      · rename_i hv
        rw [hv] at he
        exact wpIn_cond_false (by rw [he]; simp [ren]) (code_wp hN hcall hdraw y f f' ex h Q σ a w hR hl hf hQ)
      · cases h
  | .block i x, f, f', ex, h, Q, σ, a, w, hR, hl, hf, hQ => by
    simp only [evCode] at h
    refine wpIn_block ?_
    split at h
    · rename_i j f1 h1
      refine code_wp hN hcall hdraw x f f1 (.exit j) h1 _ σ a w hR hl hf fun σ1 a1 w1 ha1 hf1 => ?_
      show (if j = i then Q .normal a1 w1 else Q (.exit j) a1 w1)
      cases hb : Nat.beq j i with
      | true =>
        rw [hb] at h
        simp only [cond_true, Option.some.injEq, Prod.mk.injEq] at h
        obtain ⟨rfl, rfl⟩ := h
        rw [if_pos (Nat.eq_of_beq_eq_true hb)]
        exact hQ σ1 a1 w1 ha1 hf1
      | false =>
        rw [hb] at h
        simp only [cond_false, Option.some.injEq, Prod.mk.injEq] at h
        obtain ⟨rfl, rfl⟩ := h
        have hne : j ≠ i := fun he => by rw [he, Nat.beq_refl] at hb; cases hb
        rw [if_neg hne]
        exact hQ σ1 a1 w1 ha1 hf1
    · rename_i hne
      refine code_wp hN hcall hdraw x f f' ex h _ σ a w hR hl hf fun σ1 a1 w1 ha1 hf1 => ?_
      have := hQ σ1 a1 w1 ha1 hf1
      cases ex with
      | normal => exact this
      | exit j => exact absurd h (hne j f')
      | ret => exact this
  | .loop x, f, f', ex, h, Q, σ, a, w, hR, hl, hf, hQ => by
    simp only [evCode] at h
    have key : ∀ (n : Nat) (f1 : Fs), evLoop (evCode P call draw nt ro x) n f1 = some (ex, f') → ∀ σ1 a1 w1, Aft P σ f.s w σ1 f1.s w1 → FRel P σ1 nt f1 a1 w1 → Code.roundsIn (FW R) 0 P x Q n a1 w1 := by
      intro n
      induction n with
      | zero => intro f1 h1; cases h1
      | succ n ih =>
        intro f1 h1 σ1 a1 w1 ha1 hf1
        rw [roundsIn_succ]
        simp only [evLoop] at h1
        have hR1 := round_same ha1.same hl hR
        have hl1 : ∀ l, ro = some l → l < f1.s.n := fun l hx => Nat.lt_of_lt_of_le (hl l hx) ha1.le
        split at h1
        · rename_i f2 h2
          refine code_wp hN hcall hdraw x f1 f2 .normal h2 _ σ1 a1 w1 hR1 hl1 hf1 fun σ2 a2 w2 ha2 hf2 => ?_
          exact ih f2 h1 σ2 a2 w2 (ha1.trans ha2) hf2
        · rename_i hne
          refine code_wp hN hcall hdraw x f1 f' ex h1 _ σ1 a1 w1 hR1 hl1 hf1 fun σ2 a2 w2 ha2 hf2 => ?_
          have := hQ σ2 a2 w2 (ha1.trans ha2) hf2
          cases ex with
          | normal => exact absurd h1 (hne f')
          | exit i => exact this
          | ret => exact this
    exact wpIn_loop_rounds 5000 (key 5000 f h σ a w (Aft.refl hf.rel hf.ok) hf)
  | .region id ops d, f, f', ex, h, Q, σ, a, w, hR, hl, hf, hQ => by
    simp only [evCode] at h
    cases d with
    | true =>
      simp only at h
      split at h
      · rename_i f1 h1
        simp only [Option.some.injEq, Prod.mk.injEq] at h
        obtain ⟨rfl, rfl⟩ := h
        exact hdraw nt ops f f1 h1 R id Q σ a w hf hQ
      · cases h
    | false =>
      simp only at h
      split at h
      · rename_i f1 h1
        simp only [Option.some.injEq, Prod.mk.injEq] at h
        obtain ⟨rfl, rfl⟩ := h
        exact wpIn_region_list (ops_wp hN hcall ops.toList f f1 h1 σ a w hf hQ)
      · cases h
  | .rangeFunc g ps as bo, f, f', ex, h, Q, σ, a, w, hR, hl, hf, hQ => by
    simp only [evCode] at h
    cases hc : okArg P g with
    | false => rw [hc] at h; cases h
    | true =>
      rw [hc] at h
      simp only [cond_true] at h
      have hge := hf.tr.eval hf.rel.gl hc
      have hbg := hf.to.arg hf.rel.ge hc
      split at h
      · rename_i gf first cap hv
        rw [hv] at hge hbg
        simp only [bd, Bool.and_eq_true] at hbg
        split at h
        · rename_i l s1 ds he
          split at h
          · rename_i v2 s2 hca
            -- behind the call
            have hend : ∃ (c : Option Code) (s3 : Hs), evLeave s2 l = some (c, s3) ∧ f' = ⟨f.t, s3, ds⟩ ∧ ((c = none ∧ ex = .normal) ∨ (c = some .ret ∧ ex = .ret) ∨ (∃ i, c = some (.exit i) ∧ ex = .exit i)) := by
              split at h
              · rename_i s3 hlv
                simp only [Option.some.injEq, Prod.mk.injEq] at h
                exact ⟨_, _, hlv, h.2.symm, .inl ⟨rfl, h.1.symm⟩⟩
              · rename_i s3 hlv
                simp only [Option.some.injEq, Prod.mk.injEq] at h
                exact ⟨_, _, hlv, h.2.symm, .inr (.inl ⟨rfl, h.1.symm⟩)⟩
              · rename_i i s3 hlv
                simp only [Option.some.injEq, Prod.mk.injEq] at h
                exact ⟨_, _, hlv, h.2.symm, .inr (.inr ⟨i, rfl, h.1.symm⟩)⟩
              · cases h
            obtain ⟨c, s3, hlv, rfl, hce⟩ := hend
            obtain ⟨⟨fn0, hfn0, hbody0⟩, hspec⟩ := hcall.fn _ _ _ _ _ hca
            refine wpIn_rangeFunc fun fn _ => ?_
            obtain ⟨σ1, w1, mark, a1, hent, hln, hmk, hds⟩ := evEnter_ok hf hR he fn
            have hbd : bdL s1.n (first.toList ++ [Value.func (.yield l) #[] #[]] ++ cap.toList) = true := by
              rw [bdL_iff]
              intro u hu
              simp only [List.mem_append, List.mem_singleton] at hu
              rcases hu with (hu | rfl) | hu
              · exact bd_mono a1.le u ((bdA_iff _ _).1 hbg.1.2 u (by simpa using hu))
              · simp [bd, bdFn, bdA, bdL, Nat.blt_eq, hln]
              · exact bd_mono a1.le u ((bdA_iff _ _).1 hbg.2 u (by simpa using hu))
            have hC := hspec σ1 w1 a1.rel a1.ok hbd
            have hgr : ren σ1 (.func (.func gf) first cap) = ren σ (.func (.func gf) first cap) := a1.reads (v := .func (.func gf) first cap) (by simp [bd, bdFn, hbg.1.2, hbg.2])
            rw [← hgr] at hge
            have hC' : Calls P gf (((first.toList ++ [Value.func (.yield l) #[] #[]] ++ cap.toList).map (ren σ1)).toArray) w1 (rangePost (FW R) 0 P (σ1.b l) Q { a with defers := mark ++ a.defers }) := by
              refine Calls.mono hC fun e w2 hx => ?_
              obtain ⟨σ2, a2, rfl⟩ := hx
              obtain ⟨w3, a3, hrun⟩ := evLeave_ok hlv a2.rel a2.ok
              have hl2 : σ2.b l = σ1.b l := (a2.same l hln).1
              rw [hl2] at hrun
              have hall := (a1.trans a2).trans a3
              have hfr : FRel P σ2 nt ⟨f.t, s3, ds⟩ { a with defers := mark ++ a.defers } w3 := by
                have h23 : Sub.same s1.n σ2 σ1 := a2.same
                refine ⟨a3.rel, a3.ok, ?_, ?_, ?_, fun d hd => ?_⟩
                · have := hf.tr.reads hf.to (σ := σ) (τ := σ2) hall.same
                  exact ⟨this.size, this.at_⟩
                · exact ⟨hf.to.top, fun k hk => bd_mono hall.le _ (hf.to.bd k hk)⟩
                · show mark ++ a.defers = marks σ2 ds
                  rw [hmk]
                  exact marks_same (fun i hi => ⟨(h23 i hi).1.symm, (h23 i hi).2.symm⟩) hds
                · exact Nat.lt_of_lt_of_le (hds d hd) (Nat.le_trans a2.le a3.le)
              have hfin := hQ σ2 _ w3 hall hfr
              refine ⟨c, w3, hrun, ?_⟩
              rcases hce with ⟨rfl, rfl⟩ | ⟨rfl, rfl⟩ | ⟨i, rfl, rfl⟩
              · exact hfin
              · exact wpIn_ret hfin
              · exact wpIn_exit hfin
            have hres : (resolve a.eval (rangeCall g (σ1.b l)) 0).run P w1 = .ok { target := .fn (.func gf) (cap.map (ren σ1)), args := first.map (ren σ1) ++ #[Value.func (.yield (σ1.b l)) #[] #[]] } w1 := by
              have hcv : ∀ v, a.eval (.const v) = v := fun _ => rfl
              simp only [resolve, hge, ren, renFn, renA_map, Deferred.ofValue, List.map_toArray, List.map_cons, List.map_nil, hcv, Sem.run_pure]
            have hinv : (invoke (.fn (.func gf) (cap.map (ren σ1))) (first.map (ren σ1) ++ #[Value.func (.yield (σ1.b l)) #[] #[]])).run P w1 = .ok (.enter gf (((first.toList ++ [Value.func (.yield l) #[] #[]] ++ cap.toList).map (ren σ1)).toArray)) w1 := by
              simp only [invoke]
              rw [callFunc_run hN hfn0 hbody0]
              congr 2
              cases first; cases cap
              simp [ren, renFn, renA, renL]
            exact ⟨σ1.b l, mark, w1, _, w1, gf, _, w1, hent, hres, fun _ _ => trivial, hinv, (fun hx => by cases hx), callsIn_FW hC'⟩
          · cases h
        · cases h
      · cases h
  | .scope .., f, f', ex, h, Q, σ, a, w, hR, hl, hf, hQ => by simp [evCode] at h
  | .goto .., f, f', ex, h, Q, σ, a, w, hR, hl, hf, hQ => by simp [evCode] at h
  | .refuse .., f, f', ex, h, Q, σ, a, w, hR, hl, hf, hQ => by simp [evCode] at h
end Go.Proofs.Ytdfabagclnjoaaa
