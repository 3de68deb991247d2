import Derived.Test.YtdfabagclnjoaaaEvR
namespace Go.Proofs.Ytdfabagclnjoaaa
set_option linter.unusedSimpArgs false
set_option linter.unusedVariables false
open Go
section
variable {P : Program} {call : Caller} {nt : Nat} {ops : Array Oper} {f : Fs} {rs : List Rc} {bs : List Nat}
theorem Reg.anyNew_in (h : Reg P call nt ops f rs bs) {D : Nat → Prop} {j i : Nat} (hpre : ∀ q, pr bs j q → D q) (ha : anyNew (bs.getD j 0) i 0 rs = true) : inE f rs D i = true := by
  obtain ⟨k, r, h1, h2, h3⟩ := anyNew_spec rs 0 ha
  rw [Nat.zero_add] at h2
  simp only [Rc.new, Bool.and_eq_true, Nat.ble_eq, Nat.blt_eq] at h3
  exact inE_iff.2 (.inr ⟨k, r, hpre k h2, h1, h3.1, h3.2⟩)
theorem Reg.out_in (h : Reg P call nt ops f rs bs) {D D' : Nat → Prop} {j : Nat} {r : Rc} (hr : rs[j]? = some r) (hpre : ∀ q, pr bs j q → D q) (hD' : ∀ i, D' i ↔ D i ∨ i = j) {u : Value} (hu : u ∈ r.out) : bp (inE f rs D') u = true := by
  refine bp_mono (fun i hi => ?_) u ((bpL_iff _ _).1 (h.scope j r hr) u hu)
  simp only [Bool.or_eq_true, Nat.blt_eq] at hi
  rcases hi with hi | hi | hi
  · exact inE_iff.2 (.inl hi)
  · simp only [Rc.new, Bool.and_eq_true, Nat.ble_eq, Nat.blt_eq] at hi
    exact inE_iff.2 (.inr ⟨j, r, (hD' j).2 (.inr rfl), hr, hi.1, hi.2⟩)
  · exact h.anyNew_in (fun q hq => (hD' q).2 (.inl (hpre q hq))) hi
theorem inE_mono {D D' : Nat → Prop} (h : ∀ k, D k → D' k) (i : Nat) (hi : inE f rs D i = true) : inE f rs D' i = true := by
  rcases inE_iff.1 hi with hi | ⟨k, r, hk, h1, h2⟩
  · exact inE_iff.2 (.inl hi)
  · exact inE_iff.2 (.inr ⟨k, r, h k hk, h1, h2⟩)
/-- Of the names that are there none is new with one that is not done. -/
theorem Reg.inE_apart (h : Reg P call nt ops f rs bs) {D : Nat → Prop} {j : Nat} {r : Rc} (hr : rs[j]? = some r) (hD : ¬ D j) {i : Nat} (hi : inE f rs D i = true) : i < r.s.n ∨ r.n1 ≤ i := by
  rcases inE_iff.1 hi with hi | ⟨k, x, hk, h1, h2, h3⟩
  · have := h.base hr; omega
  · by_cases hkj : k < j
    · have := h.disj h1 hr hkj; omega
    · by_cases hjk : j < k
      · have := h.disj hr h1 hjk; omega
      · have : k = j := by omega
        subst this; exact absurd hk hD
theorem mid_step (hN : NoNum P) (hcall : CallSpec P call) (h : Reg P call nt ops f rs bs) {σ₀ σ : Sub} {w₀ w : World} {a : Act} {D D' : Nat → Prop} (m : Mid P nt ops f rs σ₀ w₀ D σ a w) {j : Nat} (hj : j < ops.size)
    (hc : Closed ops.size (pr bs) D) (hpre : ∀ i, pr bs j i → D i) (hD : ¬ D j) (hD' : ∀ i, D' i ↔ D i ∨ i = j) {R : Option Nat} {Q : Exit → Act → World → Prop} {K : Act → World → Prop}
    (hK : ∀ σ' a' w', Mid P nt ops f rs σ₀ w₀ D' σ' a' w' → K a' w') : wpOpIn (FW R) 0 P ops Q j K a w := by
  obtain ⟨r, hr⟩ := h.get hj
  obtain ⟨o, ho, hok, hrt, hrs⟩ := h.op j r hr
  have hAH := h.apartH
  have hAT := h.apartT
  have htop : nt ≤ 2 ^ TD := (h.st 0 (Nat.zero_le _)).2.top
  have hjl : j ≤ rs.length := by rw [h.len]; omega
  -- what the operation looks at is as in the text's order
  have hlook : ∀ d, d ∈ o.looksAt ops → d < nt → a.tmps[d]? = some (ren σ ((tget TD r.t d).getD undef)) := fun d hd hdn => by
    have := vw_at hAT hc hj hpre hD (l := d) ⟨o, ho, hd⟩ ops.size (by omega) (Nat.le_refl _)
    rw [m.tmp d hdn]
    show some (ren σ (VT nt ops f rs D d)) = _
    rw [show VT nt ops f rs D d = CT nt f rs j d from this]
    simp only [CT, vget, blt_true hdn, cond_true, hrt]
  have hfoot : ∀ i, r.foot.testBit i = true → VH f rs ops.size D i = r.s.get i := fun i hi => by
    have := vw_at hAH hc hj hpre hD (l := i) ⟨r, hr, hi⟩ ops.size (by omega) (Nat.le_refl _)
    rw [show VH f rs ops.size D i = CH f rs j i from this, hrs]
  have hwant := wanted_at (ops := ops) (t := r.t) m.size o hlook
  have hmoreH := fun i => vw_more hAH hc hj hpre hD hD' i ops.size (Nat.le_refl _)
  have hmoreT := fun d => vw_more hAT hc hj hpre hD hD' d ops.size (Nat.le_refl _)
  have hnext : ∀ i, CH f rs (j + 1) i = r.s1.get i := fun i => by show (stH f.s rs (j + 1)).get i = _; rw [stH_next hr]
  have hVHw : ∀ i, r.W i → VH f rs ops.size D' i = r.s1.get i := fun i hw => by
    rw [show VH f rs ops.size D' i = CH f rs (j + 1) i from (hmoreH i).1 hj ⟨r, hr, hw⟩, hnext]
  have hVHn : ∀ i, ¬ r.W i → VH f rs ops.size D' i = VH f rs ops.size D i := fun i hw =>
    (hmoreH i).2 (.inr fun ⟨x, hx, hxw⟩ => by rw [hr] at hx; injection hx with hx; subst hx; exact hw hxw)
  have hVTw : ∀ d, d < nt → VT nt ops f rs D' d = if o.dst = some d then r.v else VT nt ops f rs D d := fun d hd => by
    by_cases hdst : o.dst = some d
    · rw [if_pos hdst]
      rw [show VT nt ops f rs D' d = CT nt f rs (j + 1) d from (hmoreT d).1 hj ⟨o, ho, hdst, hd⟩]
      show vget nt (stT f.t rs (j + 1)) (.tmp d) = r.v
      rw [stT_next hr, hok.t1, vget_vput htop hd, if_pos hdst]
    · rw [if_neg hdst]
      exact (hmoreT d).2 (.inr fun ⟨x, hx, hxd, _⟩ => by rw [ho] at hx; injection hx with hx; subst hx; exact hdst hxd)
  have hDD' : ∀ k, D k → D' k := fun k hk => (hD' k).2 (.inl hk)
  -- behind it
  have after : ∀ (σ' : Sub) (w' : World) (u : Value), u = ren σ' r.v →
      (∀ i, inE f rs D i = true → σ'.b i = σ.b i ∧ σ'.c i = σ.c i) →
      (∀ i, (i < f.s.n ∨ (stH f.s rs rs.length).n ≤ i) → σ'.b i = σ.b i ∧ σ'.c i = σ.c i) →
      (∀ i, r.W i → ∀ ob, r.s1.get i = some ob → ob.At P σ' w' i) →
      (∀ i k ob ob', r.W i → r.W k → r.s1.get i = some ob → ob.alive = true → r.s1.get k = some ob' → ob'.alive = true → σ'.b i = σ'.b k → i = k) →
      (∀ i k ob ob', r.W i → ¬ r.W k → r.s1.get i = some ob → ob.alive = true → VH f rs ops.size D k = some ob' → ob'.alive = true → σ'.b i ≠ σ.b k) →
      (∀ i ob, ¬ r.W i → VH f rs ops.size D i = some ob → ob.alive = true → w'.heap[σ.b i]? = w.heap[σ.b i]?) →
      (∀ i, r.s.n ≤ i → i < r.n1 → w.heap.size ≤ σ'.b i ∨ ∃ q, q < r.s.n ∧ r.wr.testBit q = true ∧ σ'.b i = σ.b q) →
      bp (inE f rs D') r.v = true → w.heap.size ≤ w'.heap.size → w'.os = w.os → w'.tape = w.tape → w'.output = w.output →
      (∀ b, b < w.heap.size → (∀ q, q < r.s.n → r.wr.testBit q = true → σ.b q ≠ b) → w'.heap[b]? = w.heap[b]?) →
      Mid P nt ops f rs σ₀ w₀ D' σ' (a.put o.dst u) w' := by
    intro σ' w' u hu hin hout hat hinj hcross hkeep hfresh hscope hsz hos htp hou hframe
    have hon : Sub.on (inE f rs D) σ' σ := hin
    have hq : ∀ q, r.wr.testBit q = true → ∃ ob, VH f rs ops.size D q = some ob ∧ ob.alive = true := fun q hq => by
      obtain ⟨ob, hg, hal⟩ := hok.foot q (hok.wr q hq)
      exact ⟨ob, by rw [hfoot q (hok.wr q hq)]; exact hg, hal⟩
    have hqor : ∀ q, r.wr.testBit q = true → (orBits rs).testBit q = true := fun q hq => (orBits_spec q rs).2 ⟨j, r, hr, hq⟩
    -- where the blocks of written names lie
    have hqold : ∀ q, r.wr.testBit q = true → (q < f.s.n ∧ σ.b q = σ₀.b q) ∨ (w₀.heap.size ≤ σ.b q ∨ ∃ j, j < f.s.n ∧ (orBits rs).testBit j = true ∧ σ.b q = σ₀.b j) := fun q hqw => by
      by_cases hlt : q < f.s.n
      · exact .inl ⟨hlt, (m.agree q (.inl hlt)).1⟩
      · obtain ⟨ob, hg, hal⟩ := hq q hqw
        exact .inr (m.fresh q (m.inH q ob hg).1 (by omega))
    refine ⟨fun i ob hi => ?_, (fun i hi => by rw [(hout i (.inl (Nat.lt_of_lt_of_le hi m.ge))).1]; exact m.gl i hi), m.ge, fun i k ob ob' hi hal hk hal' he => ?_, by cases hdst : o.dst <;> simp [Act.put, m.size], (by rw [put_defers]; exact m.defers), m.dlt, fun d hd => ?_, fun i ob hi => ?_, fun d hd => ?_, fun i hi => ?_, Nat.le_trans m.hsize hsz, hos.trans m.os, htp.trans m.tape, hou.trans m.output, fun i hi hn => ?_, fun b hb hne => ?_⟩
    · by_cases hw : r.W i
      · rw [hVHw i hw] at hi; exact hat i hw ob hi
      · rw [hVHn i hw] at hi
        obtain ⟨hie, hce⟩ := m.inH i ob hi
        cases hal : ob.alive with
        | false =>
          cases ob with
          | dead => trivial
          | raw o => cases hal
          | loop st pe nt t ps as bo d => cases hal
          | cells c e g => cases hal
        | true => exact Ob.At_on hon hie hce (hkeep i ob hw hi hal) (m.at_ i _ hi)
    · by_cases hwi : r.W i <;> by_cases hwk : r.W k
      · rw [hVHw i hwi] at hi; rw [hVHw k hwk] at hk
        exact hinj i k _ _ hwi hwk hi hal hk hal' he
      · rw [hVHw i hwi] at hi; rw [hVHn k hwk] at hk
        rw [(hin k (m.inH k _ hk).1).1] at he
        exact absurd he (hcross i k _ _ hwi hwk hi hal hk hal')
      · rw [hVHn i hwi] at hi; rw [hVHw k hwk] at hk
        rw [(hin i (m.inH i _ hi).1).1] at he
        exact absurd he.symm (hcross k i _ _ hwk hwi hk hal' hi hal)
      · rw [hVHn i hwi] at hi; rw [hVHn k hwk] at hk
        rw [(hin i (m.inH i _ hi).1).1, (hin k (m.inH k _ hk).1).1] at he
        exact m.inj i k _ _ hi hal hk hal' he
    · rw [hVTw d hd]
      cases hdst : o.dst with
      | none =>
        have hne : ¬ (none : Option Tmp) = some d := by simp
        rw [if_neg hne]
        show a.tmps[d]? = _
        rw [m.tmp d hd, ren_on hon _ (m.inT d hd)]
      | some e =>
        by_cases hde : e = d
        · subst hde
          rw [if_pos rfl, hu]
          have : e < a.tmps.size := by rw [m.size]; exact hd
          simp [Act.put, this]
        · have hne : ¬ some e = some d := by simpa using hde
          rw [if_neg hne]
          simp only [Act.put]
          rw [Array.getElem?_setIfInBounds_ne hde, m.tmp d hd, ren_on hon _ (m.inT d hd)]
    · by_cases hw : r.W i
      · rw [hVHw i hw] at hi
        refine ⟨?_, ?_⟩
        · rcases hw with hw | hw
          · obtain ⟨ob0, hg0, _⟩ := hq i hw
            exact inE_mono hDD' i (m.inH i _ hg0).1
          · exact inE_iff.2 (.inr ⟨j, r, (hD' j).2 (.inr rfl), hr, hw.1, hw.2⟩)
        · cases ob with
          | cells c e g => exact (bpL_iff _ _).2 fun u hu => h.out_in hr hpre hD' (hok.out i hw c e g hi u hu)
          | raw o => rfl
          | loop st pe nt t ps as bo d => have := hok.still i hw _ hi; cases this
          | dead => rfl
      · rw [hVHn i hw] at hi
        obtain ⟨h1, h2⟩ := m.inH i ob hi
        exact ⟨inE_mono hDD' i h1, Ob.bp_mono (inE_mono hDD') ob h2⟩
    · rw [hVTw d hd]
      by_cases hdst : o.dst = some d
      · rw [if_pos hdst]; exact hscope
      · rw [if_neg hdst]; exact bp_mono (inE_mono hDD') _ (m.inT d hd)
    · have h1 := hout i hi
      have h2 := m.agree i hi
      exact ⟨h1.1.trans h2.1, h1.2.trans h2.2⟩
    · by_cases hold : inE f rs D i = true
      · rw [(hin i hold).1]; exact m.fresh i hold hn
      · rcases inE_iff.1 hi with hi | ⟨k, x, hk, h1, h2, h3⟩
        · omega
        · have hkj : k = j := by
            rcases (hD' k).1 hk with hk | hk
            · exact absurd (inE_iff.2 (.inr ⟨k, x, hk, h1, h2, h3⟩)) hold
            · exact hk
          subst hkj
          rw [hr] at h1; injection h1 with h1; subst h1
          rcases hfresh i h2 h3 with hf | ⟨q, hq1, hq2, hq3⟩
          · exact .inl (Nat.le_trans m.hsize hf)
          · rw [hq3]
            rcases hqold q hq2 with ⟨h4, h5⟩ | h4
            · exact .inr ⟨q, h4, hqor q hq2, h5⟩
            · exact h4
    · rw [hframe b (Nat.lt_of_lt_of_le hb m.hsize) fun q hq1 hq2 hq3 => ?_]
      · exact m.frame b hb hne
      · rcases hqold q hq2 with ⟨h4, h5⟩ | h4 | ⟨q2, h4, h5, h6⟩
        · exact hne q h4 (hqor q hq2) (h5 ▸ hq3)
        · omega
        · exact hne q2 h4 h5 (h6 ▸ hq3)
  unfold wpOpIn
  rw [ho]
  simp only
  rcases hok.act with ⟨hv, hvu, hwr, hn1⟩ | ⟨hv, hh, s1, hget, hev, hs1, hwreq, hs1get, hvout⟩
  · -- not wanted
    rw [hv] at hwant
    rw [if_neg (by rw [hwant]; decide)]
    have hnW : ∀ i, ¬ r.W i := fun i hw => by
      rcases hw with hw | hw
      · rw [hwr] at hw; simp at hw
      · omega
    refine ⟨fun _ _ => trivial, hK σ _ w (after σ w undef (by rw [hvu, ren_undef]) (fun _ _ => ⟨rfl, rfl⟩) (fun _ _ => ⟨rfl, rfl⟩) (fun i hw => absurd hw (hnW i)) (fun i k _ _ hw => absurd hw (hnW i)) (fun i k _ _ hw => absurd hw (hnW i)) (fun _ _ _ _ _ => rfl) (fun i h1 h2 => by omega) ?_ (Nat.le_refl _) rfl rfl rfl (fun _ _ _ => rfl))⟩
    rw [hvu]; simp [undef, bp, bpA, bpL]
  · -- wanted
    rw [hv] at hwant
    rw [if_pos hwant]
    have hokj := (h.st j hjl).1
    have htoj := (h.st j hjl).2
    rw [← hrs] at hokj htoj
    rw [← hrt] at htoj
    have hrel : Rel P σ ⟨r.s.n, hh, 0⟩ w := by
      refine ⟨fun i ob hi => ?_, fun i k hi hk he => ?_, m.gl, Nat.le_trans m.ge (h.base hr)⟩
      · rw [hget i] at hi
        by_cases hb : r.foot.testBit i = true
        · rw [if_pos hb] at hi
          exact m.at_ i ob (by rw [hfoot i hb]; exact hi)
        · rw [if_neg hb] at hi; cases hi
      · obtain ⟨ob, hi, hal⟩ := hi
        obtain ⟨ob', hk, hal'⟩ := hk
        rw [hget i] at hi; rw [hget k] at hk
        by_cases hbi : r.foot.testBit i = true
        · by_cases hbk : r.foot.testBit k = true
          · rw [if_pos hbi] at hi; rw [if_pos hbk] at hk
            exact m.inj i k _ _ (by rw [hfoot i hbi]; exact hi) hal (by rw [hfoot k hbk]; exact hk) hal' he
          · rw [if_neg hbk] at hk; cases hk
        · rw [if_neg hbi] at hi; cases hi
    have hokr : (Hs.mk r.s.n hh 0).Ok := by
      refine ⟨hokj.top, fun i ob hi => ?_⟩
      rw [hget i] at hi
      by_cases hb : r.foot.testBit i = true
      · rw [if_pos hb] at hi; exact hokj.bd i ob hi
      · rw [if_neg hb] at hi; cases hi
    refine op_wp hN hcall hev hrel hokr (fun x hx hxa => eval_at m.gl m.size hxa fun k hk hkn => hlook k ?_ hkn) htoj fun σ' w' ha hbv => ?_
    · subst hk
      exact List.mem_append_left _ (List.mem_filterMap.2 ⟨.tmp k, by simpa using hx, rfl⟩)
    · have hagree : ∀ i, (i < r.s.n ∨ r.n1 ≤ i) → σ'.b i = σ.b i ∧ σ'.c i = σ.c i := fun i hi => ha.agree i (by rw [hs1]; exact hi)
      have hWold : ∀ q, q < r.s.n → s1.wr.testBit q = true → r.wr.testBit q = true := fun q hq1 hq2 => by rw [← hwreq q hq1]; exact hq2
      have hframe : ∀ b, b < w.heap.size → (∀ q, q < r.s.n → r.wr.testBit q = true → σ.b q ≠ b) → w'.heap[b]? = w.heap[b]? := fun b hb hne => ha.frame b hb fun q hq1 hq2 => hne q hq1 (hWold q hq1 hq2)
      have hfreshn : ∀ i, r.s.n ≤ i → i < r.n1 → w.heap.size ≤ σ'.b i ∨ ∃ q, q < r.s.n ∧ r.wr.testBit q = true ∧ σ'.b i = σ.b q := fun i h1 h2 => by
        rcases ha.fresh i h1 (by rw [hs1]; exact h2) with hf | ⟨q, hq1, hq2, hq3⟩
        · exact .inl hf
        · exact .inr ⟨q, hq1, hWold q hq1 hq2, hq3⟩
      have hwlive : ∀ q, r.wr.testBit q = true → ∃ ob, VH f rs ops.size D q = some ob ∧ ob.alive = true := fun q hq => by
        obtain ⟨ob, hg, hal⟩ := hok.foot q (hok.wr q hq)
        exact ⟨ob, by rw [hfoot q (hok.wr q hq)]; exact hg, hal⟩
      refine hK σ' _ w' (after σ' w' _ rfl (fun i hi => hagree i (h.inE_apart hr hD hi)) (fun i hi => hagree i ?_) (fun i hw ob hi => ha.rel.at_ i ob (by rw [← hs1get i hw]; exact hi)) (fun i k ob ob' hwi hwk hi hal hk hal' he => ha.rel.inj i k ⟨ob, by rw [← hs1get i hwi]; exact hi, hal⟩ ⟨ob', by rw [← hs1get k hwk]; exact hk, hal'⟩ he)
        (fun i k ob ob' hwi hwk hi hal hk hal' he => ?_) (fun i ob hw hi hal => hframe _ (m.lt hi hal) fun q hq1 hq2 hq3 => ?_) hfreshn (h.out_in hr hpre hD' hvout) ha.size ha.os ha.tape ha.output hframe)
      · rcases hi with hi | hi
        · have := h.base hr; omega
        · have := h.top hr; omega
      · rcases hwi with hwi | hwi
        · obtain ⟨ob0, hg0, hal0⟩ := hwlive i hwi
          have hlt : i < r.s.n := h.foot_lt hr (hok.wr i hwi)
          rw [(hagree i (.inl hlt)).1] at he
          have := m.inj i k _ _ hg0 hal0 hk hal' he
          subst this
          exact hwk (.inl hwi)
        · rcases hfreshn i hwi.1 hwi.2 with hf | ⟨q, hq1, hq2, hq3⟩
          · have := m.lt hk hal'; omega
          · obtain ⟨ob0, hg0, hal0⟩ := hwlive q hq2
            rw [hq3] at he
            have := m.inj q k _ _ hg0 hal0 hk hal' he
            subst this
            exact hwk (.inl hq2)
      · obtain ⟨ob0, hg0, hal0⟩ := hwlive q hq2
        have := m.inj q i _ _ hg0 hal0 hi hal hq3
        subst this
        exact hw (.inl hq2)
end
end Go.Proofs.Ytdfabagclnjoaaa
