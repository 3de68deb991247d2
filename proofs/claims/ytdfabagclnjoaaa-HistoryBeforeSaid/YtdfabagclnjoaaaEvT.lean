import Derived.Test.YtdfabagclnjoaaaEvS
import Derived.Below
namespace Go.Proofs.Ytdfabagclnjoaaa
set_option linter.unusedSimpArgs false
set_option linter.unusedVariables false
open Go
def cntUn : Nat → Array Bool → Nat
  | 0, _ => 0
  | k + 1, l => cntUn k l + (if l.getD k true = true then 0 else 1)
theorem cntUn_le (l : Array Bool) : ∀ k, cntUn k l ≤ k
  | 0 => Nat.le_refl _
  | k + 1 => by
    have := cntUn_le l k
    simp only [cntUn]; split <;> omega
theorem cntUn_set {l : Array Bool} {i : Nat} (hi : i < l.size) (hf : l.getD i true = false) : ∀ k, cntUn k (l.setIfInBounds i true) + (if i < k then 1 else 0) = cntUn k l
  | 0 => by simp [cntUn]
  | k + 1 => by
    have ih := cntUn_set hi hf k
    simp only [cntUn]
    by_cases he : i = k
    · subst he
      have h1 : (l.setIfInBounds i true).getD i true = true := by simp [hi]
      rw [h1, hf]
      simp at ih ⊢
      omega
    · have h1 : (l.setIfInBounds i true).getD k true = l.getD k true := getD_set_ne true he
      rw [h1]
      by_cases hlt : i < k
      · have : i < k + 1 := by omega
        simp only [hlt, this, if_true] at ih ⊢
        omega
      · have : ¬ i < k + 1 := by omega
        simp only [hlt, this, if_false] at ih ⊢
        omega
theorem cntUn_zero {l : Array Bool} : ∀ k, cntUn k l = 0 → ∀ i, i < k → l.getD i true = true
  | 0, _, i, hi => by omega
  | k + 1, h, i, hi => by
    simp only [cntUn] at h
    by_cases he : i = k
    · subst he
      by_cases hx : l.getD i true = true
      · exact hx
      · rw [if_neg hx] at h; omega
    · exact cntUn_zero k (by omega) i (by omega)
theorem getD_both {l : Array Bool} {k : Nat} (h : k < l.size) (a b : Bool) : l.getD k a = l.getD k b := by simp [Array.getD, h]
section
variable {P : Program} {call : Caller} {nt : Nat} {ops : Array Oper} {f : Fs} {rs : List Rc} {bs : List Nat}
def Dn (listed : Array Bool) (k : Nat) : Prop := listed.getD k false = true
theorem all_listed (h : Reg P call nt ops f rs bs) {listed : Array Bool} (hs : listed.size = ops.size) (hr : Region.ready .any ops listed = []) : ∀ k, k < ops.size → Dn listed k := by
  intro k
  induction k using Nat.strongRecOn with
  | _ k ih =>
    intro hk
    by_cases hd : Dn listed k
    · exact hd
    · exfalso
      have hf : listed.getD k true = false := by
        rw [getD_both (by omega) true false]
        cases hx : listed.getD k false with
        | false => rfl
        | true => exact absurd hx hd
      have hm : k ∈ Region.ready .any ops listed := mem_ready.2 ⟨hf, ops[k], Array.getElem?_eq_getElem hk, fun e he hb => by
        have hlt := h.edge k ops[k] (Array.getElem?_eq_getElem hk) e he hb
        exact ih e.on hlt (by omega)⟩
      rw [hr] at hm; cases hm
theorem stH_cover (h : Reg P call nt ops f rs bs) {i : Nat} (hi : f.s.n ≤ i) : ∀ m, m ≤ rs.length → i < (stH f.s rs m).n → ∃ (k : Nat) (r : Rc), k < m ∧ rs[k]? = some r ∧ r.s.n ≤ i ∧ i < r.n1
  | 0, _, hlt => by
    have : (stH f.s rs 0).n = f.s.n := rfl
    omega
  | m + 1, hm, hlt => by
    by_cases hb : i < (stH f.s rs m).n
    · obtain ⟨k, r, h1, h2⟩ := stH_cover h hi m (by omega) hb
      exact ⟨k, r, by omega, h2⟩
    · obtain ⟨r, hr⟩ := h.get (k := m) (by rw [← h.len]; omega)
      obtain ⟨o, ho, hok, ht, hs⟩ := h.op m r hr
      rw [stH_next hr, hok.s1n] at hlt
      exact ⟨m, r, by omega, hr, by rw [hs]; omega, hlt⟩
theorem mid_end (h : Reg P call nt ops f rs bs) {σ₀ σ : Sub} {w₀ w : World} {a : Act} {D : Nat → Prop} (hD : ∀ k, k < ops.size → D k) (m : Mid P nt ops f rs σ₀ w₀ D σ a w) {f' : Fs}
    (hf : f' = ⟨stT f.t rs rs.length, ⟨(stH f.s rs rs.length).n, (stH f.s rs rs.length).h, f.s.wr ||| orBits rs⟩, f.ds⟩) : Aft P σ₀ f.s w₀ σ f'.s w ∧ FRel P σ nt f' a w := by
  have hget : ∀ i, f'.s.get i = VH f rs ops.size D i := fun i => by
    have := vw_all h.apartH hD i ops.size (Nat.le_refl _)
    rw [show VH f rs ops.size D i = CH f rs ops.size i from this, hf, ← h.len]
    rfl
  have htm : ∀ d, vget nt f'.t (.tmp d) = VT nt ops f rs D d := fun d => by
    have := vw_all h.apartT hD d ops.size (Nat.le_refl _)
    rw [show VT nt ops f rs D d = CT nt f rs ops.size d from this, hf, ← h.len]
  obtain ⟨hok, hto⟩ := h.st rs.length (Nat.le_refl _)
  have hn : f'.s.n = (stH f.s rs rs.length).n := by rw [hf]
  have hok' : f'.s.Ok := by
    refine ⟨by rw [hn]; exact hok.top, fun i ob hi => ?_⟩
    rw [hn]
    refine hok.bd i ob ?_
    rw [hf] at hi; exact hi
  have hrel : Rel P σ f'.s w := ⟨fun i ob hi => m.at_ i ob (by rw [← hget]; exact hi), fun i j hi hj he => by
    obtain ⟨ob, hi, hal⟩ := hi
    obtain ⟨ob', hj, hal'⟩ := hj
    rw [hget] at hi hj
    exact m.inj i j _ _ hi hal hj hal' he, m.gl, by rw [hn]; exact Nat.le_trans m.ge (h.n_mono (k := 0) rs.length (Nat.zero_le _) (Nat.le_refl _))⟩
  refine ⟨⟨by rw [hn]; exact h.n_mono (k := 0) rs.length (Nat.zero_le _) (Nat.le_refl _), fun i hi => m.agree i (by rw [hn] at hi; exact hi), hrel, hok', m.hsize, m.os, m.tape, m.output, fun j hj => ?_, fun i h1 h2 => ?_, fun b hb hne => m.frame b hb fun j hj hw => hne j hj ?_⟩, ⟨hrel, hok', ⟨m.size, fun d hd => ?_⟩, ?_, ?_, fun d hd => ?_⟩⟩
  · rw [hf]; simp [Nat.testBit_or, hj]
  · rw [hn] at h2
    obtain ⟨k, r, k1, k2, k3, k4⟩ := stH_cover h h1 rs.length (Nat.le_refl _) h2
    rcases m.fresh i (inE_iff.2 (.inr ⟨k, r, hD k (by rw [← h.len]; exact k1), k2, k3, k4⟩)) h1 with hx | ⟨j, j1, j2, j3⟩
    · exact .inl hx
    · exact .inr ⟨j, j1, by rw [hf]; simp [Nat.testBit_or, j2], j3⟩
  · rw [hf]; simp [Nat.testBit_or, hw]
  · rw [m.tmp d hd, ← htm d]
    simp only [vget, blt_true hd, cond_true]
  · rw [hn, show f'.t = stT f.t rs rs.length from by rw [hf]]; exact hto
  · rw [m.defers, show f'.ds = f.ds from by rw [hf]]
    exact marks_same (n := f.s.n) (fun i hi => ⟨(m.agree i (.inl hi)).1.symm, (m.agree i (.inl hi)).2.symm⟩) m.dlt
  · rw [show f'.ds = f.ds from by rw [hf]] at hd
    rw [hn]
    exact Nat.lt_of_lt_of_le (m.dlt d hd) (h.n_mono (k := 0) rs.length (Nat.zero_le _) (Nat.le_refl _))
theorem wp_drawn (hN : NoNum P) (hcall : CallSpec P call) (h : Reg P call nt ops f rs bs) {σ₀ : Sub} {w₀ : World} {R : Option Nat} {Q : Exit → Act → World → Prop}
    (hQ : ∀ D σ a w, (∀ k, k < ops.size → D k) → Mid P nt ops f rs σ₀ w₀ D σ a w → Q .normal a w) :
    ∀ (fuel : Nat) (listed : Array Bool) (σ : Sub) (a : Act) (w : World), listed.size = ops.size → cntUn ops.size listed ≤ fuel → Closed ops.size (pr bs) (Dn listed) → Mid P nt ops f rs σ₀ w₀ (Dn listed) σ a w → wpAnyIn (FW R) 0 P .any ops Q fuel listed a w
  | 0, listed, σ, a, w, hs, hc, hcl, m => by
    have hall : ∀ k, k < ops.size → Dn listed k := fun k hk => by
      have := cntUn_zero (l := listed) ops.size (by omega) k hk
      unfold Dn
      rw [getD_both (by omega) false true]; exact this
    refine ⟨?_, hQ _ σ a w hall m⟩
    cases hr : Region.ready .any ops listed with
    | nil => rfl
    | cons j l =>
      have hm : j ∈ Region.ready .any ops listed := by rw [hr]; exact List.mem_cons_self
      obtain ⟨h1, o, h2, _⟩ := mem_ready.1 hm
      have hlt : j < ops.size := (Array.getElem?_eq_some_iff.1 h2).1
      have := hall j hlt
      unfold Dn at this
      rw [getD_both (by omega) false true, h1] at this
      cases this
  | fuel + 1, listed, σ, a, w, hs, hc, hcl, m => by
    refine ⟨fun hr => hQ _ σ a w (all_listed h hs hr) m, fun j hj => ?_⟩
    obtain ⟨h1, o, h2, h3⟩ := mem_ready.1 hj
    have hlt : j < ops.size := (Array.getElem?_eq_some_iff.1 h2).1
    have hnd : ¬ Dn listed j := fun hd => by
      unfold Dn at hd
      rw [getD_both (by omega) false true, h1] at hd; cases hd
    have hpre : ∀ i, pr bs j i → Dn listed i := fun i hi => by
      obtain ⟨e, he, hb, hx⟩ := h.pre j o h2 i hi
      have hd : Dn listed e.on := h3 e he hb
      rcases hx with rfl | hx
      · exact hd
      · exact hcl e.on i hd hx
    have hD' : ∀ i, Dn (listed.setIfInBounds j true) i ↔ Dn listed i ∨ i = j := fun i => by
      unfold Dn
      by_cases he : i = j
      · subst he; simp [show i < listed.size by omega]
      · rw [getD_set_ne false (Ne.symm he)]; simp [he]
    refine mid_step hN hcall h m hlt hcl hpre hnd hD' (K := wpAnyIn (FW R) 0 P .any ops Q fuel (listed.setIfInBounds j true)) fun σ' a' w' m' => ?_
    refine wp_drawn hN hcall h hQ fuel _ σ' a' w' (by simp [hs]) ?_ ?_ m'
    · have := cntUn_set (l := listed) (i := j) (by omega) h1 ops.size
      rw [if_pos hlt] at this
      omega
    · intro k i hk hp
      rcases (hD' k).1 hk with hk | rfl
      · exact (hD' i).2 (.inl (hcl k i hk hp))
      · exact (hD' i).2 (.inl (hpre i hp))
end
theorem draw_spec {P : Program} (hN : NoNum P) (hm : P.follows .mixedOrders = true) {call : Caller} (hcall : CallSpec P call) : DrawSpec P (evDraw P call) := by
  intro nt ops f f' he R id Q σ a w hf hQ
  unfold evDraw at he
  cases hs : evSteps P call nt ops ops.toList f.t f.s with
  | none => rw [hs] at he; cases he
  | some rs =>
    rw [hs] at he
    simp only at he
    cases hc : (edgesOk 0 ops.toList && pairs ops (pres ops.toList []) 0 (ops.toList.zip rs) && inScope f.s.n (pres ops.toList []) rs 0 rs) with
    | false => rw [hc] at he; cases he
    | true =>
      rw [hc] at he
      simp only [cond_true, Option.some.injEq] at he
      simp only [Bool.and_eq_true] at hc
      obtain ⟨⟨c1, c2⟩, c3⟩ := hc
      obtain ⟨e1, e2, e3⟩ := evSteps_ok ops.toList f.t f.s rs hs hf.ok hf.to
      obtain ⟨p1, p2, p3⟩ := pres_spec ops.toList []
      have hreg : Reg P call nt ops f rs (pres ops.toList []) := by
        refine ⟨by simpa using e1, e2, fun k r hk => ?_, fun k o hk e hx hb => ?_, fun i j x y o p hij hx hy ho hp => ?_, fun k r hk => ?_, fun j o hj i hi => ?_⟩
        · obtain ⟨o, h1, h2⟩ := e3 k r hk
          exact ⟨o, by simpa using h1, h2⟩
        · have := edgesOk_spec ops.toList 0 c1 k o (by simpa using hk) e hx hb
          omega
        · have h1 : (ops.toList.zip rs)[i]? = some (o, x) := by
            rw [List.getElem?_zip_eq_some]; exact ⟨by simpa using ho, hx⟩
          have h2 : (ops.toList.zip rs)[j]? = some (p, y) := by
            rw [List.getElem?_zip_eq_some]; exact ⟨by simpa using hp, hy⟩
          have := pairs_spec _ 0 c2 i j _ _ hij h1 h2
          simpa using this
        · have := inScope_spec rs 0 c3 k r hk
          rw [Nat.zero_add] at this
          exact this
        · obtain ⟨acc, h1, h2⟩ := p3 j o (by simpa using hj)
          simp only [List.length_nil, Nat.zero_add] at h1 h2
          have hb : (pres ops.toList []).getD j 0 = preBits acc o := by rw [List.getD_eq_getElem?_getD, h1]; rfl
          rw [hb] at hi
          rcases preBits_spec acc i o.after.toList 0 hi with h3 | ⟨e, h3, h4, h5⟩
          · simp at h3
          · refine ⟨e, by simpa using h3, h4, ?_⟩
            rcases h5 with h5 | h5
            · exact .inl h5
            · right
              rw [h2 e.on] at h5
              by_cases hq : e.on < j
              · rw [if_pos hq] at h5; exact h5
              · rw [if_neg hq] at h5; simp at h5
      have hd := Aft.drew hf.rel hf.ok (w.drawn + 1)
      have hf0 : FRel P σ nt f a { w with drawn := w.drawn + 1 } := ⟨hd.rel, hf.ok, hf.tr, hf.to, hf.ds, hf.dlt⟩
      refine wpIn_region_any hm ?_
      refine wp_drawn hN hcall hreg (σ₀ := σ) (w₀ := { w with drawn := w.drawn + 1 }) (fun D σ' a' w' hD m => ?_) ops.size _ σ a _ (by simp) (cntUn_le _ _) (fun j i hj _ => ?_) (Mid.start hreg hf0 fun k hk => ?_)
      · obtain ⟨ha, hfr⟩ := mid_end hreg hD m he.symm
        exact hQ σ' a' w' (hd.trans ha) hfr
      · unfold Dn at hj
        by_cases hjn : j < ops.size
        · simp [Array.getD, hjn] at hj
        · simp [Array.getD, hjn] at hj
      · unfold Dn at hk
        by_cases hkn : k < ops.size
        · simp [Array.getD, hkn] at hk
        · simp [Array.getD, hkn] at hk
/-- The reckoning of a call, whatever its arguments. -/
def ev (P : Program) (n : Nat) : Caller := evCall P (evDraw P) n
theorem ev_spec {P : Program} (hN : NoNum P) (hm : P.follows .mixedOrders = true) (n : Nat) : CallSpec P (ev P n) := evCall_spec hN (fun _ h => draw_spec hN hm h) n
/-- The names of the package-level variables, those first that are known. -/
def hsG (P : Program) (l : List (Nat × List Value)) : Hs := ⟨P.globals.size, l.foldr (fun p h => tset HD h p.1 (.cells p.2 0 .ro)) .e, 0⟩
/-- They hold what is known of them. -/
def Holds (l : List (Nat × List Value)) (w : World) : Prop := ∀ p ∈ l, ∃ tail ty fr, w.heap[p.1]? = some (.cells (p.2 ++ tail).toArray ty fr)
theorem holds_nil (w : World) : Holds [] w := fun p hp => by cases hp
theorem holds_cons {g : Nat} {v : Value} {vs : List Value} {l : List (Nat × List Value)} {w : World} (h : ∀ i u, (v :: vs)[i]? = some u → w.cell? ⟨g, i, none⟩ = some u) (hl : Holds l w) : Holds ((g, v :: vs) :: l) w := by
  intro p hp
  rcases List.mem_cons.1 hp with rfl | hp
  · have h0 := h 0 v rfl
    unfold World.cell? at h0
    cases hb : w.heap[g]? with
    | none => rw [hb] at h0; cases h0
    | some o =>
      cases o with
      | cells c ty fr =>
        refine ⟨c.toList.drop (v :: vs).length, ty, fr, ?_⟩
        have hc : c.toList.take (v :: vs).length = v :: vs := by
          apply List.ext_getElem?
          intro i
          by_cases hi : i < (v :: vs).length
          · have h1 := h i _ (List.getElem?_eq_getElem hi)
            simp only [World.cell?, hb, Option.isSome_none, Bool.false_eq_true, if_false] at h1
            rw [List.getElem?_take, if_pos hi, List.getElem?_eq_getElem hi, ← h1]
            simp
          · rw [List.getElem?_take, if_neg hi, List.getElem?_eq_none (Nat.le_of_not_lt hi)]
        have h2 := List.take_append_drop (v :: vs).length c.toList
        rw [hc] at h2
        rw [h2]
      | _ => rw [hb] at h0; cases h0
  · exact hl p hp
def listOk (P : Program) (l : List (Nat × List Value)) : Bool := Nat.ble P.globals.size (2 ^ HD) && l.all (fun p => Nat.blt p.1 P.globals.size && bdL 0 p.2)
theorem hsG_get {P : Program} : ∀ (l : List (Nat × List Value)), (∀ p ∈ l, p.1 < P.globals.size) → P.globals.size ≤ 2 ^ HD → ∀ i ob, (hsG P l).get i = some ob → ∃ p ∈ l, p.1 = i ∧ ob = .cells p.2 0 .ro
  | [], _, _, i, ob, hi => by
    simp only [hsG, List.foldr_nil] at hi
    unfold Hs.get at hi
    rw [tget_e] at hi
    cases hb : Nat.blt i P.globals.size <;> simp [hb] at hi
  | p :: l, hl, ht, i, ob, hi => by
    have hp := hl p List.mem_cons_self
    have : (hsG P (p :: l)).get i = if i = p.1 then some (.cells p.2 0 .ro) else (hsG P l).get i := Hs.get_set (n := P.globals.size) (wr := 0) (wr' := 0) ht hp
    rw [this] at hi
    by_cases he : i = p.1
    · rw [if_pos he] at hi
      injection hi with hi
      exact ⟨p, List.mem_cons_self, he.symm, hi.symm⟩
    · rw [if_neg he] at hi
      obtain ⟨q, h1, h2⟩ := hsG_get l (fun q hq => hl q (List.mem_cons_of_mem _ hq)) ht i ob hi
      exact ⟨q, List.mem_cons_of_mem _ h1, h2⟩
theorem hsG_rel {P : Program} {l : List (Nat × List Value)} (hl : listOk P l = true) {w : World} (hw : Holds l w) : Rel P ⟨id, id⟩ (hsG P l) w ∧ (hsG P l).Ok := by
  simp only [listOk, Bool.and_eq_true, Nat.ble_eq, List.all_eq_true, Nat.blt_eq] at hl
  have hget := hsG_get (P := P) l (fun p hp => (hl.2 p hp).1) hl.1
  refine ⟨⟨fun i ob hi => ?_, fun i j hi hj he => he, fun _ _ => rfl, Nat.le_refl _⟩, ⟨hl.1, fun i ob hi => ?_⟩⟩
  · obtain ⟨p, hp, rfl, rfl⟩ := hget i ob hi
    obtain ⟨tail, ty, fr, h1⟩ := hw p hp
    refine ⟨tail, ty, fr, ?_, (fun h => absurd rfl h), (fun h => by cases h), (fun h => by cases h)⟩
    have : p.2.map (ren ⟨id, id⟩) = p.2 := by rw [← renL_map]; exact renL_free _ p.2 (hl.2 p hp).2
    rw [this]; exact h1
  · obtain ⟨p, hp, rfl, rfl⟩ := hget i ob hi
    exact ⟨(hl.2 p hp).1, bdL_mono (Nat.zero_le _) _ (hl.2 p hp).2⟩
/-- What a closed call is reckoned to return. -/
def evV (P : Program) (n : Nat) (l : List (Nat × List Value)) (k : FuncId) (args : List Value) : Option Value :=
  match ev P n true k args (hsG P l) with
  | some (v, s') => bif bd 0 v && Nat.beq (s'.wr % 2 ^ P.globals.size) 0 && listOk P l && bdL 0 args then some v else none
  | none => none
/-- A CLOSED CALL: what it is reckoned to return it returns, in whatever memory in which the variables hold what is known of them, and leaves all that there was. -/
theorem closed {P : Program} (hN : NoNum P) (hm : P.follows .mixedOrders = true) (n : Nat) {l : List (Nat × List Value)} {k : FuncId} {args : List Value} {v : Value} (h : evV P n l k args = some v) (w : World) (hw : Holds l w) :
    Calls P k args.toArray w fun e w' => e = .returned v ∧ Go.RowKit.Below w.heap.size w w' := by
  unfold evV at h
  cases he : ev P n true k args (hsG P l) with
  | none => rw [he] at h; cases h
  | some q =>
    obtain ⟨u, s'⟩ := q
    rw [he] at h
    simp only at h
    cases hc : (bd 0 u && Nat.beq (s'.wr % 2 ^ P.globals.size) 0 && listOk P l && bdL 0 args) with
    | false => rw [hc] at h; cases h
    | true =>
      rw [hc] at h
      simp only [cond_true, Option.some.injEq] at h
      subst h
      simp only [Bool.and_eq_true] at hc
      obtain ⟨⟨⟨c1, c2⟩, c3⟩, c4⟩ := hc
      have c2' := Nat.eq_of_beq_eq_true c2
      obtain ⟨hr, ok⟩ := hsG_rel c3 hw
      have hC := ((ev_spec hN hm n).fn k args (hsG P l) u s' he).2 ⟨id, id⟩ w hr ok (bdL_mono (Nat.zero_le _) _ c4)
      have hargs : args.map (ren ⟨id, id⟩) = args := by rw [← renL_map]; exact renL_free _ args c4
      rw [hargs] at hC
      refine Calls.mono hC fun e w' hx => ?_
      obtain ⟨σ', hA, rfl⟩ := hx
      refine ⟨by rw [ren_free σ' u c1], ⟨hA.os, hA.tape, hA.output, hA.size, fun b hb => hA.frame b hb fun j hj hj2 => ?_⟩⟩
      have hj' : j < P.globals.size := hj
      have : (s'.wr % 2 ^ P.globals.size).testBit j = true := by rw [Nat.testBit_mod_two_pow]; simp [hj', hj2]
      rw [c2'] at this; simp at this
end Go.Proofs.Ytdfabagclnjoaaa
