import Derived.Test.YtdfabagclnjoaaaEvN
namespace Go.Proofs.Ytdfabagclnjoaaa
set_option linter.unusedSimpArgs false
set_option linter.unusedVariables false
open Go
/-- One operation of a region, as it is reckoned in the text's order. -/
structure Rc where
  t : Tr Value
  s : Hs
  v : Value
  n1 : Nat
  foot : Nat
  wr : Nat
  out : List Value
  t1 : Tr Value
  s1 : Hs
def merge (src : Hs) : List Nat → Tr Ob → Option (Tr Ob × List Value)
  | [], h => some (h, [])
  | i :: l, h =>
    match src.get i with
    | some ob =>
      match merge src l (tset HD h i ob) with
      | some (h', out) => some (h', match ob with | .cells c _ _ => c ++ out | _ => out)
      | none => none
    | none => none
theorem merge_get {src : Hs} (hn : src.n ≤ 2 ^ HD) (wr : Nat) : ∀ (l : List Nat) (h h' : Tr Ob) (out : List Value), merge src l h = some (h', out) →
    (∀ j, (Hs.mk src.n h' wr).get j = if j ∈ l then src.get j else (Hs.mk src.n h wr).get j) ∧ ∀ j ∈ l, ∀ c e g, src.get j = some (.cells c e g) → ∀ u ∈ c, u ∈ out
  | [], h, h', out, hm => by
    simp only [merge, Option.some.injEq, Prod.mk.injEq] at hm
    obtain ⟨rfl, rfl⟩ := hm
    exact ⟨fun j => by simp, fun j hj => by cases hj⟩
  | i :: l, h, h', out, hm => by
    simp only [merge] at hm
    cases hi : src.get i with
    | none => rw [hi] at hm; cases hm
    | some ob =>
      rw [hi] at hm
      simp only at hm
      cases hr : merge src l (tset HD h i ob) with
      | none => rw [hr] at hm; cases hm
      | some p =>
        obtain ⟨h2, out2⟩ := p
        rw [hr] at hm
        simp only [Option.some.injEq, Prod.mk.injEq] at hm
        obtain ⟨rfl, rfl⟩ := hm
        obtain ⟨i1, i2⟩ := merge_get hn wr l _ _ _ hr
        have hlt := Hs.get_lt hi
        refine ⟨fun j => ?_, fun j hj c e g hc u hu => ?_⟩
        · rw [i1 j, Hs.get_set (wr := wr) hn hlt]
          by_cases hjl : j ∈ l
          · simp [hjl]
          · by_cases he : j = i
            · subst he; simp [hjl, hi]
            · simp [hjl, he]
        · rcases List.mem_cons.1 hj with rfl | hj
          · rw [hi] at hc; injection hc with hc; subst hc
            exact List.mem_append_left _ hu
          · have := i2 j hj c e g hc u hu
            cases ob with
            | dead => exact this
            | raw o => exact this
            | loop st pe nt t ps as bo d => exact this
            | cells c' e' g' => exact List.mem_append_right _ this
def Ob.still : Ob → Bool
  | .loop .. => false
  | _ => true
def stillAt (s : Hs) (i : Nat) : Bool := match s.get i with
  | some ob => ob.still
  | none => true
def opNames (g : Nat) (s : Hs) (o : Oper) (ρ : Operand → Value) : List Nat :=
  let l := nmL (o.op.operands.toList.map ρ) []
  match o.op with
  | .call c => match c.callee with
    | .value _ => reach s 1000000 (l ++ List.range' 0 g) 0 []
    | _ => direct s l 0
  | .store _ a _ => direct s (nmL [ρ a] []) 0
  | .move _ | .assign _ | .pick .. | .fieldAddr .. | .field .. | .indexAddr .. | .build .. | .buildSlice .. | .box .. | .extract .. | .makeInterface .. | .makeFunc .. | .nilCheck _ => []
  | _ => direct s l 0
def evStep (P : Program) (call : Caller) (nt : Nat) (ops : Array Oper) (o : Oper) (t : Tr Value) (s : Hs) : Option Rc :=
  match vwanted nt ops t o with
  | false => some ⟨t, s, undef, s.n, 0, 0, [], vput nt t o.dst undef, s⟩
  | true =>
    let names := opNames P.globals.size s o (vget nt t)
    match restr s names with
    | (hr, foot) =>
      match evOp P call nt o t ⟨s.n, hr, 0⟩ with
      | none => none
      | some (v, s1) =>
        let wr := s1.wr % 2 ^ s.n
        bif Nat.beq (wr &&& foot) wr && Nat.ble s.n s1.n && Nat.ble s1.n (2 ^ HD) then
          match merge s1 (names.filter (fun i => wr.testBit i) ++ List.range' s.n (s1.n - s.n)) s.h with
          | some (h', out) => bif bdL s1.n (v :: out) && (names.filter (fun i => wr.testBit i) ++ List.range' s.n (s1.n - s.n)).all (stillAt s1) then some ⟨t, s, v, s1.n, foot, wr, v :: out, vput nt t o.dst v, ⟨s1.n, h', 0⟩⟩ else none
          | none => none
        else none
def Rc.W (r : Rc) (i : Nat) : Prop := r.wr.testBit i = true ∨ (r.s.n ≤ i ∧ i < r.n1)
structure Rc.Ok (P : Program) (call : Caller) (nt : Nat) (ops : Array Oper) (o : Oper) (r : Rc) : Prop where
  n : r.s.n ≤ r.n1
  top : r.n1 ≤ 2 ^ HD
  s1n : r.s1.n = r.n1
  t1 : r.t1 = vput nt r.t o.dst r.v
  keep : ∀ i, ¬ r.W i → r.s1.get i = r.s.get i
  foot : ∀ i, r.foot.testBit i = true → r.s.live i
  wr : ∀ i, r.wr.testBit i = true → r.foot.testBit i = true
  act : (vwanted nt ops r.t o = false ∧ r.v = undef ∧ r.wr = 0 ∧ r.n1 = r.s.n) ∨ (vwanted nt ops r.t o = true ∧ ∃ hr s1, (∀ i, (Hs.mk r.s.n hr 0).get i = if r.foot.testBit i then r.s.get i else none) ∧
    evOp P call nt o r.t ⟨r.s.n, hr, 0⟩ = some (r.v, s1) ∧ s1.n = r.n1 ∧ (∀ i, i < r.s.n → s1.wr.testBit i = r.wr.testBit i) ∧ (∀ i, r.W i → r.s1.get i = s1.get i) ∧ r.v ∈ r.out)
  out : ∀ i, r.W i → ∀ c e g, r.s1.get i = some (.cells c e g) → ∀ u ∈ c, u ∈ r.out
  bdv : bd r.n1 r.v = true
  still : ∀ i, r.W i → ∀ ob, r.s1.get i = some ob → ob.still = true
  ok1 : r.s1.Ok
theorem restr_mem {s : Hs} : ∀ (l : List Nat) (i : Nat), (restr s l).2.testBit i = true → i ∈ l
  | [], i, h => by simp [restr] at h
  | k :: l, i, h => by
    cases hk : s.get k with
    | none => simp only [restr, hk] at h; exact List.mem_cons_of_mem _ (restr_mem l i h)
    | some ob =>
      cases hal : ob.alive with
      | false =>
        cases ob with
        | dead => simp only [restr, hk] at h; exact List.mem_cons_of_mem _ (restr_mem l i h)
        | raw o => cases hal
        | loop st pe nt t ps as bo d => cases hal
        | cells c e g => cases hal
      | true =>
        have hr : restr s (k :: l) = (tset HD (restr s l).1 k ob, (restr s l).2 ||| 1 <<< k) := by
          cases ob with
          | dead => cases hal
          | raw o => simp only [restr, hk]
          | loop st pe nt t ps as bo d => simp only [restr, hk]
          | cells c e g => simp only [restr, hk]
        rw [hr] at h
        simp only at h
        rw [testBit_or_shift] at h
        by_cases he : i = k
        · subst he; exact List.mem_cons_self
        · simp only [he, decide_false, Bool.or_false] at h; exact List.mem_cons_of_mem _ (restr_mem l i h)
theorem evStep_ok {P : Program} {call : Caller} {nt : Nat} {ops : Array Oper} {o : Oper} {t : Tr Value} {s : Hs} {r : Rc} (h : evStep P call nt ops o t s = some r) (ok : s.Ok) :
    r.t = t ∧ r.s = s ∧ r.Ok P call nt ops o := by
  unfold evStep at h
  cases hv : vwanted nt ops t o with
  | false =>
    rw [hv] at h
    simp only [Option.some.injEq] at h
    subst h
    refine ⟨rfl, rfl, ⟨Nat.le_refl _, ok.top, rfl, rfl, fun _ _ => rfl, fun i hi => by simp at hi, fun i hi => by simp at hi, .inl ⟨hv, rfl, rfl, rfl⟩, fun i hw => ?_, bd_undef _, fun i hw => ?_, ok⟩⟩
    all_goals (rcases hw with hw | hw
               · simp at hw
               · simp only at hw; omega)
  | true =>
    rw [hv] at h
    simp only at h
    generalize hnames : opNames P.globals.size s o (vget nt t) = names at h
    cases hr : restr s names with
    | mk hr' foot =>
      rw [hr] at h
      simp only at h
      have hfoot : foot = (restr s names).2 := by rw [hr]
      have hrr : hr' = (restr s names).1 := by rw [hr]
      cases he : evOp P call nt o t ⟨s.n, hr', 0⟩ with
      | none => rw [he] at h; cases h
      | some p =>
        obtain ⟨v, s1⟩ := p
        rw [he] at h
        simp only at h
        cases hc : (Nat.beq (s1.wr % 2 ^ s.n &&& foot) (s1.wr % 2 ^ s.n) && Nat.ble s.n s1.n && Nat.ble s1.n (2 ^ HD)) with
        | false => rw [hc] at h; cases h
        | true =>
          rw [hc] at h
          simp only [cond_true] at h
          simp only [Bool.and_eq_true, Nat.ble_eq] at hc
          obtain ⟨⟨c1, c2⟩, c3⟩ := hc
          have c1' := Nat.eq_of_beq_eq_true c1
          generalize hwr : s1.wr % 2 ^ s.n = wr at h c1'
          cases hm : merge s1 (names.filter (fun i => wr.testBit i) ++ List.range' s.n (s1.n - s.n)) s.h with
          | none => rw [hm] at h; cases h
          | some q =>
            obtain ⟨h', out⟩ := q
            rw [hm] at h
            cases hbos : (bdL s1.n (v :: out) && (names.filter (fun i => wr.testBit i) ++ List.range' s.n (s1.n - s.n)).all (stillAt s1)) with
            | false => simp only [hbos, cond_false] at h; cases h
            | true =>
            simp only [hbos, cond_true, Option.some.injEq] at h
            simp only [Bool.and_eq_true] at hbos
            obtain ⟨hbo, hst⟩ := hbos
            have hstill : ∀ i ∈ names.filter (fun i => wr.testBit i) ++ List.range' s.n (s1.n - s.n), ∀ ob, s1.get i = some ob → ob.still = true := fun i hi ob hg => by
              have := List.all_eq_true.1 hst i hi
              unfold stillAt at this
              rw [hg] at this; exact this
            subst h
            obtain ⟨m1, m2⟩ := merge_get c3 0 _ _ _ _ hm
            have hwf : ∀ i, wr.testBit i = true → foot.testBit i = true := fun i hi => by
              rw [← c1', Nat.testBit_and, Bool.and_eq_true] at hi; exact hi.2
            have hrest := fun i => restr_get ok 0 names i
            have hmem : ∀ i, (i ∈ names.filter (fun i => wr.testBit i) ++ List.range' s.n (s1.n - s.n)) ↔ (wr.testBit i = true ∨ (s.n ≤ i ∧ i < s1.n)) := by
              intro i
              rw [List.mem_append, List.mem_filter, List.mem_range'_1]
              constructor
              · rintro (⟨_, h2⟩ | h2)
                · exact .inl h2
                · exact .inr ⟨h2.1, by omega⟩
              · rintro (h2 | h2)
                · exact .inl ⟨restr_mem names i (by rw [← hfoot]; exact hwf i h2), h2⟩
                · exact .inr ⟨h2.1, by omega⟩
            refine ⟨rfl, rfl, ⟨c2, c3, rfl, rfl, fun i hw => ?_, fun i hi => (hrest i).2 (by rw [← hfoot]; exact hi), hwf, .inr ⟨hv, hr', s1, fun i => ?_, he, rfl, fun i hi => ?_, fun i hw => ?_, List.mem_cons_self⟩, fun i hw c e g hg u hu => ?_, (bdL_iff _ _).1 hbo v List.mem_cons_self, (fun i hw ob hg => hstill i ((hmem i).2 hw) ob (by
              have hg' : (Hs.mk s1.n h' 0).get i = some ob := hg
              rw [m1 i, if_pos ((hmem i).2 hw)] at hg'
              exact hg')), ⟨c3, fun i ob hg => ⟨Hs.get_lt hg, ?_⟩⟩⟩⟩
            · show (Hs.mk s1.n h' 0).get i = s.get i
              have hw' : ¬ (wr.testBit i = true ∨ (s.n ≤ i ∧ i < s1.n)) := hw
              rw [m1 i, if_neg (fun hx => hw' ((hmem i).1 hx))]
              unfold Hs.get
              by_cases h1 : i < s.n
              · rw [blt_true h1, blt_true (show i < s1.n by omega)]
              · by_cases h2 : i < s1.n
                · exact absurd (.inr ⟨by omega, h2⟩) hw'
                · rw [blt_false h1, blt_false h2]
            · rw [hrr, hfoot]; exact (hrest i).1
            · rw [← hwr, Nat.testBit_mod_two_pow]; simp [hi]
            · show (Hs.mk s1.n h' 0).get i = s1.get i
              rw [m1 i, if_pos ((hmem i).2 hw)]
            · refine List.mem_cons_of_mem _ (m2 i ((hmem i).2 hw) c e g ?_ u hu)
              have : (Hs.mk s1.n h' 0).get i = some (.cells c e g) := hg
              rw [m1 i, if_pos ((hmem i).2 hw)] at this
              exact this
            · have hg' : (Hs.mk s1.n h' 0).get i = some ob := hg
              rw [m1 i] at hg'
              cases ob with
              | dead => rfl
              | raw o => rfl
              | loop st pe nt t ps as bo d =>
                by_cases hw : i ∈ names.filter (fun i => wr.testBit i) ++ List.range' s.n (s1.n - s.n)
                · rw [if_pos hw] at hg'
                  have := hstill i hw _ hg'
                  cases this
                · rw [if_neg hw] at hg'
                  have hold : s.get i = some (.loop st pe nt t ps as bo d) := by
                    have hlt := Hs.get_lt hg'
                    unfold Hs.get at hg' ⊢
                    by_cases h1 : i < s.n
                    · rw [blt_true h1]
                      rw [blt_true (show i < s1.n from hlt)] at hg'
                      exact hg'
                    · exact absurd ((hmem i).2 (.inr ⟨by omega, hlt⟩)) hw
                  exact Ob.bd_mono c2 _ (ok.bd i _ hold).2
              | cells c e g =>
                by_cases hw : i ∈ names.filter (fun i => wr.testBit i) ++ List.range' s.n (s1.n - s.n)
                · rw [if_pos hw] at hg'
                  have hin := m2 i hw c e g hg'
                  show bdL s1.n c = true
                  rw [bdL_iff]
                  exact fun u hu => (bdL_iff _ _).1 hbo u (List.mem_cons_of_mem _ (hin u hu))
                · rw [if_neg hw] at hg'
                  have hold : s.get i = some (.cells c e g) := by
                    have hlt := Hs.get_lt hg'
                    unfold Hs.get at hg' ⊢
                    by_cases h1 : i < s.n
                    · rw [blt_true h1]
                      rw [blt_true (show i < s1.n from hlt)] at hg'
                      exact hg'
                    · exact absurd ((hmem i).2 (.inr ⟨by omega, hlt⟩)) hw
                  exact bdL_mono c2 c (ok.bd i _ hold).2
end Go.Proofs.Ytdfabagclnjoaaa
