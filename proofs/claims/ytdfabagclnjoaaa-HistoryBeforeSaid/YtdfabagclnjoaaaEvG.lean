import Derived.Lib.AppendZeros
import Derived.Test.YtdfabagclnjoaaaEvF
namespace Go.Proofs.Ytdfabagclnjoaaa
set_option linter.unusedSimpArgs false
set_option linter.unusedVariables false
open Go
def Hs.kill (s : Hs) (i : Nat) : Hs := ⟨s.n, tset HD s.h i .dead, s.wr ||| 1 <<< i⟩
theorem get_kill {s : Hs} (ok : s.Ok) {i j : Nat} (hi : i < s.n) : (s.kill i).get j = if j = i then some .dead else s.get j := Hs.get_set (wr := s.wr) ok.top hi
theorem Aft.kill {P : Program} {σ : Sub} {s : Hs} {w : World} (h : Rel P σ s w) (ok : s.Ok) {i : Nat} (hi : i < s.n) : Aft P σ s w σ (s.kill i) w := by
  have hget := fun j => get_kill (j := j) ok hi
  have hlive : ∀ j, (s.kill i).live j → s.live j ∧ j ≠ i := by
    rintro j ⟨ob, hj, al⟩
    rw [hget j] at hj
    by_cases he : j = i
    · rw [if_pos he] at hj; injection hj with hj; subst hj; cases al
    · rw [if_neg he] at hj; exact ⟨⟨_, hj, al⟩, he⟩
  refine ⟨Nat.le_refl _, fun _ _ => ⟨rfl, rfl⟩, ⟨fun j ob hj => ?_, fun j k hj hk he => h.inj j k (hlive j hj).1 (hlive k hk).1 he, h.gl, h.ge⟩, ⟨ok.top, fun j ob hj => ?_⟩, Nat.le_refl _, rfl, rfl, rfl, fun j hj => by simp [Hs.kill, Nat.testBit_or, hj], fun j h1 h2 => by simp [Hs.kill] at h2; omega, fun _ _ _ => rfl⟩
  · rw [hget j] at hj
    by_cases he : j = i
    · rw [if_pos he] at hj; injection hj with hj; subst hj; trivial
    · rw [if_neg he] at hj; exact h.at_ j ob hj
  · rw [hget j] at hj
    by_cases he : j = i
    · rw [if_pos he] at hj; injection hj with hj; subst hj; subst he; exact ⟨hi, rfl⟩
    · rw [if_neg he] at hj; exact ok.bd j ob hj
/-- A row that grew, in a block of its own or in one that nobody has any more. -/
theorem Aft.grown {P : Program} {σ : Sub} {s : Hs} {w w' : World} (h : Rel P σ s w) (ok : s.Ok) (hn : s.n < 2 ^ HD) (c : List Value) (e : TypeId) (b room : Nat) (tail : List Value)
    (hb : bdL s.n c = true) (hcell : w'.heap[b]? = some (.cells (c.map (ren σ) ++ tail).toArray e (0, 0))) (hroom : c.length + tail.length = room * P.cellsOf e) (hmax : room ≤ maxLen)
    (hsz : w.heap.size ≤ w'.heap.size) (hos : w'.os = w.os) (htp : w'.tape = w.tape) (hou : w'.output = w.output)
    (hkeep : ∀ k, k < w.heap.size → (∀ j, j < s.n → s.wr.testBit j = true → σ.b j ≠ k) → w'.heap[k]? = w.heap[k]?)
    (hlive : ∀ j, s.live j → w'.heap[σ.b j]? = w.heap[σ.b j]? ∧ σ.b j ≠ b)
    (hnew : w.heap.size ≤ b ∨ ∃ j, j < s.n ∧ s.wr.testBit j = true ∧ b = σ.b j) :
    ∃ σ', σ'.b s.n = b ∧ σ'.c s.n = room ∧ Aft P σ s w σ' ⟨s.n + 1, tset HD s.h s.n (.cells c e .grown), s.wr⟩ w' := by
  let σ' : Sub := ⟨fun i => if i = s.n then b else σ.b i, fun i => if i = s.n then room else σ.c i⟩
  have hsame : Sub.same s.n σ' σ := fun i hi => by
    have : i ≠ s.n := by omega
    simp [σ', this]
  have hget := fun j => Hs.get_push (s := s) (j := j) (ob := .cells c e .grown) hn
  have hcase : ∀ j ob, (Hs.mk (s.n + 1) (tset HD s.h s.n (.cells c e .grown)) s.wr).get j = some ob → (j = s.n ∧ ob = .cells c e .grown) ∨ (j < s.n ∧ s.get j = some ob) := by
    intro j ob hj
    rw [hget j] at hj
    by_cases he : j = s.n
    · rw [if_pos he] at hj; exact .inl ⟨he, by injection hj with hj; exact hj.symm⟩
    · rw [if_neg he] at hj; exact .inr ⟨Hs.get_lt hj, hj⟩
  have hnewb : σ'.b s.n = b := by simp [σ']
  have hroomb : σ'.c s.n = room := by simp [σ']
  refine ⟨σ', hnewb, hroomb, ⟨by simp, fun i hi => ?_, ⟨fun i ob hi => ?_, fun i j hi hj he => ?_, fun i hi => by rw [(hsame i (Nat.lt_of_lt_of_le hi h.ge)).1]; exact h.gl i hi, Nat.le_succ_of_le h.ge⟩, ⟨by simp; omega, fun i ob hi => ?_⟩, hsz, hos, htp, hou, fun _ h => h, fun i h1 h2 => ?_, fun k hk hne => hkeep k hk hne⟩⟩
  · have : i ≠ s.n := by
      rcases hi with hi | hi
      · omega
      · simp only at hi; omega
    simp [σ', this]
  · rcases hcase i ob hi with ⟨rfl, rfl⟩ | ⟨hlt, ho⟩
    · refine ⟨tail, e, (0, 0), ?_, (fun _ => ⟨rfl, rfl⟩), (fun h => by cases h), (fun _ => by rw [hroomb]; exact ⟨hroom, hmax⟩)⟩
      rw [hnewb]
      have : c.map (ren σ') = c.map (ren σ) := List.map_congr_left fun v hv => ren_congr hsame v ((bdL_iff _ c).1 hb v hv)
      rw [this]; exact hcell
    · have hb := (ok.bd i ob ho).2
      cases hal : ob.alive with
      | false => cases ob <;> first | trivial | cases hal
      | true => exact Ob.At_congr hsame hlt hb (hlive i ⟨ob, ho, hal⟩).1 (h.at_ i _ ho)
  · obtain ⟨ob1, h1, al1⟩ := hi
    obtain ⟨ob2, h2, al2⟩ := hj
    rcases hcase i _ h1 with ⟨rfl, _⟩ | ⟨hi, ho1⟩ <;> rcases hcase j _ h2 with ⟨rfl, _⟩ | ⟨hj, ho2⟩
    · rfl
    · rw [hnewb, (hsame j hj).1] at he
      exact absurd he.symm (hlive j ⟨_, ho2, al2⟩).2
    · rw [hnewb, (hsame i hi).1] at he
      exact absurd he (hlive i ⟨_, ho1, al1⟩).2
    · rw [(hsame i hi).1, (hsame j hj).1] at he
      exact h.inj i j ⟨_, ho1, al1⟩ ⟨_, ho2, al2⟩ he
  · rcases hcase i ob hi with ⟨rfl, rfl⟩ | ⟨hi, ho⟩
    · exact ⟨by simp, bdL_mono (by simp) c hb⟩
    · exact ⟨by simp; omega, Ob.bd_mono (by simp) ob (ok.bd i ob ho).2⟩
  · have : i = s.n := by simp at h2; omega
    subst this; rw [hnewb]
    exact hnew
def cellsAt (s : Hs) (i off n : Nat) : Option (List Value) :=
  match s.get i with
  | some (.cells c _ _) => let l := (c.drop off).take n; bif Nat.beq l.length n then some l else none
  | _ => none
theorem cellsAt_some {P : Program} {σ : Sub} {s : Hs} {w : World} {i off n : Nat} {l : List Value} (h : cellsAt s i off n = some l) (hr : Rel P σ s w) (ok : s.Ok) :
    l.length = n ∧ bdL s.n l = true ∧ ∀ j v, (l.map (ren σ))[j]? = some v → w.cell? ((⟨σ.b i, off, none⟩ : Addr).add j) = some v := by
  unfold cellsAt at h
  split at h
  · rename_i c e g hg
    simp only at h
    cases hl : Nat.beq ((c.drop off).take n).length n with
    | false => rw [hl] at h; cases h
    | true =>
      rw [hl] at h
      simp only [cond_true, Option.some.injEq] at h
      subst h
      have hl' := Nat.eq_of_beq_eq_true hl
      obtain ⟨tail, ty, fr, h1, _, _, _⟩ := hr.at_ i _ hg
      refine ⟨hl', ?_, fun j v hj => ?_⟩
      · have hc := (bdL_iff _ _).1 (ok.bd i _ hg).2
        rw [bdL_iff]
        exact fun v hv => hc v (List.mem_of_mem_drop (List.mem_of_mem_take hv))
      · rw [add_none, cell_of h1]
        have hj' : j < ((c.drop off).take n).length := by
          rcases Nat.lt_or_ge j ((c.drop off).take n).length with hlt | hge
          · exact hlt
          · rw [List.getElem?_eq_none (by simpa using hge)] at hj; cases hj
        have hjt : j < n := by omega
        have hjc : off + j < c.length := by simp at hj'; omega
        rw [List.getElem?_append_left (by simpa using hjc)]
        rw [← hj]
        simp [List.getElem?_take, hjt, List.getElem?_drop]
  · cases h
/-- What is appended. -/
def evNews (s : Hs) (size : Nat) : Value → Option (Nat × List Value)
  | .slice (some ⟨j, off, none⟩) m _ =>
    match cellsAt s j off (m * size) with
    | some l => bif Nat.blt 0 m && l.all (·.oneCell') then some (m, l) else none
    | none => none
  | _ => none
def evAppend (P : Program) (s : Hs) (t : TypeId) (sv xv : Value) : Option (Value × Hs) :=
  match P.underlying t with
  | some (.slice e) =>
    match P.info? e with
    | some ie =>
      match ie.zero, evNews s ie.size xv with
      | some z, some (m, news) =>
        bif Nat.blt 0 ie.size && Nat.beq z.cells.size ie.size && Nat.blt s.n (2 ^ HD) then
          match sv with
          | .slice none 0 0 =>
            bif Nat.ble m 1000000 && Nat.ble (m * ie.bytes) 140737488355328 then
            some (.slice (some ⟨s.n, 0, none⟩) m (2 * bigCap), ⟨s.n + 1, tset HD s.h s.n (.cells news e .grown), s.wr⟩)
            else none
          | .slice (some ⟨i, o, none⟩) n cap =>
            bif Nat.ble (n + m) 1000000 && Nat.ble ((n + m) * ie.bytes) 140737488355328 then
            match cellsAt s i o (n * ie.size), s.get i with
            | some olds, some (.cells c e2 g) =>
              bif Nat.blt cap bigCap && Nat.blt cap (n + m) then
                some (.slice (some ⟨s.n, 0, none⟩) (n + m) (2 * bigCap), ⟨s.n + 1, tset HD s.h s.n (.cells (olds ++ news) e .grown), s.wr⟩)
              else bif Nat.beq o 0 && Nat.beq e2 e && ((g.isGrown && Nat.beq cap (2 * bigCap)) || (g.isFixed && Nat.blt cap bigCap && Nat.beq c.length (cap * ie.size) && Nat.ble n cap)) then
                some (.slice (some ⟨s.n, 0, none⟩) (n + m) (2 * bigCap), ⟨s.n + 1, tset HD (s.kill i).h s.n (.cells (olds ++ news) e .grown), (s.kill i).wr⟩)
              else none
            | _, _ => none
            else none
          | _ => none
        else none
      | _, _ => none
    | none => none
  | _ => none
theorem evNews_some {P : Program} {σ : Sub} {s : Hs} {w : World} {size m : Nat} {x : Value} {l : List Value} (h : evNews s size x = some (m, l)) (hr : Rel P σ s w) (ok : s.Ok) :
    ∃ a c, ren σ x = .slice (some a) m c ∧ 0 < m ∧ (l.map (ren σ)).length = m * size ∧ bdL s.n l = true ∧ (∀ j v, (l.map (ren σ))[j]? = some v → w.cell? (a.add j) = some v) ∧ ∀ u ∈ l.map (ren σ), u.oneCell' = true := by
  unfold evNews at h
  split at h
  · rename_i j off m' cp
    split at h
    · rename_i l' hl
      cases hc : (Nat.blt 0 m' && l'.all (·.oneCell')) with
      | false => rw [hc] at h; cases h
      | true =>
        rw [hc] at h
        simp only [Bool.and_eq_true, Nat.blt_eq] at hc
        simp only [cond_true, Option.some.injEq, Prod.mk.injEq] at h
        obtain ⟨rfl, rfl⟩ := h
        obtain ⟨h1, h2, h3⟩ := cellsAt_some hl hr ok
        refine ⟨⟨σ.b j, off, none⟩, _, by simp only [ren, renOff_none]; rfl, hc.1, by simpa using h1, h2, h3, fun u hu => ?_⟩
        obtain ⟨v, hv, rfl⟩ := List.mem_map.1 hu
        rw [oneCell_ren]; exact List.all_eq_true.1 hc.2 v hv
    · cases h
  · cases h
theorem drewAlloc_heap (w : World) (a : Array Value) (e : TypeId) : (w.drew.alloc (.cells a e)).heap = w.heap.push (.cells a e (0, 0)) := rfl
theorem append_does {P : Program} {σ : Sub} {s s' : Hs} {w : World} {t ty : TypeId} {sv xv v : Value} (h : evAppend P s t sv xv = some (v, s')) (hr : Rel P σ s w) (ok : s.Ok) :
    Does P σ s w (do pure (.value (← Builtin.append_ #[t, t] ty #[ren σ sv, ren σ xv]))) v s' := by
  unfold evAppend at h
  split at h
  · rename_i e hu
    split at h
    · rename_i ie hi
      split at h
      · rename_i z m news hz hne
        cases hc : (Nat.blt 0 ie.size && Nat.beq z.cells.size ie.size && Nat.blt s.n (2 ^ HD)) with
        | false => rw [hc] at h; cases h
        | true =>
          rw [hc] at h
          simp only [Bool.and_eq_true, Nat.blt_eq] at hc
          obtain ⟨⟨c1, c2⟩, c3⟩ := hc
          have c2' := Nat.eq_of_beq_eq_true c2
          simp only [cond_true] at h
          obtain ⟨a, cx, hx, n1, n2, n3, n4, n5⟩ := evNews_some (σ := σ) (w := w) hne hr ok
          have hco : P.cellsOf e = ie.size := by simp [Program.cellsOf, hi]
          have hmax : (1000000 : Nat) ≤ maxLen := by decide
          split at h
          · -- from nil
            cases hcc : (Nat.ble m 1000000 && Nat.ble (m * ie.bytes) 140737488355328) with
            | false => rw [hcc] at h; cases h
            | true =>
              rw [hcc] at h
              simp only [Bool.and_eq_true, Nat.ble_eq] at hcc
              simp only [cond_true, Option.some.injEq, Prod.mk.injEq] at h
              obtain ⟨rfl, rfl⟩ := h
              obtain ⟨v', w', hrun, hown, hgr, _, hblk⟩ := run_append_own_at (P := P) w 0 t ty e ie z ie.size ie.bytes hu hi hz rfl rfl c2' c1 (.slice none 0 0) 0 [] ⟨by simp, .inl ⟨rfl, rfl⟩⟩ a m cx (news.map (ren σ)) n2 n4 n5 (by simp; omega) (by simpa using hcc.2) (Nat.zero_le _)
              rcases hown.2 with ⟨_, hbad⟩ | ⟨b, room, cur, rfl, _, hcell, hnc, hcm, hcs, htk⟩
              · omega
              · simp only [Nat.zero_add] at htk hrun
                have hb : b = w.heap.size := by
                  rcases hblk with hb | hb
                  · simp [Value.ownBlock] at hb
                  · simpa [Value.ownBlock] using hb
                have hcur : cur = (news.map (ren σ) ++ cur.toList.drop (m * ie.size)).toArray := by
                  have := List.take_append_drop (m * ie.size) cur.toList
                  rw [htk] at this
                  simp only [List.nil_append] at this
                  rw [this]
                obtain ⟨σ', s1, s2, ha⟩ := Aft.grown hr ok c3 news e b room (cur.toList.drop (m * ie.size)) n3 (by rw [← hcur]; exact hcell)
                  (by
                    have hle : m * ie.size ≤ cur.size := by rw [hcs]; exact Nat.mul_le_mul_right _ (by omega)
                    have hn2 : news.length = m * ie.size := by simpa using n2
                    have e1 : (cur.toList.drop (m * ie.size)).length = cur.size - m * ie.size := by simp
                    rw [hco, ← hcs, e1]; omega) hcm hgr.size hgr.os hgr.tape hgr.output (fun k hk _ => hgr.block k hk (by simp [Value.ownBlock]))
                  (fun j hj => ⟨hgr.block _ (hr.lt hj) (by simp [Value.ownBlock]), by have := hr.lt hj; omega⟩) (.inl (by omega))
                refine Does.value ha ?_
                rw [hx]
                simp only [ren, renOff_none]
                rw [hrun, s1, cap_big, s2]
          · -- from a row
            rename_i i o n cap
            cases hcc : (Nat.ble (n + m) 1000000 && Nat.ble ((n + m) * ie.bytes) 140737488355328) with
            | false => rw [hcc] at h; cases h
            | true =>
              rw [hcc] at h
              simp only [Bool.and_eq_true, Nat.ble_eq] at hcc
              simp only [cond_true] at h
              split at h
              · rename_i olds c e2 g holds hg
                obtain ⟨o1, o2, o3⟩ := cellsAt_some (σ := σ) (w := w) holds hr ok
                cases hgrow : (Nat.blt cap bigCap && Nat.blt cap (n + m)) with
                | true =>
                  rw [hgrow] at h
                  simp only [Bool.and_eq_true, Nat.blt_eq] at hgrow
                  simp only [cond_true, Option.some.injEq, Prod.mk.injEq] at h
                  obtain ⟨rfl, rfl⟩ := h
                  have hrun := run_append_grow (P := P) (w := w) t ty e ie z hu hi hz ⟨σ.b i, o, none⟩ n cap (olds.map (ren σ)) (by simpa using o1) o3 a m cx (news.map (ren σ)) n2 n4 hgrow.2 (by simp only [maxLen] at hmax; omega) (growslice_fits hgrow.2 hcc.2)
                  generalize hcap : grownCap w (n + m) cap e = room at hrun
                  have hge : n + m ≤ room := by rw [← hcap]; exact grownCap_ge w (n + m) cap e
                  have hle : room ≤ maxLen := by rw [← hcap]; exact grownCap_le_maxLen w (n + m) cap e (by omega)
                  have hzc : (Builtin.zeroCells z.cells (room - (n + m))).size = (room - (n + m)) * ie.size := by simp [Builtin.zeroCells, c2']
                  have hlen : ((olds ++ news).map (ren σ)).length = (n + m) * ie.size := by
                    simp only [List.map_append, List.length_append, List.length_map, o1]
                    have : news.length = m * ie.size := by simpa using n2
                    rw [this, Nat.add_mul]
                  obtain ⟨σ', s1, s2, ha⟩ := Aft.grown (w' := w.drew.alloc (.cells ((olds.map (ren σ)).toArray ++ (news.map (ren σ)).toArray ++ Builtin.zeroCells z.cells (room - (n + m))) e)) hr ok c3 (olds ++ news) e w.heap.size room (Builtin.zeroCells z.cells (room - (n + m))).toList
                    (by rw [bdL_iff] at o2 n3 ⊢; intro v hv; rcases List.mem_append.1 hv with hv | hv; exact o2 v hv; exact n3 v hv)
                    (by
                      rw [drewAlloc_heap]
                      simp)
                    (by
                      have h2 : (olds ++ news).length = (n + m) * ie.size := by simpa using hlen
                      rw [h2, Array.length_toList, hzc, hco, ← Nat.add_mul]; congr 1; omega) hle (by rw [drewAlloc_heap]; simp) rfl rfl rfl
                    (fun k hk _ => by rw [drewAlloc_heap, Array.getElem?_push, if_neg (by omega)])
                    (fun j hj => by
                      have := hr.lt hj
                      refine ⟨?_, by omega⟩
                      rw [drewAlloc_heap, Array.getElem?_push, if_neg (by omega)]) (.inl (Nat.le_refl _))
                  refine Does.value ha ?_
                  rw [hx]
                  simp only [ren, renOff_none, cap_small hgrow.1]
                  rw [hrun, s1, cap_big, s2]
                | false =>
                  rw [hgrow] at h
                  simp only [cond_false] at h
                  cases hown0 : (Nat.beq o 0 && Nat.beq e2 e && ((g.isGrown && Nat.beq cap (2 * bigCap)) || (g.isFixed && Nat.blt cap bigCap && Nat.beq c.length (cap * ie.size) && Nat.ble n cap))) with
                  | false => rw [hown0] at h; cases h
                  | true =>
                    rw [hown0] at h
                    simp only [cond_true, Option.some.injEq, Prod.mk.injEq] at h
                    obtain ⟨rfl, rfl⟩ := h
                    simp only [Bool.and_eq_true, Bool.or_eq_true, Nat.blt_eq, Nat.ble_eq, Bool.not_eq_true'] at hown0
                    obtain ⟨⟨d1, d2⟩, d3⟩ := hown0
                    have d1' := Nat.eq_of_beq_eq_true d1
                    have d2' := Nat.eq_of_beq_eq_true d2
                    subst d1'; subst d2'
                    obtain ⟨tail0, ty0, fr0, t1, t0, t2, t3⟩ := hr.at_ i _ hg
                    have hgne : g ≠ .ro := by
                      rcases d3 with ⟨d3, _⟩ | ⟨⟨⟨d3, _⟩, _⟩, _⟩
                      · rw [Gr.isGrown_eq d3]; decide
                      · rw [Gr.isFixed_eq d3]; decide
                    obtain ⟨h5, h6⟩ := t0 hgne
                    rw [h5, h6] at t1
                    rw [hco] at t3
                    have hlc : n * ie.size ≤ c.length := by
                      have hh := holds
                      unfold cellsAt at hh
                      rw [hg] at hh
                      simp only at hh
                      cases hl : Nat.beq ((c.drop 0).take (n * ie.size)).length (n * ie.size) with
                      | false => rw [hl] at hh; cases hh
                      | true => have := Nat.eq_of_beq_eq_true hl; simp at this; omega
                    have holdsE : olds = c.take (n * ie.size) := by
                      have hh := holds
                      unfold cellsAt at hh
                      rw [hg] at hh
                      simp only at hh
                      cases hl : Nat.beq ((c.drop 0).take (n * ie.size)).length (n * ie.size) with
                      | false => rw [hl] at hh; cases hh
                      | true => rw [hl] at hh; simpa using hh.symm
                    -- the room that the slice has
                    have hrc : ∃ rc, σ.cap i cap = rc ∧ n ≤ rc ∧ rc ≤ maxLen ∧ (c.map (ren σ) ++ tail0).length = rc * ie.size := by
                      rcases d3 with ⟨d3, d4⟩ | ⟨⟨⟨d3, d4⟩, d5⟩, d6⟩
                      · have d4' := Nat.eq_of_beq_eq_true d4
                        subst d4'
                        obtain ⟨t3, t4⟩ := t3 (Gr.isGrown_eq d3)
                        refine ⟨σ.c i, cap_big, ?_, t4, by simpa using t3⟩
                        exact Nat.le_of_mul_le_mul_right (show n * ie.size ≤ σ.c i * ie.size by omega) c1
                      · have d5' := Nat.eq_of_beq_eq_true d5
                        have := t2 (Gr.isFixed_eq d3)
                        subst this
                        refine ⟨cap, cap_small d4, d6, by have := bigCap_le; simp only [maxLen]; omega, by simpa using d5'⟩
                    obtain ⟨rc, r1, r2, r3, r4⟩ := hrc
                    have hilt := Hs.get_lt hg
                    have hown : w.ownsRow 0 e2 ie.size (.slice (some ⟨σ.b i, 0, none⟩) n rc) n (olds.map (ren σ)) := by
                      refine ⟨by simpa using o1, .inr ⟨σ.b i, rc, _, rfl, Nat.zero_le _, t1, r2, r3, by simpa using r4, ?_⟩⟩
                      rw [List.take_append_of_le_length (by simpa using hlc), holdsE, List.map_take]
                    obtain ⟨v', w', hrun, hown', hgr, _, hblk⟩ := run_append_own_at (P := P) w 0 t ty e2 ie z ie.size ie.bytes hu hi hz rfl rfl c2' c1 _ n (olds.map (ren σ)) hown a m cx (news.map (ren σ)) n2 n4 n5 (by omega) hcc.2 (Nat.zero_le _)
                    rcases hown'.2 with ⟨_, hbad⟩ | ⟨b, room, cur, rfl, _, hcell, hnc, hcm, hcs, htk⟩
                    · omega
                    · have hk := Aft.kill hr ok hilt
                      have hcur : cur = ((olds ++ news).map (ren σ) ++ cur.toList.drop ((n + m) * ie.size)).toArray := by
                        have := List.take_append_drop ((n + m) * ie.size) cur.toList
                        rw [htk] at this
                        rw [List.map_append, this]
                      have hlive : ∀ j, (s.kill i).live j → s.live j ∧ j ≠ i := by
                        rintro j ⟨ob, hj, al⟩
                        rw [get_kill ok hilt] at hj
                        by_cases he : j = i
                        · rw [if_pos he] at hj; injection hj with hj; subst hj; cases al
                        · rw [if_neg he] at hj; exact ⟨⟨_, hj, al⟩, he⟩
                      have hne2 : ∀ j, (s.kill i).live j → σ.b j ≠ σ.b i := fun j hj he => (hlive j hj).2 (hr.inj j i (hlive j hj).1 ⟨_, hg, rfl⟩ he)
                      have hwr : (s.kill i).wr.testBit i = true := by simp [Hs.kill, Nat.testBit_or, Nat.testBit_shiftLeft]
                      have hbb : b = σ.b i ∨ b = w.heap.size := by
                        rcases hblk with hb | hb
                        · left; simpa [Value.ownBlock] using hb
                        · right; simpa [Value.ownBlock] using hb
                      obtain ⟨σ', s1, s2, ha⟩ := Aft.grown hk.rel hk.ok c3 (olds ++ news) e2 b room (cur.toList.drop ((n + m) * ie.size))
                        (by rw [bdL_iff] at o2 n3 ⊢; intro v hv; rcases List.mem_append.1 hv with hv | hv; exact o2 v hv; exact n3 v hv) (by rw [← hcur]; exact hcell)
                        (by
                          have hle : (n + m) * ie.size ≤ cur.size := by rw [hcs]; exact Nat.mul_le_mul_right _ (by omega)
                          have hn2 : news.length = m * ie.size := by simpa using n2
                          have hl2 : (olds ++ news).length = (n + m) * ie.size := by rw [List.length_append, o1, hn2, Nat.add_mul]
                          have e1 : (cur.toList.drop ((n + m) * ie.size)).length = cur.size - (n + m) * ie.size := by simp
                          rw [hco, ← hcs, e1]; omega) hcm hgr.size hgr.os hgr.tape hgr.output
                        (fun k hk2 hne => hgr.block k hk2 (fun he => by
                          simp only [Value.ownBlock, Option.some.injEq] at he
                          exact hne i hilt hwr he.symm))
                        (fun j hj => ⟨hgr.block _ (hr.lt (hlive j hj).1) (fun he => by
                          simp only [Value.ownBlock, Option.some.injEq] at he
                          exact hne2 j hj he), by
                          rcases hbb with hb | hb
                          · rw [hb]; exact hne2 j hj
                          · have := hr.lt (hlive j hj).1; omega⟩)
                        (by
                          rcases hbb with hb | hb
                          · exact .inr ⟨i, hilt, hwr, hb⟩
                          · exact .inl (by omega))
                      refine Does.value (hk.trans ha) ?_
                      rw [hx]
                      simp only [ren, renOff_none, r1]
                      have hs1 : σ'.b s.n = b := s1
                      have hs2 : σ'.c s.n = room := s2
                      rw [hrun, hs1, cap_big, hs2]
              · cases h
          · cases h
      · cases h
    · cases h
  · cases h
/-- Nothing is appended. -/
def evApp0 (P : Program) (s : Hs) (t : TypeId) (sv xv : Value) : Option (Value × Hs) :=
  match P.underlying t, xv with
  | some (.slice e), .slice _ 0 _ =>
    match P.info? e, sv with
    | some _, .slice none 0 0 => some (sv, s)
    | some ie, .slice (some ⟨i, off, none⟩) n cap =>
      bif Nat.blt cap bigCap then bif Nat.ble n cap then some (sv, s) else none
      else match s.get i with
        | some (.cells c e2 g) =>
          bif g.isGrown && Nat.beq e2 e && Nat.blt 0 ie.size && Nat.ble ((2 * bigCap - cap + n) * ie.size) c.length then some (sv, s) else none
        | _ => none
    | _, _ => none
  | _, _ => none
theorem run_append_none {P : Program} (w : World) (t ty e : TypeId) (i : TypeInfo) (ht : P.underlying t = some (.slice e)) (hi : P.info? e = some i) (base a : Option Addr) (sLen sCap c : Nat) (hle : sLen ≤ sCap) :
    (Builtin.append_ #[t, t] ty #[.slice base sLen sCap, .slice a 0 c]).run P w = .ok (.slice base sLen sCap) w := by
  cases base <;> cases a <;> simp [Builtin.append_, run_underlying ht, sizeOf, typeInfo, hi, Builtin.lenOf, Builtin.firstCells, hle, storeCells, loadCells, loadCellsFrom]
theorem append0_does {P : Program} {σ : Sub} {s s' : Hs} {w : World} {t ty : TypeId} {sv xv v : Value} (h : evApp0 P s t sv xv = some (v, s')) (hr : Rel P σ s w) (ok : s.Ok) :
    Does P σ s w (do pure (.value (← Builtin.append_ #[t, t] ty #[ren σ sv, ren σ xv]))) v s' := by
  unfold evApp0 at h
  split at h
  · rename_i e x1 x2 hu
    have hx : ∃ a c, ren σ (.slice x1 0 x2) = .slice a 0 c := by cases x1 <;> exact ⟨_, _, by simp only [ren]; rfl⟩
    obtain ⟨a, c, hx⟩ := hx
    rw [hx]
    split at h
    · rename_i ie hi
      simp only [Option.some.injEq, Prod.mk.injEq] at h
      obtain ⟨rfl, rfl⟩ := h
      refine Does.plain hr ok ?_
      simp only [ren]
      exact run_append_none w t ty e ie hu hi none a 0 0 c (Nat.le_refl _)
    · rename_i ie i off n cap hi
      cases hcb : Nat.blt cap bigCap with
      | true =>
        rw [hcb] at h
        simp only [cond_true] at h
        cases hlc : Nat.ble n cap with
        | false => rw [hlc] at h; cases h
        | true =>
          rw [hlc] at h
          simp only [cond_true, Option.some.injEq, Prod.mk.injEq] at h
          obtain ⟨rfl, rfl⟩ := h
          rw [Nat.ble_eq] at hlc
          rw [Nat.blt_eq] at hcb
          refine Does.plain hr ok ?_
          simp only [ren, renOff_none, cap_small hcb]
          exact run_append_none w t ty e ie hu hi _ a n cap c hlc
      | false =>
        rw [hcb] at h
        simp only [cond_false] at h
        have hcb' : bigCap ≤ cap := by
          rcases Nat.lt_or_ge cap bigCap with hlt | hge
          · rw [← Nat.blt_eq, hcb] at hlt; cases hlt
          · exact hge
        split at h
        · rename_i cc e2 g hg
          cases hcc : (g.isGrown && Nat.beq e2 e && Nat.blt 0 ie.size && Nat.ble ((2 * bigCap - cap + n) * ie.size) cc.length) with
          | false => rw [hcc] at h; cases h
          | true =>
            rw [hcc] at h
            simp only [cond_true, Option.some.injEq, Prod.mk.injEq] at h
            obtain ⟨rfl, rfl⟩ := h
            simp only [Bool.and_eq_true, Nat.blt_eq, Nat.ble_eq] at hcc
            obtain ⟨⟨⟨c3, c6⟩, c4⟩, c5⟩ := hcc
            have c6' := Nat.eq_of_beq_eq_true c6
            subst c6'
            obtain ⟨tail, ty0, fr, t1, t0, t2, t3⟩ := hr.at_ i _ hg
            obtain ⟨t3, t4⟩ := t3 (Gr.isGrown_eq c3)
            have hco : P.cellsOf e2 = ie.size := by simp [Program.cellsOf, hi]
            rw [hco] at t3
            have hroom0 : (2 * bigCap - cap) + n ≤ σ.c i := by
              have : (2 * bigCap - cap + n) * ie.size ≤ σ.c i * ie.size := by omega
              exact Nat.le_of_mul_le_mul_right this c4
            have hce : σ.cap i cap = σ.c i - (2 * bigCap - cap) := cap_grown hcb'
            refine Does.plain hr ok ?_
            simp only [ren, renOff_none]
            exact run_append_none w t ty e2 ie hu hi _ a n _ c (by omega)
        · cases h
    · cases h
  · cases h
/-- A row of zeros, where none was. -/
def evAppZ (P : Program) (s : Hs) (t u : TypeId) (sv xv : Value) : Option (Value × Hs) :=
  match P.underlying t, P.underlying u, sv, natOf xv with
  | some (.slice e), some (.int _), .slice none 0 0, some n =>
    match P.info? e with
    | some ie =>
      match ie.zero with
      | some z =>
        bif zeroFree P e && Nat.blt 0 n && Nat.blt 0 ie.size && Nat.beq z.cells.size ie.size && Nat.ble n 1000000 && Nat.ble (n * ie.bytes) 140737488355328 && Nat.blt s.n (2 ^ HD) then
          some (.slice (some ⟨s.n, 0, none⟩) n (2 * bigCap), ⟨s.n + 1, tset HD s.h s.n (.cells (Builtin.zeroCells z.cells n).toList e .grown), s.wr⟩)
        else none
      | none => none
    | none => none
  | _, _, _, _ => none
theorem appendZ_does {P : Program} {σ : Sub} {s s' : Hs} {w : World} {t u ty : TypeId} {sv xv v : Value} (h : evAppZ P s t u sv xv = some (v, s')) (hr : Rel P σ s w) (ok : s.Ok) :
    Does P σ s w (do pure (.value (← Builtin.append_ #[t, u] ty #[ren σ sv, ren σ xv]))) v s' := by
  unfold evAppZ at h
  split at h
  · rename_i e kn n hu hun hx
    obtain ⟨k, rfl⟩ := natOf_some hx
    split at h
    · rename_i ie hi
      split at h
      · rename_i z hz
        cases hc : (zeroFree P e && Nat.blt 0 n && Nat.blt 0 ie.size && Nat.beq z.cells.size ie.size && Nat.ble n 1000000 && Nat.ble (n * ie.bytes) 140737488355328 && Nat.blt s.n (2 ^ HD)) with
        | false => rw [hc] at h; cases h
        | true =>
          rw [hc] at h
          simp only [cond_true, Option.some.injEq, Prod.mk.injEq] at h
          obtain ⟨rfl, rfl⟩ := h
          simp only [Bool.and_eq_true, Nat.blt_eq, Nat.ble_eq] at hc
          obtain ⟨⟨⟨⟨⟨⟨c1, c2⟩, c3⟩, c4⟩, c5⟩, c6⟩, c7⟩ := hc
          have c4' := Nat.eq_of_beq_eq_true c4
          have hco : P.cellsOf e = ie.size := by simp [Program.cellsOf, hi]
          have hzf := zeroFree_some c1 hi hz
          have hmax : (1000000 : Nat) ≤ maxLen := by decide
          have hrun := Go.Lib.run_append_nil_zeros (P := P) w t u ty e ie z k kn hu hun hi hz n c2 c3 (by omega) (by omega)
          generalize hcap : grownCap w n 0 e = room at hrun
          have hge : n ≤ room := by rw [← hcap]; exact grownCap_ge w n 0 e
          have hle : room ≤ maxLen := by rw [← hcap]; exact grownCap_le_maxLen w n 0 e (by omega)
          have hsz : ∀ k, (Builtin.zeroCells z.cells k).size = k * ie.size := fun k => by simp [Builtin.zeroCells, c4']
          have hren : (Builtin.zeroCells z.cells n).toList.map (ren σ) = (Builtin.zeroCells z.cells n).toList := by
            rw [← Array.toList_map]
            unfold Builtin.zeroCells
            rw [made_free hzf _ (by omega)]
          obtain ⟨σ', s1, s2, ha⟩ := Aft.grown (w' := w.drew.alloc (.cells (Builtin.zeroCells z.cells n ++ Builtin.zeroCells z.cells (room - n)) e)) hr ok c7 (Builtin.zeroCells z.cells n).toList e w.heap.size room (Builtin.zeroCells z.cells (room - n)).toList
            (by
              rw [bdL_iff]; intro v hv
              refine bd_mono (Nat.zero_le _) v ?_
              simp only [Builtin.zeroCells, Array.toList_map, List.mem_map] at hv
              obtain ⟨i, _, rfl⟩ := hv
              have hlt : i % z.cells.size < z.cells.size := Nat.mod_lt _ (by omega)
              exact (bdA_iff 0 _).1 hzf _ (by simp [hlt]))
            (by
              rw [drewAlloc_heap, hren]
              simp)
            (by rw [Array.length_toList, Array.length_toList, hsz, hsz, hco, ← Nat.add_mul]; congr 1; omega) hle (by rw [drewAlloc_heap]; simp) rfl rfl rfl
            (fun k hk _ => by rw [drewAlloc_heap, Array.getElem?_push, if_neg (by omega)])
            (fun j hj => by
              have := hr.lt hj
              refine ⟨?_, by omega⟩
              rw [drewAlloc_heap, Array.getElem?_push, if_neg (by omega)]) (.inl (Nat.le_refl _))
          refine Does.value ha ?_
          simp only [ren, renOff_none]
          rw [hrun, s1, cap_big, s2]
      · cases h
    · cases h
  · cases h
/-- Cells that are written into a row that has them all. -/
def putAt (s : Hs) (i off : Nat) (vs : List Value) : Option Hs :=
  match s.get i with
  | some (.cells c e g) =>
    bif Nat.ble (off + vs.length) c.length && vs.all (·.oneCell') && bdL s.n vs && g.w then
      some ⟨s.n, tset HD s.h i (.cells (c.take off ++ vs ++ c.drop (off + vs.length)) e g), s.wr ||| 1 <<< i⟩ else none
  | _ => none
theorem putAt_does {P : Program} {σ : Sub} {s s' : Hs} {w : World} {i off : Nat} {vs : List Value} (h : putAt s i off vs = some s') (hr : Rel P σ s w) (ok : s.Ok) :
    ∃ w', Aft P σ s w σ s' w' ∧ (storeCells ⟨σ.b i, off, none⟩ (vs.map (ren σ))).run P w = .ok () w' := by
  unfold putAt at h
  split at h
  · rename_i c e g hg
    cases hc : (Nat.ble (off + vs.length) c.length && vs.all (·.oneCell') && bdL s.n vs && g.w) with
    | false => rw [hc] at h; cases h
    | true =>
      rw [hc] at h
      simp only [Bool.and_eq_true, Nat.ble_eq] at hc
      obtain ⟨⟨⟨c2, c3⟩, c4⟩, c5⟩ := hc
      simp only [cond_true, Option.some.injEq] at h
      subst h
      exact put_cells hr ok hg c5 off vs c2 (fun v hv => List.all_eq_true.1 c3 v hv) c4
  · cases h
/-- Is there room for so many elements, behind a slice's beginning. -/
def roomOk (P : Program) (s : Hs) (e : TypeId) (size i off cap need : Nat) : Bool :=
  bif Nat.blt cap bigCap then Nat.ble need cap
  else match s.get i with
    | some (.cells c e2 g) => g.isGrown && Nat.beq e2 e && Nat.blt 0 size && Nat.ble ((2 * bigCap - cap + need) * size) c.length
    | _ => false
theorem roomOk_le {P : Program} {σ : Sub} {s : Hs} {w : World} {e : TypeId} {ie : TypeInfo} {i off cap need : Nat} (hi : P.info? e = some ie) (h : roomOk P s e ie.size i off cap need = true) (hr : Rel P σ s w) : need ≤ σ.cap i cap := by
  unfold roomOk at h
  cases hcb : Nat.blt cap bigCap with
  | true =>
    rw [hcb] at h
    simp only [cond_true, Nat.ble_eq] at h
    rw [Nat.blt_eq] at hcb
    rw [cap_small hcb]; exact h
  | false =>
    rw [hcb] at h
    simp only [cond_false] at h
    have hcb' : bigCap ≤ cap := by
      rcases Nat.lt_or_ge cap bigCap with hlt | hge
      · rw [← Nat.blt_eq, hcb] at hlt; cases hlt
      · exact hge
    split at h
    · rename_i cc e2 g hg
      simp only [Bool.and_eq_true, Nat.blt_eq, Nat.ble_eq] at h
      obtain ⟨⟨⟨c3, c6⟩, c4⟩, c5⟩ := h
      have c6' := Nat.eq_of_beq_eq_true c6
      subst c6'
      obtain ⟨tail, ty0, fr, t1, t0, t2, t3⟩ := hr.at_ i _ hg
      obtain ⟨t3, t4⟩ := t3 (Gr.isGrown_eq c3)
      have hco : P.cellsOf e2 = ie.size := by simp [Program.cellsOf, hi]
      rw [hco] at t3
      have hroom0 : (2 * bigCap - cap) + need ≤ σ.c i := by
        have : (2 * bigCap - cap + need) * ie.size ≤ σ.c i * ie.size := by omega
        exact Nat.le_of_mul_le_mul_right this c4
      rw [cap_grown hcb']; omega
    · cases h
/-- What is appended finds room. -/
def evAppIn (P : Program) (s : Hs) (t : TypeId) (sv xv : Value) : Option (Value × Hs) :=
  match P.underlying t, sv with
  | some (.slice e), .slice (some ⟨i, o, none⟩) n cap =>
    match P.info? e with
    | some ie =>
      match evNews s ie.size xv with
      | some (m, news) =>
        bif roomOk P s e ie.size i o cap (n + m) then
          match putAt s i (o + n * ie.size) news with
          | some s' => some (.slice (some ⟨i, o, none⟩) (n + m) cap, s')
          | none => none
        else none
      | none => none
    | none => none
  | _, _ => none
theorem appendIn_does {P : Program} {σ : Sub} {s s' : Hs} {w : World} {t ty : TypeId} {sv xv v : Value} (h : evAppIn P s t sv xv = some (v, s')) (hr : Rel P σ s w) (ok : s.Ok) :
    Does P σ s w (do pure (.value (← Builtin.append_ #[t, t] ty #[ren σ sv, ren σ xv]))) v s' := by
  unfold evAppIn at h
  split at h
  · rename_i e i o n cap hu
    split at h
    · rename_i ie hi
      split at h
      · rename_i m news hne
        cases hro : roomOk P s e ie.size i o cap (n + m) with
        | false => rw [hro] at h; cases h
        | true =>
          rw [hro] at h
          simp only [cond_true] at h
          split at h
          · rename_i s2 hp
            simp only [Option.some.injEq, Prod.mk.injEq] at h
            obtain ⟨rfl, rfl⟩ := h
            obtain ⟨a, cx, hx, n1, n2, n3, n4, n5⟩ := evNews_some (σ := σ) (w := w) hne hr ok
            have hroom := roomOk_le (σ := σ) (w := w) hi hro hr
            obtain ⟨w', ha, hst⟩ := putAt_does hp hr ok
            refine Does.value ha ?_
            rw [hx]
            simp only [ren, renOff_none]
            have hf := run_firstCells_some (P := P) (w := w) ie.size m a m cx (news.map (ren σ)) n2 n4
            have hadd : ((⟨σ.b i, o, none⟩ : Addr).add (n * ie.size)) = ⟨σ.b i, o + n * ie.size, none⟩ := add_none _ _ _
            simp [Builtin.append_, run_underlying hu, sizeOf, typeInfo, hi, Builtin.lenOf, hroom, hf, hadd, hst]
          · cases h
      · cases h
    · cases h
  · cases h
/-- copy. -/
def evCopy (P : Program) (s : Hs) (t : TypeId) (x y : Value) : Option (Value × Hs) :=
  match P.underlying t, x, y with
  | some (.slice e), .slice (some ⟨i, o, none⟩) n _, .slice (some ⟨j, o2, none⟩) m _ =>
    match P.info? e with
    | some ie =>
      match cellsAt s j o2 (Nat.min m n * ie.size) with
      | some l => match putAt s i o l with
        | some s' => some (.int .i64 (Nat.min m n : Nat), s')
        | none => none
      | none => none
    | none => none
  | some (.slice e), .slice _ n _, .slice none m _ =>
    match P.info? e with
    | some _ => some (.int .i64 (Nat.min m n : Nat), s)
    | none => none
  | _, _, _ => none
theorem copy_does {P : Program} {σ : Sub} {s s' : Hs} {w : World} {t u ty : TypeId} {x y v : Value} (h : evCopy P s t x y = some (v, s')) (hr : Rel P σ s w) (ok : s.Ok) :
    Does P σ s w (do pure (.value (← Builtin.copy_ #[t, u] ty #[ren σ x, ren σ y]))) v s' := by
  unfold evCopy at h
  split at h
  · rename_i e i o n c1 j o2 m c2 hu
    split at h
    · rename_i ie hi
      split at h
      · rename_i l hl
        split at h
        · rename_i s2 hp
          simp only [Option.some.injEq, Prod.mk.injEq] at h
          obtain ⟨rfl, rfl⟩ := h
          obtain ⟨h1, h2, h3⟩ := cellsAt_some (σ := σ) (w := w) hl hr ok
          obtain ⟨w', ha, hst⟩ := putAt_does hp hr ok
          refine Does.value ha ?_
          simp only [ren, renOff_none]
          have hf := run_firstCells_some (P := P) (w := w) ie.size (Nat.min m n) ⟨σ.b j, o2, none⟩ m (σ.cap j c2) (l.map (ren σ)) (by simpa using h1) h3
          simp [Builtin.copy_, run_underlying hu, sizeOf, typeInfo, hi, Builtin.lenOf, hf, hst, goInt]
        · cases h
      · cases h
    · cases h
  · rename_i e x1 n c1 m c2 hu
    split at h
    · rename_i ie hi
      simp only [Option.some.injEq, Prod.mk.injEq] at h
      obtain ⟨rfl, rfl⟩ := h
      refine Does.plain hr ok ?_
      cases x1 <;> simp [ren, Builtin.copy_, run_underlying hu, sizeOf, typeInfo, hi, Builtin.lenOf, Builtin.firstCells, storeCells, goInt]
    · cases h
  · cases h
/-- clear of a slice. -/
def evClear (P : Program) (s : Hs) (t : TypeId) (x : Value) : Option Hs :=
  match P.underlying t, x with
  | some (.slice _), .slice none _ _ => some s
  | some (.slice _), .slice _ 0 _ => some s
  | some (.slice e), .slice (some ⟨i, o, none⟩) n _ =>
    match P.info? e with
    | some ie => match ie.zero with
      | some z => bif zeroFree P e && Nat.blt 0 z.cells.size && Nat.blt 0 n then putAt s i o (Builtin.zeroCells z.cells n).toList else none
      | none => none
    | none => none
  | _, _ => none
theorem clear_does {P : Program} {σ : Sub} {s s' : Hs} {w : World} {t ty : TypeId} {x : Value} (h : evClear P s t x = some s') (hr : Rel P σ s w) (ok : s.Ok) :
    Does P σ s w (do pure (.value (← Builtin.clear_ #[t] ty #[ren σ x]))) (.tuple #[]) s' := by
  unfold evClear at h
  split at h
  · rename_i e n c hu
    simp only [Option.some.injEq] at h
    subst h
    refine Does.plain hr ok ?_
    simp [ren, renA, renL, Builtin.clear_, run_underlying hu]
  · rename_i e a c _ hu
    simp only [Option.some.injEq] at h
    subst h
    refine Does.plain hr ok ?_
    cases a <;> simp [ren, renA, renL, Builtin.clear_, run_underlying hu]
  · rename_i e i o n c _ hu
    split at h
    · rename_i ie hi
      split at h
      · rename_i z hz
        cases hc : (zeroFree P e && Nat.blt 0 z.cells.size && Nat.blt 0 n) with
        | false => rw [hc] at h; cases h
        | true =>
          rw [hc] at h
          simp only [cond_true] at h
          simp only [Bool.and_eq_true, Nat.blt_eq] at hc
          obtain ⟨⟨c1, c2⟩, c3⟩ := hc
          have hzf := zeroFree_some c1 hi hz
          have hren : (Builtin.zeroCells z.cells n).toList.map (ren σ) = (Builtin.zeroCells z.cells n).toList := by
            rw [← Array.toList_map]
            unfold Builtin.zeroCells
            rw [made_free hzf _ c2]
          obtain ⟨w', ha, hst⟩ := putAt_does h hr ok
          rw [hren] at hst
          refine Does.value ha ?_
          obtain ⟨k, rfl⟩ : ∃ k, n = k + 1 := ⟨n - 1, by omega⟩
          simp only [ren, renOff_none]
          simp [Builtin.clear_, run_underlying hu, zeroValue, typeInfo, hi, hz, hst, ren, renA, renL]
      · cases h
    · cases h
  · cases h
end Go.Proofs.Ytdfabagclnjoaaa
