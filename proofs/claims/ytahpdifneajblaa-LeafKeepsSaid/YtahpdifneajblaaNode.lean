/- Slices of words that can be read; nodes of two such. -/
import Derived.Test.YtahpdifneajblaaFrame
import Derived.Test.YtahpdifneajblaaTail
import Derived.Deep.AppendLies
import Derived.Deep.LoopGhost
import Derived.Laws.AppendOwnNone
import Derived.OwnWalk
import Derived.Lib.Hide
namespace Go.Proofs.Ytahpdifneajblaa
set_option linter.unusedVariables false
open Go.RowKit Go.ChangeShapes Go.WideShapes Go.ChangeAt
theorem nl1 (W : World) (a : Obj) : Below W.heap.size W (W.alloc a) := (Below.refl _ _).alloc (Nat.le_refl _) _
theorem nl2 (W : World) (a b : Obj) : Below W.heap.size W ((W.alloc a).alloc b) := ((Below.refl _ _).alloc (Nat.le_refl _) _).alloc (by simp) _
theorem nl3 (W : World) (a b c : Obj) : Below W.heap.size W (((W.alloc a).alloc b).alloc c) := (nl2 W a b).alloc (by simp; omega) _
abbrev nw (us : List Nat) : List Value := us.map fun u => .int .u64 (u : Nat)
theorem infoW : (Try.prog.info? 23).map (fun i => (i.zero, i.size, i.bytes)) = some (some (.int .u64 0), 1, 8) := by kernel_rfl
theorem sliceW : Try.prog.underlying 22 = some (.slice 23) := by kernel_rfl
theorem nOwn {base n sz : Nat} {e : TypeId} {v : Value} {xs : List Value} {W W' : World} (h : W.ownsRow base e sz v n xs) (hn : Below W.heap.size W W') : W'.ownsRow base e sz v n xs := by
  obtain ⟨h1, h2⟩ := h
  refine ⟨h1, ?_⟩
  rcases h2 with h2 | ⟨g, cap, cur, hv, hb, hh, h3⟩
  · exact .inl h2
  · refine .inr ⟨g, cap, cur, hv, hb, ?_, h3⟩
    rw [hn.block g ?_]
    · exact hh
    · rcases Nat.lt_or_ge g W.heap.size with hlt | hge
      · exact hlt
      · rw [Array.getElem?_eq_none hge] at hh; cases hh
theorem nLe {b1 b2 n sz : Nat} {e : TypeId} {v : Value} {xs : List Value} {W : World} (h : W.ownsRow b1 e sz v n xs) (hb : b2 ≤ b1) : W.ownsRow b2 e sz v n xs := by
  obtain ⟨h1, h2⟩ := h
  refine ⟨h1, ?_⟩
  rcases h2 with h2 | ⟨g, cap, cur, hv, hg, hh, h3⟩
  · exact .inl h2
  · exact .inr ⟨g, cap, cur, hv, Nat.le_trans hb hg, hh, h3⟩
/-- The slice '.slice A us.length c' reads as us. -/
def RL (W : World) (A : Option Addr) (c : Nat) (us : List Nat) : Prop :=
  (A = none ∧ c = 0 ∧ us = []) ∨ (∃ a : Addr, A = some a ∧ us = [] ∧ c ≤ maxLen) ∨ ∃ b o, A = some ⟨b, o, none⟩ ∧ us.length ≤ c ∧ c ≤ maxLen ∧ ∀ j, j < us.length → W.cell? ⟨b, o + j, none⟩ = some (.int .u64 ((us.getD j 0 : Nat)))
theorem RL.nil (W : World) : RL W none 0 [] := .inl ⟨rfl, rfl, rfl⟩
theorem RL.le {W : World} {A : Option Addr} {c : Nat} {us : List Nat} (h : RL W A c us) : us.length ≤ c := by
  rcases h with ⟨_, _, rfl⟩ | ⟨_, _, rfl, _⟩ | ⟨_, _, _, h, _⟩
  · simp
  · simp
  · exact h
theorem RL.next {W W' : World} {A : Option Addr} {c : Nat} {us : List Nat} (h : RL W A c us) (hb : Below W.heap.size W W') : RL W' A c us := by
  rcases h with h | h | ⟨b, o, e, h1, h2, h3⟩
  · exact .inl h
  · exact .inr (.inl h)
  · exact .inr <| .inr ⟨b, o, e, h1, h2, fun j hj => (hb.cell (p := ⟨b, o + j, none⟩) (World.block_lt_of_cell? W _ (h3 j hj))).trans (h3 j hj)⟩
theorem RL.at {W : World} {A : Option Addr} {c : Nat} {us : List Nat} (h : RL W A c us) (h0 : 0 < us.length) : ∃ b o, A = some ⟨b, o, none⟩ ∧ us.length ≤ c ∧ c ≤ maxLen ∧ ∀ j, j < us.length → W.cell? ⟨b, o + j, none⟩ = some (.int .u64 ((us.getD j 0 : Nat))) := by
  rcases h with ⟨_, _, rfl⟩ | ⟨_, _, rfl, _⟩ | h
  · simp at h0
  · simp at h0
  · exact h
theorem RL.of_own {W : World} {B : Nat} {T : TypeId} {v : Value} {us : List Nat} (h : W.ownsRow B T 1 v us.length (nw us)) : ∃ A c, v = .slice A us.length c ∧ RL W A c us := by
  have hc := fun g (e : v.ownBlock = some g) => h.cells e
  rcases h.2 with ⟨rfl, h0⟩ | ⟨g, cap, cur, rfl, hb, hh, hle, hm, _⟩
  · obtain rfl : us = [] := List.eq_nil_of_length_eq_zero h0
    exact ⟨none, 0, rfl, RL.nil W⟩
  · refine ⟨_, cap, rfl, .inr <| .inr ⟨g, 0, rfl, hle, hm, fun j hj => ?_⟩⟩
    have hj' : (nw us)[j]? = some (.int .u64 ((us.getD j 0 : Nat))) := by simp [nw, List.getD, hj]
    have := hc g rfl j _ hj'
    rw [add_plain'] at this; exact this
theorem RL.news {W : World} {b o : Nat} {us : List Nat} (h : ∀ j, j < us.length → W.cell? ⟨b, o + j, none⟩ = some (.int .u64 ((us.getD j 0 : Nat)))) : ∀ j u, (nw us)[j]? = some u → W.cell? ((⟨b, o, none⟩ : Addr).add j) = some u := by
  intro j u hu
  have hj : j < us.length := by
    have := (List.getElem?_eq_some_iff.1 hu).1
    simpa [nw] using this
  rw [add_plain', h j hj]
  have : (nw us)[j]? = some (.int .u64 ((us.getD j 0 : Nat))) := by simp [nw, List.getD, hj]
  exact this.symm.trans hu
theorem nw_one (us : List Nat) : ∀ u ∈ nw us, u.oneCell' = true := by
  intro u hu
  obtain ⟨n, _, rfl⟩ := List.mem_map.1 hu
  simp [Value.oneCell']
/-- 'append(own, src...)', src a slice that can be read. -/
theorem wpList_append_RL {w : World} {ops : Array Oper} {rest : List Oper} {o : Oper} {a : Act} {Q : Exit → Act → World → Prop} (hgd : o.guard = none) (s x : Operand)
    (ho : o.op = .call { callee := .builtin .append, args := #[s, x], argTypes := #[22, 22] })
    (base : Nat) (v : Value) (xs us : List Nat) (A : Option Addr) (c : Nat) (hs : a.eval s = v) (hx : a.eval x = .slice A us.length c) (hown : w.ownsRow base 23 1 v xs.length (nw xs)) (hR : RL w A c us)
    (hl : xs.length + us.length ≤ 100000) (hbase : base ≤ w.heap.size)
    (h : ∀ v' w', w'.ownsRow base 23 1 v' (xs ++ us).length (nw (xs ++ us)) → w.grownBy w' v.ownBlock → (v'.ownBlock = v.ownBlock ∨ v'.ownBlock = some w.heap.size) → wpList Try.prog ops Q rest (a.put o.dst v') w') :
    wpList Try.prog ops Q (o :: rest) a w := by
  obtain ⟨i0, hi, hz0, hz1, hz2⟩ := info_parts infoW
  rcases hR with ⟨rfl, rfl, rfl⟩ | ⟨ad, rfl, rfl, h2⟩ | ⟨b, off, rfl, h1, h2, h3⟩
  · refine wpList_append_own_none hgd s x 22 ho base 23 i0 1 sliceW hi v xs.length (nw xs) hs hown hx ?_
    exact h v w (by simpa using hown) ⟨rfl, rfl, rfl, Nat.le_refl _, fun _ _ _ => rfl⟩ (.inl rfl)
  · refine wpList_append_own_at w hgd s x 22 ho base 23 i0 (.int .u64 0) 1 8 sliceW hi hz0 hz1 hz2 rfl (by decide) v xs.length (nw xs) hs hown ad 0 c [] hx (by simp) (fun j u hu => by simp at hu) (fun u hu => by simp at hu) (by simp only [List.length_nil] at hl; unfold maxLen; omega) (by simp only [List.length_nil] at hl; omega) hbase ?_
    intro v' w' h4 h5 _ h6
    refine h v' w' ?_ h5 h6
    simpa using h4
  · refine wpList_append_own_at w hgd s x 22 ho base 23 i0 (.int .u64 0) 1 8 sliceW hi hz0 hz1 hz2 rfl (by decide) v xs.length (nw xs) hs hown ⟨b, off, none⟩ us.length c (nw us) hx (by simp [nw]) (RL.news h3) (nw_one us) (by unfold maxLen; omega) (by omega) hbase ?_
    intro v' w' h4 h5 _ h6
    refine h v' w' ?_ h5 h6
    have e : nw (xs ++ us) = nw xs ++ nw us := by simp [nw]
    rw [e, List.length_append]; exact h4
structure Nd where
  inner : Bool
  ks : List Nat
  vs : List Nat
  link : Nat
  A1 : Option Addr
  c1 : Nat
  A2 : Option Addr
  c2 : Nat
abbrev ndV (x : Nd) : Value := .agg #[.bool x.inner, .slice x.A1 x.ks.length x.c1, .slice x.A2 x.vs.length x.c2, .int .u64 (x.link : Nat)]
abbrev ndRow (x : Nd) : Obj := .cells #[.bool x.inner, .slice x.A1 x.ks.length x.c1, .slice x.A2 x.vs.length x.c2, .int .u64 (x.link : Nat)] 25
structure NR (W : World) (x : Nd) : Prop where
  k : RL W x.A1 x.c1 x.ks
  v : RL W x.A2 x.c2 x.vs
theorem NR.next {W W' : World} {x : Nd} (h : NR W x) (hb : Below W.heap.size W W') : NR W' x := ⟨h.k.next hb, h.v.next hb⟩
abbrev Nd.zero : Nd := ⟨false, [], [], 0, none, 0, none, 0⟩
theorem NR.zero (W : World) : NR W Nd.zero := ⟨RL.nil W, RL.nil W⟩
/-- A node's block. -/
structure NC (g : Nat) (x : Nd) (W : World) : Prop where
  c0 : W.cell? ⟨g, 0, none⟩ = some (.bool x.inner)
  c1 : W.cell? ⟨g, 1, none⟩ = some (.slice x.A1 x.ks.length x.c1)
  c2 : W.cell? ⟨g, 2, none⟩ = some (.slice x.A2 x.vs.length x.c2)
  c3 : W.cell? ⟨g, 3, none⟩ = some (.int .u64 (x.link : Nat))
  fz : ∀ i, W.frozen? ⟨g, i, none⟩ = false
theorem NC.lt {g : Nat} {x : Nd} {W : World} (h : NC g x W) : g < W.heap.size := World.block_lt_of_cell? W _ h.c0
theorem NC.next {g : Nat} {x : Nd} {W W' : World} (h : NC g x W) (hb : Below W.heap.size W W') : NC g x W' := by
  have c : ∀ j, W'.cell? ⟨g, j, none⟩ = W.cell? ⟨g, j, none⟩ := fun j => hb.cell (p := ⟨g, j, none⟩) h.lt
  exact ⟨(c _).trans h.c0, (c _).trans h.c1, (c _).trans h.c2, (c _).trans h.c3, fun i => (hb.frozen (p := ⟨g, i, none⟩) h.lt).trans (h.fz i)⟩
theorem NC.drew {g : Nat} {x : Nd} {W : World} (h : NC g x W) : NC g x W.drew := ⟨h.c0, h.c1, h.c2, h.c3, h.fz⟩
theorem NC.alloc (W : World) (x : Nd) : NC W.heap.size x (W.alloc (ndRow x)) := ⟨by simp, by simp, by simp, by simp, fun i => by simp⟩
theorem below_put4 {B : Nat} {a w : World} (h : Below B a w) {g : Nat} (hg : B ≤ g) (u v x y : Value) : Below B a ((((w.setCell ⟨g, 0, none⟩ u).setCell ⟨g, 1, none⟩ v).setCell ⟨g, 2, none⟩ x).setCell ⟨g, 3, none⟩ y) := (((h.setCell hg u).setCell hg v).setCell hg x).setCell hg y
/-- Keys that rise. -/
def ris (ks : List Nat) : Prop := ∀ i, i + 1 < ks.length → ks.getD i 0 < ks.getD (i + 1) 0
def rightP (x : Nd) : Prop := x.inner = false ∧ x.ks.length = x.vs.length ∧ ris x.ks
end Go.Proofs.Ytahpdifneajblaa
