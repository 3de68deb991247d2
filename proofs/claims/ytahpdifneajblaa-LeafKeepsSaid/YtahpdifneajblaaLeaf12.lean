/- What the law LeafMerges holds. -/
import Derived.Test.YtahpdifneajblaaLeaf11
namespace Go.Proofs.Ytahpdifneajblaa
set_option linter.unusedVariables false
open Go.RowKit
def mergeP (a b z : Nd) : Prop := (folP a b → z.inner = false ∧ z.link = b.link ∧ z.ks = a.ks ++ b.ks ∧ z.vs = a.vs ++ b.vs) ∧ (¬ folP a b → z = Nd.zero)
theorem merge_any (a b : Nd) (l1 : a.ks.length ≤ 500) (l2 : a.vs.length ≤ 500) (l3 : b.ks.length ≤ 500) (l4 : b.vs.length ≤ 500) (W : World) (ha : NR W a) (hb : NR W b) :
    Calls Try.prog 21 #[ndV a, ndV b] W fun e w' => ∃ z : Nd, e = .returned (ndV z) ∧ mergeP a b z ∧ NR w' z ∧ Below W.heap.size W w' := by
  by_cases h : folP a b
  · refine (merge_yes a b (by omega) (by omega) (by omega) (by omega) h W ha hb).mono ?_
    rintro e w' ⟨z, he, h1, h2, h3, h4, h5, h6⟩
    exact ⟨z, he, ⟨fun _ => ⟨h1, h2, h3, h4⟩, fun k => absurd h k⟩, h5.nr, h6⟩
  · refine (merge_no a b (by omega) (by omega) (by omega) (by omega) h W ha hb).mono ?_
    rintro e w' ⟨he, h6⟩
    exact ⟨Nd.zero, he, ⟨fun k => absurd k h, fun _ => rfl⟩, NR.zero _, h6⟩
def fromRightP (a b y z : Nd) (k : Nat) : Prop := (folP a b ∧ 2 ≤ b.ks.length → k = b.ks.getD 1 0 ∧ y.inner = false ∧ z.inner = false ∧ y.link = a.link ∧ z.link = b.link ∧ y.ks = a.ks ++ cutL b.ks 0 1 ∧ y.vs = a.vs ++ cutL b.vs 0 1 ∧ z.ks = cutL b.ks 1 b.ks.length ∧ z.vs = cutL b.vs 1 b.ks.length) ∧ (¬ (folP a b ∧ 2 ≤ b.ks.length) → y = Nd.zero ∧ z = Nd.zero ∧ k = 0)
theorem fromRight_any (a b : Nd) (l1 : a.ks.length ≤ 500) (l2 : a.vs.length ≤ 500) (l3 : b.ks.length ≤ 500) (l4 : b.vs.length ≤ 500) (W : World) (ha : NR W a) (hb : NR W b) :
    Calls Try.prog 22 #[ndV a, ndV b] W fun e w' => ∃ (y z : Nd) (k : Nat), e = .returned (.tuple #[ndV y, ndV z, .int .u64 (k : Nat)]) ∧ fromRightP a b y z k ∧ NR w' y ∧ NR w' z ∧ Below W.heap.size W w' := by
  by_cases h : folP a b ∧ 2 ≤ b.ks.length
  · refine (fromRight_yes a b l1 l2 l3 l4 h.1 h.2 W ha hb).mono ?_
    rintro e w' ⟨y, z, he, h6, o1, o2, h1⟩
    exact ⟨y, z, _, he, ⟨fun _ => ⟨rfl, h1⟩, fun k => absurd h k⟩, o1.nr, o2.nr, h6⟩
  · refine (fromRight_no a b l1 l2 l3 l4 h W ha hb).mono ?_
    rintro e w' ⟨he, h6⟩
    exact ⟨Nd.zero, Nd.zero, 0, he, ⟨fun k => absurd k h, fun _ => ⟨rfl, rfl, rfl⟩⟩, NR.zero _, NR.zero _, h6⟩
def fromLeftP (a b y z : Nd) (k : Nat) : Prop := (folP a b ∧ 1 ≤ a.ks.length → k = a.ks.getD (a.ks.length - 1) 0 ∧ y.inner = false ∧ z.inner = false ∧ y.link = a.link ∧ z.link = b.link ∧ y.ks = cutL a.ks 0 (a.ks.length - 1) ∧ y.vs = cutL a.vs 0 (a.ks.length - 1) ∧ z.ks = cutL a.ks (a.ks.length - 1) a.ks.length ++ b.ks ∧ z.vs = cutL a.vs (a.ks.length - 1) a.ks.length ++ b.vs) ∧ (¬ (folP a b ∧ 1 ≤ a.ks.length) → y = Nd.zero ∧ z = Nd.zero ∧ k = 0)
theorem fromLeft_any (a b : Nd) (l1 : a.ks.length ≤ 500) (l2 : a.vs.length ≤ 500) (l3 : b.ks.length ≤ 500) (l4 : b.vs.length ≤ 500) (W : World) (ha : NR W a) (hb : NR W b) :
    Calls Try.prog 23 #[ndV a, ndV b] W fun e w' => ∃ (y z : Nd) (k : Nat), e = .returned (.tuple #[ndV y, ndV z, .int .u64 (k : Nat)]) ∧ fromLeftP a b y z k ∧ NR w' y ∧ NR w' z ∧ Below W.heap.size W w' := by
  by_cases h : folP a b ∧ 1 ≤ a.ks.length
  · refine (fromLeft_yes a b l1 l2 l3 l4 h.1 h.2 W ha hb).mono ?_
    rintro e w' ⟨y, z, he, h6, o1, o2, h1⟩
    exact ⟨y, z, _, he, ⟨fun _ => ⟨rfl, h1⟩, fun k => absurd h k⟩, o1.nr, o2.nr, h6⟩
  · refine (fromLeft_no a b l1 l2 l3 l4 h W ha hb).mono ?_
    rintro e w' ⟨he, h6⟩
    exact ⟨Nd.zero, Nd.zero, 0, he, ⟨fun k => absurd k h, fun _ => ⟨rfl, rfl, rfl⟩⟩, NR.zero _, NR.zero _, h6⟩
structure MS (w0 : World) (a b : Nd) (g5 : Nat) (m : Nd) (g6 : Nat) (c d : Nd) (g9 : Nat) (e f : Nd) (W : World) : Prop where
  na : NC (w0.heap.size) a W
  nb : NC (w0.heap.size + 1) b W
  nm : NC (g5) m W
  nc : NC (g6) c W
  nd : NC (g6 + 1) d W
  ne : NC (g9) e W
  nf : NC (g9 + 1) f W
  ra : NR W a
  rb : NR W b
  rm : NR W m
  rc : NR W c
  rd : NR W d
  re : NR W e
  rf : NR W f
  bl : Below w0.heap.size w0 W
section
variable {w0 : World} {a b : Nd} {g5 : Nat} {m : Nd} {g6 : Nat} {c d : Nd} {g9 : Nat} {e f : Nd} {W W' : World}
theorem MS.next (h : MS w0 a b g5 m g6 c d g9 e f W) (hn : Below W.heap.size W W') : MS w0 a b g5 m g6 c d g9 e f W' :=
  ⟨h.na.next hn, h.nb.next hn, h.nm.next hn, h.nc.next hn, h.nd.next hn, h.ne.next hn, h.nf.next hn, h.ra.next hn, h.rb.next hn, h.rm.next hn, h.rc.next hn, h.rd.next hn, h.re.next hn, h.rf.next hn, h.bl.trans (hn.mono h.bl.size)⟩
theorem MS.all (h : MS w0 a b g5 m g6 c d g9 e f W) : W.cell? ⟨w0.heap.size, 0, none⟩ = some (.bool a.inner) ∧ W.cell? ⟨w0.heap.size, 1, none⟩ = some (.slice a.A1 a.ks.length a.c1) ∧ W.cell? ⟨w0.heap.size, 2, none⟩ = some (.slice a.A2 a.vs.length a.c2) ∧ W.cell? ⟨w0.heap.size, 3, none⟩ = some (.int .u64 (a.link : Nat)) ∧ W.cell? ⟨w0.heap.size + 1, 0, none⟩ = some (.bool b.inner) ∧ W.cell? ⟨w0.heap.size + 1, 1, none⟩ = some (.slice b.A1 b.ks.length b.c1) ∧ W.cell? ⟨w0.heap.size + 1, 2, none⟩ = some (.slice b.A2 b.vs.length b.c2) ∧ W.cell? ⟨w0.heap.size + 1, 3, none⟩ = some (.int .u64 (b.link : Nat)) ∧ W.cell? ⟨g5, 0, none⟩ = some (.bool m.inner) ∧ W.cell? ⟨g5, 1, none⟩ = some (.slice m.A1 m.ks.length m.c1) ∧ W.cell? ⟨g5, 2, none⟩ = some (.slice m.A2 m.vs.length m.c2) ∧ W.cell? ⟨g5, 3, none⟩ = some (.int .u64 (m.link : Nat)) ∧ W.cell? ⟨g6, 0, none⟩ = some (.bool c.inner) ∧ W.cell? ⟨g6, 1, none⟩ = some (.slice c.A1 c.ks.length c.c1) ∧ W.cell? ⟨g6, 2, none⟩ = some (.slice c.A2 c.vs.length c.c2) ∧ W.cell? ⟨g6, 3, none⟩ = some (.int .u64 (c.link : Nat)) ∧ W.cell? ⟨g6 + 1, 0, none⟩ = some (.bool d.inner) ∧ W.cell? ⟨g6 + 1, 1, none⟩ = some (.slice d.A1 d.ks.length d.c1) ∧ W.cell? ⟨g6 + 1, 2, none⟩ = some (.slice d.A2 d.vs.length d.c2) ∧ W.cell? ⟨g6 + 1, 3, none⟩ = some (.int .u64 (d.link : Nat)) ∧ W.cell? ⟨g9, 0, none⟩ = some (.bool e.inner) ∧ W.cell? ⟨g9, 1, none⟩ = some (.slice e.A1 e.ks.length e.c1) ∧ W.cell? ⟨g9, 2, none⟩ = some (.slice e.A2 e.vs.length e.c2) ∧ W.cell? ⟨g9, 3, none⟩ = some (.int .u64 (e.link : Nat)) ∧ W.cell? ⟨g9 + 1, 0, none⟩ = some (.bool f.inner) ∧ W.cell? ⟨g9 + 1, 1, none⟩ = some (.slice f.A1 f.ks.length f.c1) ∧ W.cell? ⟨g9 + 1, 2, none⟩ = some (.slice f.A2 f.vs.length f.c2) ∧ W.cell? ⟨g9 + 1, 3, none⟩ = some (.int .u64 (f.link : Nat)) ∧ MS w0 a b g5 m g6 c d g9 e f W :=
  ⟨h.na.c0, h.na.c1, h.na.c2, h.na.c3, h.nb.c0, h.nb.c1, h.nb.c2, h.nb.c3, h.nm.c0, h.nm.c1, h.nm.c2, h.nm.c3, h.nc.c0, h.nc.c1, h.nc.c2, h.nc.c3, h.nd.c0, h.nd.c1, h.nd.c2, h.nd.c3, h.ne.c0, h.ne.c1, h.ne.c2, h.ne.c3, h.nf.c0, h.nf.c1, h.nf.c2, h.nf.c3, h⟩
theorem MS.of (h : W.cell? ⟨w0.heap.size, 0, none⟩ = some (.bool a.inner) ∧ W.cell? ⟨w0.heap.size, 1, none⟩ = some (.slice a.A1 a.ks.length a.c1) ∧ W.cell? ⟨w0.heap.size, 2, none⟩ = some (.slice a.A2 a.vs.length a.c2) ∧ W.cell? ⟨w0.heap.size, 3, none⟩ = some (.int .u64 (a.link : Nat)) ∧ W.cell? ⟨w0.heap.size + 1, 0, none⟩ = some (.bool b.inner) ∧ W.cell? ⟨w0.heap.size + 1, 1, none⟩ = some (.slice b.A1 b.ks.length b.c1) ∧ W.cell? ⟨w0.heap.size + 1, 2, none⟩ = some (.slice b.A2 b.vs.length b.c2) ∧ W.cell? ⟨w0.heap.size + 1, 3, none⟩ = some (.int .u64 (b.link : Nat)) ∧ W.cell? ⟨g5, 0, none⟩ = some (.bool m.inner) ∧ W.cell? ⟨g5, 1, none⟩ = some (.slice m.A1 m.ks.length m.c1) ∧ W.cell? ⟨g5, 2, none⟩ = some (.slice m.A2 m.vs.length m.c2) ∧ W.cell? ⟨g5, 3, none⟩ = some (.int .u64 (m.link : Nat)) ∧ W.cell? ⟨g6, 0, none⟩ = some (.bool c.inner) ∧ W.cell? ⟨g6, 1, none⟩ = some (.slice c.A1 c.ks.length c.c1) ∧ W.cell? ⟨g6, 2, none⟩ = some (.slice c.A2 c.vs.length c.c2) ∧ W.cell? ⟨g6, 3, none⟩ = some (.int .u64 (c.link : Nat)) ∧ W.cell? ⟨g6 + 1, 0, none⟩ = some (.bool d.inner) ∧ W.cell? ⟨g6 + 1, 1, none⟩ = some (.slice d.A1 d.ks.length d.c1) ∧ W.cell? ⟨g6 + 1, 2, none⟩ = some (.slice d.A2 d.vs.length d.c2) ∧ W.cell? ⟨g6 + 1, 3, none⟩ = some (.int .u64 (d.link : Nat)) ∧ W.cell? ⟨g9, 0, none⟩ = some (.bool e.inner) ∧ W.cell? ⟨g9, 1, none⟩ = some (.slice e.A1 e.ks.length e.c1) ∧ W.cell? ⟨g9, 2, none⟩ = some (.slice e.A2 e.vs.length e.c2) ∧ W.cell? ⟨g9, 3, none⟩ = some (.int .u64 (e.link : Nat)) ∧ W.cell? ⟨g9 + 1, 0, none⟩ = some (.bool f.inner) ∧ W.cell? ⟨g9 + 1, 1, none⟩ = some (.slice f.A1 f.ks.length f.c1) ∧ W.cell? ⟨g9 + 1, 2, none⟩ = some (.slice f.A2 f.vs.length f.c2) ∧ W.cell? ⟨g9 + 1, 3, none⟩ = some (.int .u64 (f.link : Nat)) ∧ MS w0 a b g5 m g6 c d g9 e f W) : MS w0 a b g5 m g6 c d g9 e f W := h.2.2.2.2.2.2.2.2.2.2.2.2.2.2.2.2.2.2.2.2.2.2.2.2.2.2.2.2
/-- The nodes' boxes as the law makes them, one behind the other. -/
structure M5 (w0 : World) (a b : Nd) (g5 : Nat) (m : Nd) (W : World) : Prop extends F2 w0 a b W where
  nm : NC g5 m W
  rm : NR W m
theorem M5.next (h : M5 w0 a b g5 m W) (hn : Below W.heap.size W W') : M5 w0 a b g5 m W' := ⟨h.toF2.next hn, h.nm.next hn, h.rm.next hn⟩
theorem M5.start (h : F2 w0 a b W) (hm : NR W m) : M5 w0 a b W.heap.size m (W.alloc (ndRow m)) := ⟨h.next (nl1 _ _), NC.alloc W m, hm.next (nl1 _ _)⟩
structure M7 (w0 : World) (a b : Nd) (g5 : Nat) (m : Nd) (g6 : Nat) (c d : Nd) (W : World) : Prop extends M5 w0 a b g5 m W where
  nc : NC g6 c W
  nd : NC (g6 + 1) d W
  rc : NR W c
  rd : NR W d
theorem M7.next (h : M7 w0 a b g5 m g6 c d W) (hn : Below W.heap.size W W') : M7 w0 a b g5 m g6 c d W' := ⟨h.toM5.next hn, h.nc.next hn, h.nd.next hn, h.rc.next hn, h.rd.next hn⟩
theorem two_boxes (W : World) (c d : Nd) : NC W.heap.size c ((W.alloc (ndRow c)).alloc (ndRow d)) ∧ NC (W.heap.size + 1) d ((W.alloc (ndRow c)).alloc (ndRow d)) :=
  ⟨(NC.alloc W c).next (nl1 _ _), by have := NC.alloc (W.alloc (ndRow c)) d; simpa only [World.size_alloc] using this⟩
theorem M7.start (h : M5 w0 a b g5 m W) (hc : NR W c) (hd : NR W d) : M7 w0 a b g5 m W.heap.size c d ((W.alloc (ndRow c)).alloc (ndRow d)) := ⟨h.next (nl2 _ _ _), (two_boxes W c d).1, (two_boxes W c d).2, hc.next (nl2 _ _ _), hd.next (nl2 _ _ _)⟩
theorem MS.start (h : M7 w0 a b g5 m g6 c d W) (he : NR W e) (hf : NR W f) : MS w0 a b g5 m g6 c d W.heap.size e f ((W.alloc (ndRow e)).alloc (ndRow f)) := by
  have h7 := h.next (nl2 W (ndRow e) (ndRow f))
  exact ⟨h7.na, h7.nb, h7.nm, h7.nc, h7.nd, (two_boxes W e f).1, (two_boxes W e f).2, h7.ra, h7.rb, h7.rm, h7.rc, h7.rd, he.next (nl2 _ _ _), hf.next (nl2 _ _ _), h7.bl⟩
end
theorem rjoin_0 (a b : Nd) (ea : a.ks.length = a.vs.length) (eb : b.ks.length = b.vs.length) (hla : a.ks.length ≤ 1000) (hlb : b.ks.length ≤ 1000) (W : World) (hna : NR W a) (hnb : NR W b) :
    Calls Try.prog 24 #[ndV a, ndV b, .int .u64 0] W fun e w' => ∃ y : Nd, e = .returned (ndV y) ∧ y.inner = false ∧ y.link = 0 ∧ y.ks = a.ks ++ b.ks ∧ y.vs = a.vs ++ b.vs ∧ ON W.heap.size y w' ∧ Below W.heap.size W w' := rjoin_any a b 0 ea eb hla hlb W hna hnb
theorem zsame (x : Nd) (hx : x = Nd.zero) (W : World) : Calls Try.prog 15 #[ndV x, .agg #[.bool false, .slice none 0 0, .slice none 0 0, .int .u64 0]] W fun e w' => e = .returned (.bool true) ∧ Below W.heap.size W w' := by
  subst hx
  exact same_any Nd.zero Nd.zero (by simp) (by simp) rfl rfl rfl rfl W (NR.zero _) (NR.zero _)
theorem zsame2 (x y : Nd) (hx : x = Nd.zero) (hy : y = Nd.zero) (W : World) : Calls Try.prog 15 #[ndV x, ndV y] W fun e w' => e = .returned (.bool true) ∧ Below W.heap.size W w' := by
  subst hx; subst hy
  exact same_any Nd.zero Nd.zero (by simp) (by simp) rfl rfl rfl rfl W (NR.zero _) (NR.zero _)
end Go.Proofs.Ytahpdifneajblaa
