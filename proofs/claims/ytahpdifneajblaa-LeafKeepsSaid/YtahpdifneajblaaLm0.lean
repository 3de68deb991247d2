/- LeafMerges: contracts at literals. -/
import Derived.Test.YtahpdifneajblaaLeaf12
namespace Go.Proofs.Ytahpdifneajblaa
set_option linter.unusedVariables false
open Go.RowKit
theorem rcut_01 (x : Nd)  (hf : 0 ≤ 1) (h1 : 1 ≤ x.ks.length) (h2 : 1 ≤ x.vs.length) (hl : x.ks.length ≤ 1000) (W : World) (hx : NR W x) :
    Calls Try.prog 20 #[ndV x, .int .i64 0, .int .i64 1, .int .u64 0] W fun e w' => ∃ y : Nd, e = .returned (ndV y) ∧ y.inner = false ∧ y.link = 0 ∧ y.ks = cutL x.ks 0 1 ∧ y.vs = cutL x.vs 0 1 ∧ ON W.heap.size y w' ∧ Below W.heap.size W w' := rcut_any x 0 1 0 hf h1 h2 hl W hx
theorem rcut_1t (x : Nd) (t l : Nat) (hf : 1 ≤ t) (h1 : t ≤ x.ks.length) (h2 : t ≤ x.vs.length) (hl : x.ks.length ≤ 1000) (W : World) (hx : NR W x) :
    Calls Try.prog 20 #[ndV x, .int .i64 1, .int .i64 t, .int .u64 (l : Nat)] W fun e w' => ∃ y : Nd, e = .returned (ndV y) ∧ y.inner = false ∧ y.link = l ∧ y.ks = cutL x.ks 1 t ∧ y.vs = cutL x.vs 1 t ∧ ON W.heap.size y w' ∧ Below W.heap.size W w' := rcut_any x 1 t l hf h1 h2 hl W hx
theorem rcut_0t (x : Nd) (t l : Nat) (hf : 0 ≤ t) (h1 : t ≤ x.ks.length) (h2 : t ≤ x.vs.length) (hl : x.ks.length ≤ 1000) (W : World) (hx : NR W x) :
    Calls Try.prog 20 #[ndV x, .int .i64 0, .int .i64 t, .int .u64 (l : Nat)] W fun e w' => ∃ y : Nd, e = .returned (ndV y) ∧ y.inner = false ∧ y.link = l ∧ y.ks = cutL x.ks 0 t ∧ y.vs = cutL x.vs 0 t ∧ ON W.heap.size y w' ∧ Below W.heap.size W w' := rcut_any x 0 t l hf h1 h2 hl W hx
theorem rcut_t0 (x : Nd) (f t : Nat) (hf : f ≤ t) (h1 : t ≤ x.ks.length) (h2 : t ≤ x.vs.length) (hl : x.ks.length ≤ 1000) (W : World) (hx : NR W x) :
    Calls Try.prog 20 #[ndV x, .int .i64 f, .int .i64 t, .int .u64 0] W fun e w' => ∃ y : Nd, e = .returned (ndV y) ∧ y.inner = false ∧ y.link = 0 ∧ y.ks = cutL x.ks f t ∧ y.vs = cutL x.vs f t ∧ ON W.heap.size y w' ∧ Below W.heap.size W w' := rcut_any x f t 0 hf h1 h2 hl W hx
end Go.Proofs.Ytahpdifneajblaa
