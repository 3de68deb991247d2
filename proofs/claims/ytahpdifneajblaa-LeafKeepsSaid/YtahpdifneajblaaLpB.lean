/- What the law LeafPuts holds. -/
import Derived.Test.YtahpdifneajblaaLeaf17
import Derived.Test.YtahpdifneajblaaLeaf18
namespace Go.Proofs.Ytahpdifneajblaa
set_option linter.unusedVariables false
open Go.RowKit
structure PX (w0 : World) (x : Nd) (W : World) : Prop where
  n : NC w0.heap.size x W
  r0 : NR w0 x
  bl : Below w0.heap.size w0 W
structure PY (w0 : World) (x : Nd) (g5 : Nat) (a : Nd) (W : World) : Prop extends PX w0 x W where
  na : NC g5 a W
  ra : NR W a
structure PZ (w0 : World) (x : Nd) (g5 : Nat) (a : Nd) (g6 : Nat) (b : Nd) (W : World) : Prop extends PY w0 x g5 a W where
  nb : NC g6 b W
  rb : NR W b
section
variable {w0 : World} {x : Nd} {g5 : Nat} {a : Nd} {g6 : Nat} {b : Nd} {W W' : World}
theorem PX.xr (h : PX w0 x W) : NR W x := h.r0.next h.bl
theorem PX.next (h : PX w0 x W) (hn : Below W.heap.size W W') : PX w0 x W' := ⟨h.n.next hn, h.r0, h.bl.trans (hn.mono h.bl.size)⟩
theorem PX.start (w : World) (x : Nd) (h : NR w x) : PX w x (w.alloc (ndRow x)) := ⟨NC.alloc w x, h, nl1 _ _⟩
theorem PY.next (h : PY w0 x g5 a W) (hn : Below W.heap.size W W') : PY w0 x g5 a W' := ⟨h.toPX.next hn, h.na.next hn, h.ra.next hn⟩
theorem PY.start (h : PX w0 x W) (ha : NR W a) : PY w0 x W.heap.size a (W.alloc (ndRow a)) := ⟨h.next (nl1 _ _), NC.alloc W a, ha.next (nl1 _ _)⟩
theorem PZ.next (h : PZ w0 x g5 a g6 b W) (hn : Below W.heap.size W W') : PZ w0 x g5 a g6 b W' := ⟨h.toPY.next hn, h.nb.next hn, h.rb.next hn⟩
theorem PZ.start (h : PY w0 x g5 a W) (hb : NR W b) : PZ w0 x g5 a W.heap.size b (W.alloc (ndRow b)) := ⟨h.next (nl1 _ _), NC.alloc W b, hb.next (nl1 _ _)⟩
end
theorem put_no2 (x : Nd) (q v : Nat) (hl : x.ks.length ≤ 1000) (hr : ¬ rightP x) (W : World) (hx : NR W x) :
    Calls Try.prog 11 #[ndV x, .int .u64 (q : Nat), .int .u64 (v : Nat)] W fun e w' => ∃ a : Nd, e = .returned (.tuple #[ndV a, .int .u64 0, .bool false]) ∧ a = Nd.zero ∧ Below W.heap.size W w' :=
  (put_no x q v hl hr W hx).mono fun _ _ h => ⟨Nd.zero, h.1, rfl, h.2⟩
theorem drop_no2 (x : Nd) (q : Nat) (hl : x.ks.length ≤ 1000) (hr : ¬ rightP x) (W : World) (hx : NR W x) :
    Calls Try.prog 12 #[ndV x, .int .u64 (q : Nat)] W fun e w' => ∃ a : Nd, e = .returned (.tuple #[ndV a, .int .u64 0, .bool false]) ∧ a = Nd.zero ∧ Below W.heap.size W w' :=
  (drop_no x q hl hr W hx).mono fun _ _ h => ⟨Nd.zero, h.1, rfl, h.2⟩
theorem zNR {a : Nd} (h : a = Nd.zero) (W : World) : NR W a := by subst h; exact NR.zero W
end Go.Proofs.Ytahpdifneajblaa
