/- errors.As, where the error's own type is the target's; errors.Is, where neither it nor what it wraps is the sentinel. -/
import Derived.Test.YthcmgagmbioofaaDoorAs
import Derived.Below
namespace Go.Proofs.YthcmgagmbioofaaDoor
set_option linter.unusedVariables false
open Go.RowKit Go.Extern.Stop Go.Stop Go.Extern

def asWorld (s : ByteArray) (k : Int) (t : Nat) (w : World) : World :=
  (((((w.alloc (.cells #[.pointer (some ⟨t, 0, none⟩)] 95)).alloc (.cells #[.pointer (some ⟨2, 95, none⟩), .pointer (some ⟨w.heap.size, 0, none⟩), .int .u64 150] 106)).alloc (.cells #[.pointer (some ⟨2, 95, none⟩), .pointer (some ⟨w.heap.size, 0, none⟩), .int .u64 150] 106)).alloc (.cells #[.string s, .iface 80 (.int .i64 k)] 93)).setCell ⟨t, 0, none⟩ (.string s)).setCell ⟨t, 1, none⟩ (.iface 80 (.int .i64 k))

set_option maxHeartbeats 4000000 in
theorem as_hit (s : ByteArray) (k : Int) (t : Nat) (o0 o1 : Value) (w : World) (hg : w.cell? ⟨1, 0, none⟩ = some (.iface 118 (.agg #[.pointer (some ⟨2, 89, none⟩)])))
    (ht0 : w.cell? ⟨t, 0, none⟩ = some o0) (ht1 : w.cell? ⟨t, 1, none⟩ = some o1) (hf0 : ∀ i, w.frozen? ⟨t, i, none⟩ = false) :
    Calls Tryd.prog 72 #[.iface 93 (wrongV s k), .iface 95 (.pointer (some ⟨t, 0, none⟩))] w fun ev w' => ev = .returned (.bool true) ∧ w' = asWorld s k t w := by
  have h6 := @run_callFunc_extern Tryd.prog 76 _ (fun args => ReflectliteValue.unpack (args.getD 0 (.tuple #[]))) Tryd.func76 (by kernel_rfl) (by kernel_rfl) (by kernel_rfl) (by kernel_rfl)
  have h7 := @run_callFunc_extern Tryd.prog 77 _ (ReflectliteValue.methodAny (ReflectliteValue.valueError "reflectlite.Value.Type" 0) (fun t _ _ _ => ReflectliteType.toType t)) Tryd.func77 (by kernel_rfl) (by kernel_rfl) (by kernel_rfl) (by kernel_rfl)
  have h8 := @run_callFunc_extern Tryd.prog 78 _ (ReflectliteValue.method (ReflectliteValue.valueError "reflectlite.Value.IsNil" 0) ReflectliteValue.isNil) Tryd.func78 (by kernel_rfl) (by kernel_rfl) (by kernel_rfl) (by kernel_rfl)
  have h27 := @run_callFunc_extern Tryd.prog 98 _ (ReflectliteType.abiMethod fun t => do pure (.int .u8 (← Rtype.kind t))) Tryd.func98 (by kernel_rfl) (by kernel_rfl) (by kernel_rfl) (by kernel_rfl)
  have h37 := @run_callFunc_extern Tryd.prog 111 _ (ReflectliteType.method ReflectliteType.elem) Tryd.func111 (by kernel_rfl) (by kernel_rfl) (by kernel_rfl) (by kernel_rfl)
  have h38 := @run_callFunc_extern Tryd.prog 112 _ (ReflectliteType.relation "Implements" ReflectliteType.implements_) Tryd.func112 (by kernel_rfl) (by kernel_rfl) (by kernel_rfl) (by kernel_rfl)
  have h10 := @run_callFunc_extern Tryd.prog 80 _ ReflectliteType.typeOf Tryd.func80 (by kernel_rfl) (by kernel_rfl) (by kernel_rfl) (by kernel_rfl)
  have h35 := @run_callFunc_extern Tryd.prog 109 _ (ReflectliteType.relation "AssignableTo" ReflectliteType.assignableTo) Tryd.func109 (by kernel_rfl) (by kernel_rfl) (by kernel_rfl) (by kernel_rfl)
  have h11 := @run_callFunc_extern Tryd.prog 82 _ (ReflectliteValue.method (ReflectliteValue.valueError "reflectlite.Value.Elem" 0) ReflectliteValue.elem) Tryd.func82 (by kernel_rfl) (by kernel_rfl) (by kernel_rfl) (by kernel_rfl)
  have h12 := @run_callFunc_extern Tryd.prog 83 _ ReflectliteValue.set Tryd.func83 (by kernel_rfl) (by kernel_rfl) (by kernel_rfl) (by kernel_rfl)
  have tO := typeOfS
  have mA := methodAssignableTo
  have a25 := assignableS
  have v25 := valueOfS s k
  have f6 := valueOfP
  have f7 := typeP
  have mK := methodKind
  have mE := methodElem
  have mI := methodImplements
  have k27 := kindP
  have k25 := kindS
  have e27 := elemP
  have i25 := implementsS
  have n8 := isNilP ⟨w.heap.size, 0, none⟩ ⟨t, 0, none⟩ ((w.alloc (.cells #[.pointer (some ⟨t, 0, none⟩)] 95)).alloc (.cells #[.pointer (some ⟨2, 95, none⟩), .pointer (some ⟨w.heap.size, 0, none⟩), .int .u64 150] 106)) (by simp)
  have hlt : 1 < w.heap.size := World.block_lt_of_cell? w _ hg
  have hg2 : ((w.alloc (.cells #[.pointer (some ⟨t, 0, none⟩)] 95)).alloc (.cells #[.pointer (some ⟨2, 95, none⟩), .pointer (some ⟨w.heap.size, 0, none⟩), .int .u64 150] 106)).cell? ⟨1, 0, none⟩ = some (.iface 118 (.agg #[.pointer (some ⟨2, 89, none⟩)])) := by
    rw [World.cell?_alloc_lt _ _ ⟨1, 0, none⟩ (by simp; omega), World.cell?_alloc_lt _ _ ⟨1, 0, none⟩ hlt]; exact hg
  have htl : t < w.heap.size := World.block_lt_of_cell? w _ ht0
  have el := elemVP ⟨w.heap.size, 0, none⟩ ⟨t, 0, none⟩ (((w.alloc (.cells #[.pointer (some ⟨t, 0, none⟩)] 95)).alloc (.cells #[.pointer (some ⟨2, 95, none⟩), .pointer (some ⟨w.heap.size, 0, none⟩), .int .u64 150] 106)).alloc (.cells #[.pointer (some ⟨2, 95, none⟩), .pointer (some ⟨w.heap.size, 0, none⟩), .int .u64 150] 106)) (by rw [World.cell?_alloc_lt _ _ ⟨w.heap.size, 0, none⟩ (by simp; omega)]; simp)
  have old : ∀ i, ((((w.alloc (.cells #[.pointer (some ⟨t, 0, none⟩)] 95)).alloc (.cells #[.pointer (some ⟨2, 95, none⟩), .pointer (some ⟨w.heap.size, 0, none⟩), .int .u64 150] 106)).alloc (.cells #[.pointer (some ⟨2, 95, none⟩), .pointer (some ⟨w.heap.size, 0, none⟩), .int .u64 150] 106)).alloc (.cells #[.string s, .iface 80 (.int .i64 k)] 93)).cell? ⟨t, i, none⟩ = w.cell? ⟨t, i, none⟩ := fun i => by
    rw [World.cell?_alloc_lt _ _ ⟨t, i, none⟩ (by simp; omega), World.cell?_alloc_lt _ _ ⟨t, i, none⟩ (by simp; omega), World.cell?_alloc_lt _ _ ⟨t, i, none⟩ (by simp; omega), World.cell?_alloc_lt _ _ ⟨t, i, none⟩ htl]
  have oldf : ∀ i, ((((w.alloc (.cells #[.pointer (some ⟨t, 0, none⟩)] 95)).alloc (.cells #[.pointer (some ⟨2, 95, none⟩), .pointer (some ⟨w.heap.size, 0, none⟩), .int .u64 150] 106)).alloc (.cells #[.pointer (some ⟨2, 95, none⟩), .pointer (some ⟨w.heap.size, 0, none⟩), .int .u64 150] 106)).alloc (.cells #[.string s, .iface 80 (.int .i64 k)] 93)).frozen? ⟨t, i, none⟩ = w.frozen? ⟨t, i, none⟩ := fun i => by
    rw [World.frozen?_alloc_old _ _ ⟨t, i, none⟩ (by simp; omega), World.frozen?_alloc_old _ _ ⟨t, i, none⟩ (by simp; omega), World.frozen?_alloc_old _ _ ⟨t, i, none⟩ (by simp; omega), World.frozen?_alloc_old _ _ ⟨t, i, none⟩ (Nat.ne_of_lt htl)]
  have st := setS t (w.heap.size + 1 + 1 + 1) s k o0 o1 ((((w.alloc (.cells #[.pointer (some ⟨t, 0, none⟩)] 95)).alloc (.cells #[.pointer (some ⟨2, 95, none⟩), .pointer (some ⟨w.heap.size, 0, none⟩), .int .u64 150] 106)).alloc (.cells #[.pointer (some ⟨2, 95, none⟩), .pointer (some ⟨w.heap.size, 0, none⟩), .int .u64 150] 106)).alloc (.cells #[.string s, .iface 80 (.int .i64 k)] 93))
    (by rw [World.cell?_alloc_at _ _ _ _ (by simp)]; rfl) (by rw [World.cell?_alloc_at _ _ _ _ (by simp)]; rfl)
    ((old 0).trans ht0) ((old 1).trans ht1) ((oldf 0).trans (hf0 0)) ((oldf 1).trans (hf0 1))
  unfold asWorld
  clear old oldf ht0 ht1 hf0
  go_enter Tryd.func72, Tryd.ntmps72
  go_wp2
  refine wp_loop_rounds 1 ?_
  rw [rounds_succ]
  go_wp2
  go_ret
  exact ⟨rfl, rfl⟩
end Go.Proofs.YthcmgagmbioofaaDoor
