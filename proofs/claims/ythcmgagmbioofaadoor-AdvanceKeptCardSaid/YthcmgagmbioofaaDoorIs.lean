/- errors.Is of config's error against a number: it is what it wraps, or not. told, of no error and of one. -/
import Derived.Test.YthcmgagmbioofaaDoorAs2
import Derived.Lib.Hide
namespace Go.Proofs.YthcmgagmbioofaaDoor
set_option linter.unusedVariables false
open Go.RowKit Go.Extern.Stop Go.Stop Go.Extern

theorem noIsS (v : Value) (xT : TypeId) (w : World) : (Instr.typeAssert (.iface 93 v) xT 130 true).run Tryd.prog w = .ok (.tuple #[.nilIface, .bool false]) w := run_typeAssert_lacksB Tryd.underlying130 (by kernel_rfl) (by kernel_rfl) v xT w
theorem hasUnwrapS (v : Value) (xT : TypeId) (w : World) : (Instr.typeAssert (.iface 93 v) xT 125 true).run Tryd.prog w = .ok (.tuple #[.iface 93 v, .bool true]) w := run_typeAssert_hasB Tryd.underlying125 (by kernel_rfl) v xT w
theorem methodUnwrapS (v : Value) (w : World) : (Go.method 262 93 v "Unwrap").run Tryd.prog w = .ok (104, v) w := by kernel_rfl
theorem noIsE (v : Value) (xT : TypeId) (w : World) : (Instr.typeAssert (.iface 80 v) xT 130 true).run Tryd.prog w = .ok (.tuple #[.nilIface, .bool false]) w := run_typeAssert_lacksB Tryd.underlying130 (by kernel_rfl) (by kernel_rfl) v xT w
theorem noUnwrapE (v : Value) (xT : TypeId) (w : World) : (Instr.typeAssert (.iface 80 v) xT 125 true).run Tryd.prog w = .ok (.tuple #[.nilIface, .bool false]) w := run_typeAssert_lacksB Tryd.underlying125 (by kernel_rfl) (by kernel_rfl) v xT w
theorem noUnwrapsE (v : Value) (xT : TypeId) (w : World) : (Instr.typeAssert (.iface 80 v) xT 127 true).run Tryd.prog w = .ok (.tuple #[.nilIface, .bool false]) w := run_typeAssert_lacksB Tryd.underlying127 (by kernel_rfl) (by kernel_rfl) v xT w
theorem eqTypes (v : Value) (k : Int) (w : World) : (binOp .eql 89 (.iface 93 v) (.iface 80 (.int .i64 k))).run Tryd.prog w = .ok (.bool false) w := run_eql_iface_types _ _ _ _ Tryd.underlying89 (by decide) w
theorem eq94 (w : World) : (binOp .eql 89 (.iface 80 (.int .i64 9)) (.iface 80 (.int .i64 4))).run Tryd.prog w = .ok (.bool false) w := by kernel_rfl
theorem eq44 (w : World) : (binOp .eql 89 (.iface 80 (.int .i64 4)) (.iface 80 (.int .i64 4))).run Tryd.prog w = .ok (.bool true) w := by kernel_rfl
def cmpRow (t : TypeId) : Sem Value := do Rtype.noPackHeld "Comparable" t; pure (.bool (← typeInfo t).comparable)
theorem comparableE (w : World) : (ReflectliteType.method cmpRow #[.agg #[.pointer (some ⟨2, 80, none⟩)]]).run Tryd.prog w = .ok (.bool true) w := by kernel_rfl
theorem unwrap_any (s : ByteArray) (k : Int) (w : World) : Calls Tryd.prog 104 #[wrongV s k] w fun e w' => e = .returned (.iface 80 (.int .i64 k)) ∧ Below w.heap.size w w' := by
  go_enter Tryd.func104, Tryd.ntmps104
  go_wp2
  go_ret
  exact ⟨rfl, (Below.refl _ _).alloc (Nat.le_refl _) _⟩

set_option maxHeartbeats 4000000 in
theorem is_94 (s : ByteArray) (w : World) :
    Calls Tryd.prog 73 #[.iface 93 (wrongV s 9), .iface 80 (.int .i64 4)] w fun e w' => e = .returned (.bool false) ∧ Below w.heap.size w w' := by
  have h8 := @run_callFunc_extern Tryd.prog 80 _ ReflectliteType.typeOf Tryd.func80 (by kernel_rfl) (by kernel_rfl) (by kernel_rfl) (by kernel_rfl)
  have h32 := @run_callFunc_extern Tryd.prog 110 _ (ReflectliteType.method cmpRow) Tryd.func110 (by kernel_rfl) (by kernel_rfl) (by kernel_rfl) (by kernel_rfl)
  have tO := typeOfE
  have mC := methodComparable
  have cE := comparableE
  have q1 := eqTypes
  have q2 := eq94
  have a1 := noIsS
  have a2 := hasUnwrapS
  have a3 := methodUnwrapS
  have a4 := noIsE
  have a5 := noUnwrapE
  have a6 := noUnwrapsE
  have U := Lib.hid (unwrap_any s 9)
  go_enter Tryd.func73, Tryd.ntmps73
  go_wp2
  refine wp_loop_rounds 2 ?_
  rw [rounds_succ]
  go_wp2_with (go_at_call 104; refine (U.out _).mono ?_; rintro e w1 ⟨rfl, hb⟩)
  rw [rounds_succ]
  go_wp2
  go_ret
  exact ⟨rfl, hb⟩
set_option maxHeartbeats 4000000 in
theorem is_44 (s : ByteArray) (w : World) :
    Calls Tryd.prog 73 #[.iface 93 (wrongV s 4), .iface 80 (.int .i64 4)] w fun e w' => e = .returned (.bool true) ∧ Below w.heap.size w w' := by
  have h8 := @run_callFunc_extern Tryd.prog 80 _ ReflectliteType.typeOf Tryd.func80 (by kernel_rfl) (by kernel_rfl) (by kernel_rfl) (by kernel_rfl)
  have h32 := @run_callFunc_extern Tryd.prog 110 _ (ReflectliteType.method cmpRow) Tryd.func110 (by kernel_rfl) (by kernel_rfl) (by kernel_rfl) (by kernel_rfl)
  have tO := typeOfE
  have mC := methodComparable
  have cE := comparableE
  have q1 := eqTypes
  have q2 := eq44
  have a1 := noIsS
  have a2 := hasUnwrapS
  have a3 := methodUnwrapS
  have U := Lib.hid (unwrap_any s 4)
  go_enter Tryd.func73, Tryd.ntmps73
  go_wp2
  refine wp_loop_rounds 2 ?_
  rw [rounds_succ]
  go_wp2_with (go_at_call 104; refine (U.out _).mono ?_; rintro e w1 ⟨rfl, hb⟩)
  rw [rounds_succ]
  go_wp2
  go_ret
  exact ⟨rfl, hb⟩
end Go.Proofs.YthcmgagmbioofaaDoor
