/- errors.Is of config's error against a number: it is what it wraps, or not. told, of no error and of one. -/
import Derived.Test.YtcdmcnncigfclaaDoorAs2
import Derived.Lib.Hide
namespace Go.Proofs.YtcdmcnncigfclaaDoor
set_option linter.unusedVariables false
open Go.RowKit Go.Extern.Stop Go.Stop Go.Extern

theorem noIsS (v : Value) (xT : TypeId) (w : World) : (Instr.typeAssert (.iface 75 v) xT 126 true).run Tryd.prog w = .ok (.tuple #[.nilIface, .bool false]) w := run_typeAssert_lacksB Tryd.underlying126 (by kernel_rfl) (by kernel_rfl) v xT w
theorem hasUnwrapS (v : Value) (xT : TypeId) (w : World) : (Instr.typeAssert (.iface 75 v) xT 121 true).run Tryd.prog w = .ok (.tuple #[.iface 75 v, .bool true]) w := run_typeAssert_hasB Tryd.underlying121 (by kernel_rfl) v xT w
theorem methodUnwrapS (v : Value) (w : World) : (Go.method 290 75 v "Unwrap").run Tryd.prog w = .ok (134, v) w := by kernel_rfl
theorem noIsE (v : Value) (xT : TypeId) (w : World) : (Instr.typeAssert (.iface 24 v) xT 126 true).run Tryd.prog w = .ok (.tuple #[.nilIface, .bool false]) w := run_typeAssert_lacksB Tryd.underlying126 (by kernel_rfl) (by kernel_rfl) v xT w
theorem noUnwrapE (v : Value) (xT : TypeId) (w : World) : (Instr.typeAssert (.iface 24 v) xT 121 true).run Tryd.prog w = .ok (.tuple #[.nilIface, .bool false]) w := run_typeAssert_lacksB Tryd.underlying121 (by kernel_rfl) (by kernel_rfl) v xT w
theorem noUnwrapsE (v : Value) (xT : TypeId) (w : World) : (Instr.typeAssert (.iface 24 v) xT 123 true).run Tryd.prog w = .ok (.tuple #[.nilIface, .bool false]) w := run_typeAssert_lacksB Tryd.underlying123 (by kernel_rfl) (by kernel_rfl) v xT w
theorem eqTypes (v : Value) (k : Int) (w : World) : (binOp .eql 57 (.iface 75 v) (.iface 24 (.int .i64 k))).run Tryd.prog w = .ok (.bool false) w := run_eql_iface_types _ _ _ _ Tryd.underlying57 (by decide) w
theorem eq94 (w : World) : (binOp .eql 57 (.iface 24 (.int .i64 9)) (.iface 24 (.int .i64 4))).run Tryd.prog w = .ok (.bool false) w := by kernel_rfl
theorem eq44 (w : World) : (binOp .eql 57 (.iface 24 (.int .i64 4)) (.iface 24 (.int .i64 4))).run Tryd.prog w = .ok (.bool true) w := by kernel_rfl
def cmpRow (t : TypeId) : Sem Value := do Rtype.noPackHeld "Comparable" t; pure (.bool (← typeInfo t).comparable)
theorem comparableE (w : World) : (ReflectliteType.method cmpRow #[.agg #[.pointer (some ⟨8, 24, none⟩)]]).run Tryd.prog w = .ok (.bool true) w := by kernel_rfl
theorem unwrap_any (s : ByteArray) (k : Int) (w : World) : Calls Tryd.prog 134 #[wrongV s k] w fun e w' => e = .returned (.iface 24 (.int .i64 k)) ∧ Below w.heap.size w w' := by
  go_enter Tryd.func134, Tryd.ntmps134
  go_wp2
  go_ret
  exact ⟨rfl, (Below.refl _ _).alloc (Nat.le_refl _) _⟩

set_option maxHeartbeats 4000000 in
theorem is_94 (s : ByteArray) (w : World) :
    Calls Tryd.prog 56 #[.iface 75 (wrongV s 9), .iface 24 (.int .i64 4)] w fun e w' => e = .returned (.bool false) ∧ Below w.heap.size w w' := by
  have h8 := @run_callFunc_extern Tryd.prog 72 _ ReflectliteType.typeOf Tryd.func72 (by kernel_rfl) (by kernel_rfl) (by kernel_rfl) (by kernel_rfl)
  have h32 := @run_callFunc_extern Tryd.prog 141 _ (ReflectliteType.method cmpRow) Tryd.func141 (by kernel_rfl) (by kernel_rfl) (by kernel_rfl) (by kernel_rfl)
  have tO := typeOfE
  have mC := methodComparable
  have cE := comparableE
  have q1 := eqTypes
  have q2 := eq94
  have a1 := noIsS
  have a2 := hasUnwrapS
  have a3 := methodUnwrapS
  have a4 := noIsE
  have a5 := noUnwrapE
  have a6 := noUnwrapsE
  have U := Lib.hid (unwrap_any s 9)
  go_enter Tryd.func56, Tryd.ntmps56
  go_wp2
  refine wp_loop_rounds 2 ?_
  rw [rounds_succ]
  go_wp2_with (go_at_call 134; refine (U.out _).mono ?_; rintro e w1 ⟨rfl, hb⟩)
  rw [rounds_succ]
  go_wp2
  go_ret
  exact ⟨rfl, hb⟩
set_option maxHeartbeats 4000000 in
theorem is_44 (s : ByteArray) (w : World) :
    Calls Tryd.prog 56 #[.iface 75 (wrongV s 4), .iface 24 (.int .i64 4)] w fun e w' => e = .returned (.bool true) ∧ Below w.heap.size w w' := by
  have h8 := @run_callFunc_extern Tryd.prog 72 _ ReflectliteType.typeOf Tryd.func72 (by kernel_rfl) (by kernel_rfl) (by kernel_rfl) (by kernel_rfl)
  have h32 := @run_callFunc_extern Tryd.prog 141 _ (ReflectliteType.method cmpRow) Tryd.func141 (by kernel_rfl) (by kernel_rfl) (by kernel_rfl) (by kernel_rfl)
  have tO := typeOfE
  have mC := methodComparable
  have cE := comparableE
  have q1 := eqTypes
  have q2 := eq44
  have a1 := noIsS
  have a2 := hasUnwrapS
  have a3 := methodUnwrapS
  have U := Lib.hid (unwrap_any s 4)
  go_enter Tryd.func56, Tryd.ntmps56
  go_wp2
  refine wp_loop_rounds 2 ?_
  rw [rounds_succ]
  go_wp2_with (go_at_call 134; refine (U.out _).mono ?_; rintro e w1 ⟨rfl, hb⟩)
  rw [rounds_succ]
  go_wp2
  go_ret
  exact ⟨rfl, hb⟩
end Go.Proofs.YtcdmcnncigfclaaDoor
