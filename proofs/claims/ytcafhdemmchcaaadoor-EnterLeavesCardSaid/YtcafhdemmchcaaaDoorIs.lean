/- errors.Is of config's error against a number: it is what it wraps, or not. told, of no error and of one. -/
import Derived.Test.YtcafhdemmchcaaaDoorAs2
import Derived.Lib.Hide
namespace Go.Proofs.YtcafhdemmchcaaaDoor
set_option linter.unusedVariables false
open Go.RowKit Go.Extern.Stop Go.Stop Go.Extern

theorem noIsS (v : Value) (xT : TypeId) (w : World) : (Instr.typeAssert (.iface 86 v) xT 122 true).run Tryd.prog w = .ok (.tuple #[.nilIface, .bool false]) w := run_typeAssert_lacksB Tryd.underlying122 (by kernel_rfl) (by kernel_rfl) v xT w
theorem hasUnwrapS (v : Value) (xT : TypeId) (w : World) : (Instr.typeAssert (.iface 86 v) xT 117 true).run Tryd.prog w = .ok (.tuple #[.iface 86 v, .bool true]) w := run_typeAssert_hasB Tryd.underlying117 (by kernel_rfl) v xT w
theorem methodUnwrapS (v : Value) (w : World) : (Go.method 254 86 v "Unwrap").run Tryd.prog w = .ok (85, v) w := by kernel_rfl
theorem noIsE (v : Value) (xT : TypeId) (w : World) : (Instr.typeAssert (.iface 69 v) xT 122 true).run Tryd.prog w = .ok (.tuple #[.nilIface, .bool false]) w := run_typeAssert_lacksB Tryd.underlying122 (by kernel_rfl) (by kernel_rfl) v xT w
theorem noUnwrapE (v : Value) (xT : TypeId) (w : World) : (Instr.typeAssert (.iface 69 v) xT 117 true).run Tryd.prog w = .ok (.tuple #[.nilIface, .bool false]) w := run_typeAssert_lacksB Tryd.underlying117 (by kernel_rfl) (by kernel_rfl) v xT w
theorem noUnwrapsE (v : Value) (xT : TypeId) (w : World) : (Instr.typeAssert (.iface 69 v) xT 119 true).run Tryd.prog w = .ok (.tuple #[.nilIface, .bool false]) w := run_typeAssert_lacksB Tryd.underlying119 (by kernel_rfl) (by kernel_rfl) v xT w
theorem eqTypes (v : Value) (k : Int) (w : World) : (binOp .eql 79 (.iface 86 v) (.iface 69 (.int .i64 k))).run Tryd.prog w = .ok (.bool false) w := run_eql_iface_types _ _ _ _ Tryd.underlying79 (by decide) w
theorem eq94 (w : World) : (binOp .eql 79 (.iface 69 (.int .i64 9)) (.iface 69 (.int .i64 4))).run Tryd.prog w = .ok (.bool false) w := by kernel_rfl
theorem eq44 (w : World) : (binOp .eql 79 (.iface 69 (.int .i64 4)) (.iface 69 (.int .i64 4))).run Tryd.prog w = .ok (.bool true) w := by kernel_rfl
def cmpRow (t : TypeId) : Sem Value := do Rtype.noPackHeld "Comparable" t; pure (.bool (← typeInfo t).comparable)
theorem comparableE (w : World) : (ReflectliteType.method cmpRow #[.agg #[.pointer (some ⟨2, 69, none⟩)]]).run Tryd.prog w = .ok (.bool true) w := by kernel_rfl
theorem unwrap_any (s : ByteArray) (k : Int) (w : World) : Calls Tryd.prog 85 #[wrongV s k] w fun e w' => e = .returned (.iface 69 (.int .i64 k)) ∧ Below w.heap.size w w' := by
  go_enter Tryd.func85, Tryd.ntmps85
  go_wp2
  go_ret
  exact ⟨rfl, (Below.refl _ _).alloc (Nat.le_refl _) _⟩

set_option maxHeartbeats 4000000 in
theorem is_94 (s : ByteArray) (w : World) :
    Calls Tryd.prog 56 #[.iface 86 (wrongV s 9), .iface 69 (.int .i64 4)] w fun e w' => e = .returned (.bool false) ∧ Below w.heap.size w w' := by
  have h8 := @run_callFunc_extern Tryd.prog 62 _ ReflectliteType.typeOf Tryd.func62 (by kernel_rfl) (by kernel_rfl) (by kernel_rfl) (by kernel_rfl)
  have h32 := @run_callFunc_extern Tryd.prog 91 _ (ReflectliteType.method cmpRow) Tryd.func91 (by kernel_rfl) (by kernel_rfl) (by kernel_rfl) (by kernel_rfl)
  have tO := typeOfE
  have mC := methodComparable
  have cE := comparableE
  have q1 := eqTypes
  have q2 := eq94
  have a1 := noIsS
  have a2 := hasUnwrapS
  have a3 := methodUnwrapS
  have a4 := noIsE
  have a5 := noUnwrapE
  have a6 := noUnwrapsE
  have U := Lib.hid (unwrap_any s 9)
  go_enter Tryd.func56, Tryd.ntmps56
  go_wp2
  refine wp_loop_rounds 2 ?_
  rw [rounds_succ]
  go_wp2_with (go_at_call 85; refine (U.out _).mono ?_; rintro e w1 ⟨rfl, hb⟩)
  rw [rounds_succ]
  go_wp2
  go_ret
  exact ⟨rfl, hb⟩
set_option maxHeartbeats 4000000 in
theorem is_44 (s : ByteArray) (w : World) :
    Calls Tryd.prog 56 #[.iface 86 (wrongV s 4), .iface 69 (.int .i64 4)] w fun e w' => e = .returned (.bool true) ∧ Below w.heap.size w w' := by
  have h8 := @run_callFunc_extern Tryd.prog 62 _ ReflectliteType.typeOf Tryd.func62 (by kernel_rfl) (by kernel_rfl) (by kernel_rfl) (by kernel_rfl)
  have h32 := @run_callFunc_extern Tryd.prog 91 _ (ReflectliteType.method cmpRow) Tryd.func91 (by kernel_rfl) (by kernel_rfl) (by kernel_rfl) (by kernel_rfl)
  have tO := typeOfE
  have mC := methodComparable
  have cE := comparableE
  have q1 := eqTypes
  have q2 := eq44
  have a1 := noIsS
  have a2 := hasUnwrapS
  have a3 := methodUnwrapS
  have U := Lib.hid (unwrap_any s 4)
  go_enter Tryd.func56, Tryd.ntmps56
  go_wp2
  refine wp_loop_rounds 2 ?_
  rw [rounds_succ]
  go_wp2_with (go_at_call 85; refine (U.out _).mono ?_; rintro e w1 ⟨rfl, hb⟩)
  rw [rounds_succ]
  go_wp2
  go_ret
  exact ⟨rfl, hb⟩
end Go.Proofs.YtcafhdemmchcaaaDoor
