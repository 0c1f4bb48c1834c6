/- Err, Is: errors.Is of one Errno and itself: true; the world stays as it was. -/
import Derived.Test.YtbmjnfnekmeegaaGreatDoorChecked
import Derived.WalkKit
import Derived.LaidEql
import Derived.Stop.Asserts
import Derived.RowKitTokens
import Derived.Lib.IfaceEq
import Derived.Test.YtbmjnfnekmeegaaGreatDoorGBase
/- errors.Is of one Errno and itself: true; the world stays as it was. -/
namespace Go.Proofs.YtbmjnfnekmeegaaGreatDoor
set_option linter.unusedVariables false
set_option linter.unusedSimpArgs false
open Go.RowKit Go.Extern.Stop Go.Stop Go.Extern

theorem isComp : (Tryz.prog.info? 139).map (·.comparable) = some true := by kernel_rfl
theorem callTypeOf (v : Value) (w : World) : (callFunc 104 #[.iface 139 v]).run Tryz.prog w = .ok (.value (.iface 201 (.agg #[.pointer (some ⟨1, 139, none⟩)]))) w := by kernel_rfl
theorem callComparable (w : World) : (callFunc 231 #[.agg #[.pointer (some ⟨1, 139, none⟩)]]).run Tryz.prog w = .ok (.value (.bool true)) w := by kernel_rfl
theorem isMethodComparable (d : Nat) (v : Value) (w : World) : (Go.method (d + 1) 201 v "Comparable").run Tryz.prog w = .ok (231, v) w := by kernel_rfl

theorem is_same (n : Int) (w : World) :
    Calls Tryz.prog 55 #[.iface 139 (.int .i64 n), .iface 139 (.int .i64 n)] w fun e w' => e = .returned (.bool true) ∧ w = w' := by
  have h8 := callTypeOf
  have h32 := callComparable
  have mR := isMethodComparable
  have heq := Lib.run_eql_iface_int (P := Tryz.prog) (k := .i64) w n n Tryz.underlying42 isComp Tryz.underlying139
  go_enter Tryz.func55, Tryz.ntmps55
  go_wp2
  refine wp_loop_rounds 1 ?_
  rw [rounds_succ]
  go_wp2
  go_ret
  exact ⟨rfl, rfl⟩
end Go.Proofs.YtbmjnfnekmeegaaGreatDoor

/- errors.Is of a *api.Fault that wraps an Errno, and that Errno: true. -/
namespace Go.Proofs.YtbmjnfnekmeegaaGreatDoor
set_option linter.unusedVariables false
set_option linter.unusedSimpArgs false
open Go.RowKit Go.Extern.Stop Go.Stop Go.Extern

theorem noIsFault (v : Value) (xT : TypeId) (w : World) : (Instr.typeAssert (.iface 98 v) xT 225 true).run Tryz.prog w = .ok (.tuple #[.nilIface, .bool false]) w := run_typeAssert_lacksB Tryz.underlying225 (by kernel_rfl) (by kernel_rfl) v xT w
theorem hasUnwrapFault (v : Value) (xT : TypeId) (w : World) : (Instr.typeAssert (.iface 98 v) xT 208 true).run Tryz.prog w = .ok (.tuple #[.iface 98 v, .bool true]) w := run_typeAssert_hasB Tryz.underlying208 (by kernel_rfl) v xT w
theorem methodUnwrapFault (d : Nat) (v : Value) (w : World) : (Go.method (d + 1) 98 v "Unwrap").run Tryz.prog w = .ok (224, v) w := by kernel_rfl
theorem faultNotErrno (v u : Value) (w : World) : (binOp .eql 42 (.iface 98 v) (.iface 139 u)).run Tryz.prog w = .ok (.bool false) w := run_eql_iface_types 98 139 v u Tryz.underlying42 (by decide) w
set_option maxHeartbeats 2000000 in
theorem is_wrapped (q : Nat) (part : ByteArray) (at_ n : Int) (w : World) (hB : Box w q #[.string part, .int .i64 at_, .iface 139 (.int .i64 n)]) :
    Calls Tryz.prog 55 #[.iface 98 (.pointer (some ⟨q, 0, none⟩)), .iface 139 (.int .i64 n)] w fun e w' => e = .returned (.bool true) ∧ Keep w w' := by
  have c0 := hB.cells
  have h8 := callTypeOf
  have h32 := callComparable
  have mR := isMethodComparable
  have heq := fun W => Lib.run_eql_iface_int (P := Tryz.prog) (k := .i64) W n n Tryz.underlying42 isComp Tryz.underlying139
  have nI := noIsFault
  have hU := hasUnwrapFault
  have mU := methodUnwrapFault
  have nE := faultNotErrno
  go_enter Tryz.func55, Tryz.ntmps55
  go_wp2
  refine wp_loop_rounds 2 ?_
  rw [rounds_succ]
  go_wp2
  rw [rounds_succ]
  go_wp2
  go_ret
  refine ⟨rfl, ?_⟩
  repeat (first | exact Keep.refl _ | with_reducible refine Keep.alloc ?_ _ | with_reducible refine Keep.drew ?_ | with_reducible refine Keep.setCell ?_ (by simp) _)
end Go.Proofs.YtbmjnfnekmeegaaGreatDoor
