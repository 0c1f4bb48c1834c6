/- Err, Is: errors.Is of one Errno and itself: true; the world stays as it was. -/
import Derived.Test.YtmcbeclkocjlkaaDoorChecked
import Derived.WalkKit
import Derived.LaidEql
import Derived.Stop.Asserts
import Derived.RowKitTokens
import Derived.Lib.IfaceEq
import Derived.Test.YtmcbeclkocjlkaaDoorGBase
/- errors.Is of one Errno and itself: true; the world stays as it was. -/
namespace Go.Proofs.YtmcbeclkocjlkaaDoor
set_option linter.unusedVariables false
set_option linter.unusedSimpArgs false
open Go.RowKit Go.Extern.Stop Go.Stop Go.Extern

theorem isComp : (Tryd.prog.info? 68).map (·.comparable) = some true := by kernel_rfl
theorem callTypeOf (v : Value) (w : World) : (callFunc 55 #[.iface 68 v]).run Tryd.prog w = .ok (.value (.iface 112 (.agg #[.pointer (some ⟨1, 68, none⟩)]))) w := by kernel_rfl
theorem callComparable (w : World) : (callFunc 106 #[.agg #[.pointer (some ⟨1, 68, none⟩)]]).run Tryd.prog w = .ok (.value (.bool true)) w := by kernel_rfl
theorem isMethodComparable (d : Nat) (v : Value) (w : World) : (Go.method (d + 1) 112 v "Comparable").run Tryd.prog w = .ok (106, v) w := by kernel_rfl

theorem is_same (n : Int) (w : World) :
    Calls Tryd.prog 30 #[.iface 68 (.int .i64 n), .iface 68 (.int .i64 n)] w fun e w' => e = .returned (.bool true) ∧ w = w' := by
  have h8 := callTypeOf
  have h32 := callComparable
  have mR := isMethodComparable
  have heq := Lib.run_eql_iface_int (P := Tryd.prog) (k := .i64) w n n Tryd.underlying33 isComp Tryd.underlying68
  go_enter Tryd.func30, Tryd.ntmps30
  go_wp2
  refine wp_loop_rounds 1 ?_
  rw [rounds_succ]
  go_wp2
  go_ret
  exact ⟨rfl, rfl⟩
end Go.Proofs.YtmcbeclkocjlkaaDoor

/- errors.Is of a *api.Fault that wraps an Errno, and that Errno: true. -/
namespace Go.Proofs.YtmcbeclkocjlkaaDoor
set_option linter.unusedVariables false
set_option linter.unusedSimpArgs false
open Go.RowKit Go.Extern.Stop Go.Stop Go.Extern

theorem noIsFault (v : Value) (xT : TypeId) (w : World) : (Instr.typeAssert (.iface 52 v) xT 127 true).run Tryd.prog w = .ok (.tuple #[.nilIface, .bool false]) w := run_typeAssert_lacksB Tryd.underlying127 (by kernel_rfl) (by kernel_rfl) v xT w
theorem hasUnwrapFault (v : Value) (xT : TypeId) (w : World) : (Instr.typeAssert (.iface 52 v) xT 119 true).run Tryd.prog w = .ok (.tuple #[.iface 52 v, .bool true]) w := run_typeAssert_hasB Tryd.underlying119 (by kernel_rfl) v xT w
theorem methodUnwrapFault (d : Nat) (v : Value) (w : World) : (Go.method (d + 1) 52 v "Unwrap").run Tryd.prog w = .ok (99, v) w := by kernel_rfl
theorem faultNotErrno (v u : Value) (w : World) : (binOp .eql 33 (.iface 52 v) (.iface 68 u)).run Tryd.prog w = .ok (.bool false) w := run_eql_iface_types 52 68 v u Tryd.underlying33 (by decide) w
set_option maxHeartbeats 2000000 in
theorem is_wrapped (q : Nat) (part : ByteArray) (at_ n : Int) (w : World) (hB : Box w q #[.string part, .int .i64 at_, .iface 68 (.int .i64 n)]) :
    Calls Tryd.prog 30 #[.iface 52 (.pointer (some ⟨q, 0, none⟩)), .iface 68 (.int .i64 n)] w fun e w' => e = .returned (.bool true) ∧ Keep w w' := by
  have c0 := hB.cells
  have h8 := callTypeOf
  have h32 := callComparable
  have mR := isMethodComparable
  have heq := fun W => Lib.run_eql_iface_int (P := Tryd.prog) (k := .i64) W n n Tryd.underlying33 isComp Tryd.underlying68
  have nI := noIsFault
  have hU := hasUnwrapFault
  have mU := methodUnwrapFault
  have nE := faultNotErrno
  go_enter Tryd.func30, Tryd.ntmps30
  go_wp2
  refine wp_loop_rounds 2 ?_
  rw [rounds_succ]
  go_wp2
  rw [rounds_succ]
  go_wp2
  go_ret
  refine ⟨rfl, ?_⟩
  repeat (first | exact Keep.refl _ | with_reducible refine Keep.alloc ?_ _ | with_reducible refine Keep.drew ?_ | with_reducible refine Keep.setCell ?_ (by simp) _)
end Go.Proofs.YtmcbeclkocjlkaaDoor
