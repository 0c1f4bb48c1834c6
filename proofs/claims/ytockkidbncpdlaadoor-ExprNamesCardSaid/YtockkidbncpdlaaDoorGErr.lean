/- Err, Is: errors.Is of one Errno and itself: true; the world stays as it was. -/
import Derived.Test.YtockkidbncpdlaaDoorChecked
import Derived.WalkKit
import Derived.LaidEql
import Derived.Stop.Asserts
import Derived.RowKitTokens
import Derived.Lib.IfaceEq
import Derived.Test.YtockkidbncpdlaaDoorGBase
/- errors.Is of one Errno and itself: true; the world stays as it was. -/
namespace Go.Proofs.YtockkidbncpdlaaDoor
set_option linter.unusedVariables false
set_option linter.unusedSimpArgs false
open Go.RowKit Go.Extern.Stop Go.Stop Go.Extern

theorem isComp : (Tryd.prog.info? 62).map (·.comparable) = some true := by kernel_rfl
theorem callTypeOf (v : Value) (w : World) : (callFunc 36 #[.iface 62 v]).run Tryd.prog w = .ok (.value (.iface 96 (.agg #[.pointer (some ⟨6, 62, none⟩)]))) w := by kernel_rfl
theorem callComparable (w : World) : (callFunc 100 #[.agg #[.pointer (some ⟨6, 62, none⟩)]]).run Tryd.prog w = .ok (.value (.bool true)) w := by kernel_rfl
theorem isMethodComparable (d : Nat) (v : Value) (w : World) : (Go.method (d + 1) 96 v "Comparable").run Tryd.prog w = .ok (100, v) w := by kernel_rfl

theorem is_same (n : Int) (w : World) :
    Calls Tryd.prog 17 #[.iface 62 (.int .i64 n), .iface 62 (.int .i64 n)] w fun e w' => e = .returned (.bool true) ∧ w = w' := by
  have h8 := callTypeOf
  have h32 := callComparable
  have mR := isMethodComparable
  have heq := Lib.run_eql_iface_int (P := Tryd.prog) (k := .i64) w n n Tryd.underlying32 isComp Tryd.underlying62
  go_enter Tryd.func17, Tryd.ntmps17
  go_wp2
  refine wp_loop_rounds 1 ?_
  rw [rounds_succ]
  go_wp2
  go_ret
  exact ⟨rfl, rfl⟩
end Go.Proofs.YtockkidbncpdlaaDoor

/- errors.Is of a *api.Fault that wraps an Errno, and that Errno: true. -/
namespace Go.Proofs.YtockkidbncpdlaaDoor
set_option linter.unusedVariables false
set_option linter.unusedSimpArgs false
open Go.RowKit Go.Extern.Stop Go.Stop Go.Extern

theorem noIsFault (v : Value) (xT : TypeId) (w : World) : (Instr.typeAssert (.iface 50 v) xT 108 true).run Tryd.prog w = .ok (.tuple #[.nilIface, .bool false]) w := run_typeAssert_lacksB Tryd.underlying108 (by kernel_rfl) (by kernel_rfl) v xT w
theorem hasUnwrapFault (v : Value) (xT : TypeId) (w : World) : (Instr.typeAssert (.iface 50 v) xT 103 true).run Tryd.prog w = .ok (.tuple #[.iface 50 v, .bool true]) w := run_typeAssert_hasB Tryd.underlying103 (by kernel_rfl) v xT w
theorem methodUnwrapFault (d : Nat) (v : Value) (w : World) : (Go.method (d + 1) 50 v "Unwrap").run Tryd.prog w = .ok (93, v) w := by kernel_rfl
theorem faultNotErrno (v u : Value) (w : World) : (binOp .eql 32 (.iface 50 v) (.iface 62 u)).run Tryd.prog w = .ok (.bool false) w := run_eql_iface_types 50 62 v u Tryd.underlying32 (by decide) w
set_option maxHeartbeats 2000000 in
theorem is_wrapped (q : Nat) (part : ByteArray) (at_ n : Int) (w : World) (hB : Box w q #[.string part, .int .i64 at_, .iface 62 (.int .i64 n)]) :
    Calls Tryd.prog 17 #[.iface 50 (.pointer (some ⟨q, 0, none⟩)), .iface 62 (.int .i64 n)] w fun e w' => e = .returned (.bool true) ∧ Keep w w' := by
  have c0 := hB.cells
  have h8 := callTypeOf
  have h32 := callComparable
  have mR := isMethodComparable
  have heq := fun W => Lib.run_eql_iface_int (P := Tryd.prog) (k := .i64) W n n Tryd.underlying32 isComp Tryd.underlying62
  have nI := noIsFault
  have hU := hasUnwrapFault
  have mU := methodUnwrapFault
  have nE := faultNotErrno
  go_enter Tryd.func17, Tryd.ntmps17
  go_wp2
  refine wp_loop_rounds 2 ?_
  rw [rounds_succ]
  go_wp2
  rw [rounds_succ]
  go_wp2
  go_ret
  refine ⟨rfl, ?_⟩
  repeat (first | exact Keep.refl _ | with_reducible refine Keep.alloc ?_ _ | with_reducible refine Keep.drew ?_ | with_reducible refine Keep.setCell ?_ (by simp) _)
end Go.Proofs.YtockkidbncpdlaaDoor
