/- errors.Is of a *api.Fault that wraps an Errno, and that Errno: true. -/
import Derived.Test.YtnnelghngekbpaaDoorErr
import Derived.Test.YtnnelghngekbpaaDoorCapDef
namespace Go.Proofs.YtnnelghngekbpaaDoor
set_option linter.unusedVariables false
set_option linter.unusedSimpArgs false
open Go.RowKit Go.Extern.Stop Go.Stop Go.Extern

theorem noIsFault (v : Value) (xT : TypeId) (w : World) : (Instr.typeAssert (.iface 77 v) xT 125 true).run Tryd.prog w = .ok (.tuple #[.nilIface, .bool false]) w := run_typeAssert_lacksB Tryd.underlying125 (by kernel_rfl) (by kernel_rfl) v xT w
theorem hasUnwrapFault (v : Value) (xT : TypeId) (w : World) : (Instr.typeAssert (.iface 77 v) xT 121 true).run Tryd.prog w = .ok (.tuple #[.iface 77 v, .bool true]) w := run_typeAssert_hasB Tryd.underlying121 (by kernel_rfl) v xT w
theorem methodUnwrapFault (d : Nat) (v : Value) (w : World) : (Go.method (d + 1) 77 v "Unwrap").run Tryd.prog w = .ok (76, v) w := by kernel_rfl
theorem faultNotErrno (v u : Value) (w : World) : (binOp .eql 26 (.iface 77 v) (.iface 74 u)).run Tryd.prog w = .ok (.bool false) w := run_eql_iface_types 77 74 v u Tryd.underlying26 (by decide) w
set_option maxHeartbeats 2000000 in
theorem is_wrapped (q : Nat) (part : ByteArray) (at_ n : Int) (w : World) (hB : Box w q #[.string part, .int .i64 at_, .iface 74 (.int .i64 n)]) :
    Calls Tryd.prog 32 #[.iface 77 (.pointer (some ⟨q, 0, none⟩)), .iface 74 (.int .i64 n)] w fun e w' => e = .returned (.bool true) ∧ Keep w w' := by
  have c0 := hB.cells
  have h8 := callTypeOf
  have h32 := callComparable
  have mR := isMethodComparable
  have heq := fun W => Lib.run_eql_iface_int (P := Tryd.prog) (k := .i64) W n n Tryd.underlying26 isComp Tryd.underlying74
  have nI := noIsFault
  have hU := hasUnwrapFault
  have mU := methodUnwrapFault
  have nE := faultNotErrno
  go_enter Tryd.func32, Tryd.ntmps32
  go_wp2
  refine wp_loop_rounds 2 ?_
  rw [rounds_succ]
  go_wp2
  rw [rounds_succ]
  go_wp2
  go_ret
  refine ⟨rfl, ?_⟩
  repeat (first | exact Keep.refl _ | with_reducible refine Keep.alloc ?_ _ | with_reducible refine Keep.drew ?_ | with_reducible refine Keep.setCell ?_ (by simp) _)
end Go.Proofs.YtnnelghngekbpaaDoor
