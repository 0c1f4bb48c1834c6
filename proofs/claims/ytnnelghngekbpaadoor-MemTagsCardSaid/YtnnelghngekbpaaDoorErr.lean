/- errors.Is of one Errno and itself: true; the world stays as it was. -/
import Derived.Test.YtnnelghngekbpaaDoorChecked
import Derived.WalkKit
import Derived.LaidEql
import Derived.Stop.Asserts
import Derived.RowKitTokens
import Derived.Lib.IfaceEq
namespace Go.Proofs.YtnnelghngekbpaaDoor
set_option linter.unusedVariables false
set_option linter.unusedSimpArgs false
open Go.RowKit Go.Extern.Stop Go.Stop Go.Extern

theorem isComp : (Tryd.prog.info? 74).map (·.comparable) = some true := by kernel_rfl
theorem callTypeOf (v : Value) (w : World) : (callFunc 49 #[.iface 74 v]).run Tryd.prog w = .ok (.value (.iface 114 (.agg #[.pointer (some ⟨1, 74, none⟩)]))) w := by kernel_rfl
theorem callComparable (w : World) : (callFunc 82 #[.agg #[.pointer (some ⟨1, 74, none⟩)]]).run Tryd.prog w = .ok (.value (.bool true)) w := by kernel_rfl
theorem isMethodComparable (d : Nat) (v : Value) (w : World) : (Go.method (d + 1) 114 v "Comparable").run Tryd.prog w = .ok (82, v) w := by kernel_rfl

theorem is_same (n : Int) (w : World) :
    Calls Tryd.prog 32 #[.iface 74 (.int .i64 n), .iface 74 (.int .i64 n)] w fun e w' => e = .returned (.bool true) ∧ w = w' := by
  have h8 := callTypeOf
  have h32 := callComparable
  have mR := isMethodComparable
  have heq := Lib.run_eql_iface_int (P := Tryd.prog) (k := .i64) w n n Tryd.underlying26 isComp Tryd.underlying74
  go_enter Tryd.func32, Tryd.ntmps32
  go_wp2
  refine wp_loop_rounds 1 ?_
  rw [rounds_succ]
  go_wp2
  go_ret
  exact ⟨rfl, rfl⟩
end Go.Proofs.YtnnelghngekbpaaDoor
