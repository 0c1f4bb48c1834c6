/- The reference's is: is a word that sign? -/
import Derived.Test.YtcdepfdfemmfhaaDoorParTab
import Derived.Test.YtcdepfdfemmfhaaDoorChecked
import Derived.WalkKit
import Derived.Lib.Hide
namespace Go.Proofs.YtcdepfdfemmfhaaDoor
set_option linter.unusedVariables false
set_option linter.unusedSimpArgs false
open Go.RowKit
theorem strEq (a b : ByteArray) : (a.toList == b.toList) = decide (a = b) := by
  rw [ByteArray.toList_eq, ByteArray.toList_eq]
  by_cases h : a = b
  · subst h; simp
  · have : a.data.toList ≠ b.data.toList := fun e => h (ByteArray.ext (Array.ext' e))
    rw [decide_eq_false h, beq_eq_false_iff_ne.2 this]
end Go.Proofs.YtcdepfdfemmfhaaDoor
