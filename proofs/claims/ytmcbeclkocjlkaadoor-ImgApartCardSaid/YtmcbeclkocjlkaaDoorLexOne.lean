/- The reference's bytes: letter, digit, hex. -/
import Derived.Test.YtmcbeclkocjlkaaDoorGPlainO
import Derived.Test.YtmcbeclkocjlkaaDoorChecked
import Derived.WalkKit
import Derived.Lib.Hide
namespace Go.Proofs.YtmcbeclkocjlkaaDoor
set_option linter.unusedVariables false
set_option linter.unusedSimpArgs false
open Go.RowKit
theorem lxLetter_iff (c : Int) : lxLetter c = true ↔ (97 ≤ c ∧ c ≤ 122) ∨ (65 ≤ c ∧ c ≤ 90) ∨ c = 95 := by simp [lxLetter, or_assoc]
theorem lxDigit_iff (c : Int) : lxDigit c = true ↔ 48 ≤ c ∧ c ≤ 57 := by simp [lxDigit]
end Go.Proofs.YtmcbeclkocjlkaaDoor
