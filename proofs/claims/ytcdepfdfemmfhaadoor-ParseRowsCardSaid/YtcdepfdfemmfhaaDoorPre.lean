/- What is laid ahead of a call: errors.errorType, strconv.ErrRange. -/
import Derived.Test.YtcdepfdfemmfhaaDoorGTell
import Derived.Test.YtcdepfdfemmfhaaDoorLexIs
namespace Go.Proofs.YtcdepfdfemmfhaaDoor
set_option linter.unusedVariables false
set_option linter.unusedSimpArgs false
open Go.RowKit
/-- What is laid ahead of a call. -/
def Pre (w : World) : Prop := ErrT w ∧ ∃ b, ErrG w b
theorem Pre.keep {w w' : World} (h : Pre w) (k : Keep w w') : Pre w' := ⟨h.1.keep k, h.2.elim fun b hb => ⟨b, hb.keep k⟩⟩
theorem Pre.errT {w : World} (h : Pre w) : ErrT w := h.1
end Go.Proofs.YtcdepfdfemmfhaaDoor
