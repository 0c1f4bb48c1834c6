/- The reference's ParseLine: a line; by gen/par2.py. -/
import Derived.Test.YtcdepfdfemmfhaaDoorParOps
import Derived.Test.YtcdepfdfemmfhaaDoorRetBox
namespace Go.Proofs.YtcdepfdfemmfhaaDoor
set_option linter.unusedVariables false
set_option linter.unusedSimpArgs false
open Go.RowKit
def tokS : ByteArray := ⟨#[116, 111, 107, 101, 110]⟩
def zeroP : Value := .agg #[.string noB, .string noB, .bool false, .slice none 0 0]
theorem calls_past {P : Program} {f : FuncId} {args : Array Value} {R : Ending → World → Prop} {w w1 W : World} {b c d : Nat} {vs us ts : Array Value} (hB : Box W b vs) (hC : Box W c us) (hD : Box W d ts) (hK : Keep w W) (hK1 : Keep w1 W)
    (h : ∀ W', Box W' b vs → Box W' c us → Box W' d ts → Keep w W' → Keep w1 W' → Calls P f args W' R) : Calls P f args W R := h W hB hC hD hK hK1
end Go.Proofs.YtcdepfdfemmfhaaDoor
