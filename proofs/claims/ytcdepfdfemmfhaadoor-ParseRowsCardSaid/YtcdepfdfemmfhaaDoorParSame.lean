/- hasplaw12.Same, hasplaw14.Same: of the same words, of the same line: true. -/
import Derived.Test.YtcdepfdfemmfhaaDoorParOps
import Derived.Test.YtcdepfdfemmfhaaDoorGBase
namespace Go.Proofs.YtcdepfdfemmfhaaDoor
set_option linter.unusedVariables false
set_option linter.unusedSimpArgs false
open Go.RowKit
end Go.Proofs.YtcdepfdfemmfhaaDoor
