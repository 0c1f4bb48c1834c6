/- The program's obj, whole: what ObjPre asks of it. -/
import Derived.Test.YtahnbeoacdnhjaaDoorObjPre
import Derived.Test.YtahnbeoacdnhjaaDoorGObjPA
import Derived.Test.YtahnbeoacdnhjaaDoorGObjPD
namespace Go.Proofs.YtahnbeoacdnhjaaDoor
set_option linter.unusedVariables false
set_option linter.unusedSimpArgs false
open Go.RowKit
theorem obj_whole : PObjEncode ErrT ∧ PObjDecode ErrT ∧ PObjFind ∧ PObjSame ∧ PObjCheck ErrT ∧ PObjName := ⟨oEncode, oDecode, oFind, oSame, oCheck, oName⟩
end Go.Proofs.YtahnbeoacdnhjaaDoor
