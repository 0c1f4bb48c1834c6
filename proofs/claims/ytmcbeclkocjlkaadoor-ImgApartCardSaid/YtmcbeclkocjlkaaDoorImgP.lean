/- The program's img, whole: what ImgPre asks of it. -/
import Derived.Test.YtmcbeclkocjlkaaDoorImgPre
import Derived.Test.YtmcbeclkocjlkaaDoorImgPSame
import Derived.Test.YtmcbeclkocjlkaaDoorImgPEnc
import Derived.Test.YtmcbeclkocjlkaaDoorImgPDec
import Derived.Test.YtmcbeclkocjlkaaDoorImgPChk
namespace Go.Proofs.YtmcbeclkocjlkaaDoor
set_option linter.unusedVariables false
set_option linter.unusedSimpArgs false
open Go Go.RowKit
theorem img_whole : PImgEncode ErrT ∧ PImgDecode ErrT ∧ PImgSame ∧ PImgCheck ErrT := ⟨iEncode, iDecode, iSame, iCheck⟩
end Go.Proofs.YtmcbeclkocjlkaaDoor
