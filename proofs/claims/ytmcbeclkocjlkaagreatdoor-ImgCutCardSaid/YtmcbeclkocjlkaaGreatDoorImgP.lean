/- The program's img, whole: what ImgPre asks of it. -/
import Derived.Test.YtmcbeclkocjlkaaGreatDoorImgPre
import Derived.Test.YtmcbeclkocjlkaaGreatDoorImgPSame
import Derived.Test.YtmcbeclkocjlkaaGreatDoorImgPEnc
import Derived.Test.YtmcbeclkocjlkaaGreatDoorImgPDec
import Derived.Test.YtmcbeclkocjlkaaGreatDoorImgPChk
namespace Go.Proofs.YtmcbeclkocjlkaaGreatDoor
set_option linter.unusedVariables false
set_option linter.unusedSimpArgs false
open Go Go.RowKit
theorem img_whole : PImgEncode ErrT ∧ PImgDecode ErrT ∧ PImgSame ∧ PImgCheck ErrT := ⟨iEncode, iDecode, iSame, iCheck⟩
end Go.Proofs.YtmcbeclkocjlkaaGreatDoor
