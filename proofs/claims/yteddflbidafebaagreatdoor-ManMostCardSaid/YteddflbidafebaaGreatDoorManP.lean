/- The program's man, whole. -/
import Derived.Test.YteddflbidafebaaGreatDoorManPre
import Derived.Test.YteddflbidafebaaGreatDoorManPPm
import Derived.Test.YteddflbidafebaaGreatDoorManPTxt
namespace Go.Proofs.YteddflbidafebaaGreatDoor
set_option linter.unusedVariables false
set_option linter.unusedSimpArgs false
open Go.RowKit
theorem mText : PManText := fun m vc vi vs vg w h hm hw hT hc hs => mtext_any m vc vi vs vg w h hm hw hT hc hs
end Go.Proofs.YteddflbidafebaaGreatDoor
