/- What the program's img.Same is to answer. -/
import Derived.Test.YtbmjnfnekmeegaaGreatDoorImgAt
import Derived.Test.YtbmjnfnekmeegaaGreatDoorGPlainI
namespace Go.Proofs.YtbmjnfnekmeegaaGreatDoor
set_option linter.unusedVariables false
set_option linter.unusedSimpArgs false
open Go Go.RowKit
def PImgSame : Prop := ∀ (i j : ImgV) (vp vs vi vb up us ui ub : Value) (ves ues : List Value) (w : World), ImgAt w i vp vs vi vb ves → ImgAt w j up us ui ub ues → ImgNum i → ImgNum j → ImgMid i → ImgMid j →
  Calls Tryz.prog 17 #[imgVal i vp vs vi vb, imgVal j up us ui ub] w fun e w' => ∃ b, e = .returned (.bool b) ∧ (b = true ↔ i = j) ∧ Keep w w'
end Go.Proofs.YtbmjnfnekmeegaaGreatDoor
