/- What the program's img.Check is to answer. Pre: what is laid ahead of a call. -/
import Derived.Test.YtmcbeclkocjlkaaDoorImgAt
import Derived.Test.YtmcbeclkocjlkaaDoorGPlainI
import Derived.Test.YtmcbeclkocjlkaaDoorObjNz
namespace Go.Proofs.YtmcbeclkocjlkaaDoor
set_option linter.unusedVariables false
set_option linter.unusedSimpArgs false
open Go Go.RowKit
def PImgCheck (Pre : World → Prop) : Prop := ∀ (i : ImgV) (vp vs vi vb : Value) (ves : List Value) (w : World), ImgAt w i vp vs vi vb ves → ImgNum i → ImgMid i → Pre w →
  Calls Tryd.prog 6 #[imgVal i vp vs vi vb] w fun e w' => Keep w w' ∧ ∃ u, e = .returned u ∧ OErr w' u (imgW i)
end Go.Proofs.YtmcbeclkocjlkaaDoor
