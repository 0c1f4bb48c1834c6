/- The end of a body whose results lie in blocks: told by what the blocks hold, the world itself let go of. -/
import Derived.Test.YtcdepfdfemmfhaaDoorGBase
namespace Go.Proofs.YtcdepfdfemmfhaaDoor
set_option linter.unusedVariables false
set_option linter.unusedSimpArgs false
open Go Go.RowKit
theorem Box.past {W : World} {b P i : Nat} {vs : Array Value} (hb : b ≠ P) (v : Value) (h : Box W b vs) : Box (W.setCell ⟨P, i, none⟩ v) b vs := h.other hb v
theorem Box.conv {W : World} {b : Nat} {vs vs' : Array Value} (h : Box W b vs) (e : vs = vs') : Box W b vs' := e ▸ h
theorem ret_box {P : Program} {fn : Func} {R : Ending → World → Prop} {a : Act} {w W : World} {b : Nat} {vs : Array Value} (hB : Box W b vs) (hK : Keep w W) (h : ∀ W', Box W' b vs → Keep w W' → bodyPost P fn R .ret a W') : bodyPost P fn R .ret a W := h W hB hK
theorem ret_box2 {P : Program} {fn : Func} {R : Ending → World → Prop} {a : Act} {w W : World} {b c : Nat} {vs us : Array Value} (hB : Box W b vs) (hC : Box W c us) (hK : Keep w W) (h : ∀ W', Box W' b vs → Box W' c us → Keep w W' → bodyPost P fn R .ret a W') : bodyPost P fn R .ret a W := h W hB hC hK
end Go.Proofs.YtcdepfdfemmfhaaDoor
