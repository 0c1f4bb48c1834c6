/- The reference's Lex: all words of a text. -/
import Derived.Test.YtcdepfdfemmfhaaDoorLexOg
import Derived.Test.YtcdepfdfemmfhaaDoorGBase
import Derived.Test.YtcdepfdfemmfhaaDoorApp
namespace Go.Proofs.YtcdepfdfemmfhaaDoor
set_option linter.unusedVariables false
set_option linter.unusedSimpArgs false
open Go.RowKit
theorem tokRow_one (t : Tok) : ∀ u ∈ tokRow t, u.oneCell' = true := by
  intro u hu
  simp only [tokRow, List.mem_cons, List.not_mem_nil, or_false] at hu
  rcases hu with rfl | rfl | rfl | rfl <;> rfl
def colS : ByteArray := ⟨#[99, 111, 108]⟩
/-- How far it is. -/
def LexAt (s : ByteArray) (k : Nat) (ts : List Tok) : Prop := lexL s.data.toList 0 = lexApp ts (lexL (s.data.toList.drop k) k)
end Go.Proofs.YtcdepfdfemmfhaaDoor
