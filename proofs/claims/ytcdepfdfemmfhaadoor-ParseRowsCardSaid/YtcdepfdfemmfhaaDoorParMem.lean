/- The reference's Mem: words, then a register in brackets. -/
import Derived.Test.YtcdepfdfemmfhaaDoorParReg
namespace Go.Proofs.YtcdepfdfemmfhaaDoor
set_option linter.unusedVariables false
set_option linter.unusedSimpArgs false
open Go.RowKit
/-- What Mem answers. -/
def MemV (l : List Tok) (e : Ending) (w' : World) : Prop := match memL l with
  | none => e = .returned (.tuple #[.slice none 0 0, .int .i64 0, .bool false])
  | some (m, r) => ∃ v, e = .returned (.tuple #[v, .int .i64 r, .bool true]) ∧ TokAt w' v m
theorem MemV.no {l : List Tok} {w' : World} (h : memL l = none) : MemV l (.returned (.tuple #[.slice none 0 0, .int .i64 0, .bool false])) w' := by unfold MemV; rw [h]
theorem MemV.yes {l m : List Tok} {r : Nat} {w' : World} {v : Value} (h : memL l = some (m, r)) (hv : TokAt w' v m) : MemV l (.returned (.tuple #[v, .int .i64 r, .bool true])) w' := by unfold MemV; rw [h]; exact ⟨v, rfl, hv⟩
end Go.Proofs.YtcdepfdfemmfhaaDoor
