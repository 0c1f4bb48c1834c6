/- hasplaw14.Same: of the same line: true. -/
import Derived.Test.YtcdepfdfemmfhaaDoorParSame
namespace Go.Proofs.YtcdepfdfemmfhaaDoor
set_option linter.unusedVariables false
set_option linter.unusedSimpArgs false
open Go.RowKit
/-- A row of rows of words lies where a slice says. -/
def ArgsAt (w : World) (v : Value) (args : List (List Tok)) : Prop := ∃ p cap, v = .slice p args.length cap ∧ args.length ≤ cap ∧ (args = [] ∨ ∃ b off, p = some ⟨b, off, none⟩ ∧ b < w.heap.size ∧ ∀ (i : Nat) (l : List Tok), args[i]? = some l → ∃ sv, w.cell? ⟨b, off + i, none⟩ = some sv ∧ TokAt w sv l)
theorem ArgsAt.keep {w w' : World} {v : Value} {args : List (List Tok)} (h : ArgsAt w v args) (k : Keep w w') : ArgsAt w' v args := by
  obtain ⟨p, cap, h1, h2, h3⟩ := h
  refine ⟨p, cap, h1, h2, ?_⟩
  rcases h3 with h | ⟨b, off, h4, h5, h6⟩
  · exact .inl h
  · refine .inr ⟨b, off, h4, Nat.lt_of_lt_of_le h5 k.size, fun i l hl => ?_⟩
    obtain ⟨sv, a, b⟩ := h6 i l hl
    exact ⟨sv, k.cellOf a, b.keep k⟩
theorem ArgsAt.slice {w : World} {v : Value} {args : List (List Tok)} (h : ArgsAt w v args) : ∃ p c, v = .slice p args.length c := by
  obtain ⟨p, c, e, _⟩ := h
  exact ⟨p, c, e⟩
theorem TokAt.slice {w : World} {v : Value} {l : List Tok} (h : TokAt w v l) : ∃ p c, v = .slice p l.length c := by
  obtain ⟨p, c, e, _⟩ := h
  exact ⟨p, c, e⟩
end Go.Proofs.YtcdepfdfemmfhaaDoor
