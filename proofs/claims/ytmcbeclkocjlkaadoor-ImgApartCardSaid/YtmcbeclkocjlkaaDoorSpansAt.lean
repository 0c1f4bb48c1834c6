/- Spans where a slice says, as cells. -/
import Derived.Test.YtmcbeclkocjlkaaDoorGImgF
import Derived.Test.YtmcbeclkocjlkaaDoorGPlainI
namespace Go.Proofs.YtmcbeclkocjlkaaDoor
set_option linter.unusedVariables false
set_option linter.unusedSimpArgs false
open Go Go.RowKit
theorem spans_at {w : World} {v : Value} {l : List SpanV} (h : SlAt w v l.length (spanRows l)) (hl : l ≠ []) : ∃ b off cap, v = .slice (some ⟨b, off, none⟩) l.length cap ∧ b < w.heap.size ∧ ∀ (k : Nat) (x : SpanV), l[k]? = some x → w.cell? ⟨b, off + k * 2, none⟩ = some (.int .u32 x.at_) ∧ w.cell? ⟨b, off + k * 2 + 1, none⟩ = some (.int .u32 x.size) := by
  obtain ⟨p, cap, h1, h2, h3, h4⟩ := h.rowsAt (m := 2) (fun _ => rfl)
  rcases h4 with h4 | h4 | ⟨b, off, h4, h5, h6⟩
  · exact absurd h4 hl
  · cases h4
  · subst h4
    exact ⟨b, off, cap, h1, h5, fun k x hx => ⟨h6 k x hx 0 _ (by decide) rfl, h6 k x hx 1 _ (by decide) rfl⟩⟩
end Go.Proofs.YtmcbeclkocjlkaaDoor
