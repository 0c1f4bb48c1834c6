/- A row of cells at the beginning of its block, as a slice says it; what is owned lies so. -/
import Derived.Test.YtahnbeoacdnhjaaDoorGBase
import Derived.Test.YtahnbeoacdnhjaaDoorApp
namespace Go.Proofs.YtahnbeoacdnhjaaDoor
set_option linter.unusedVariables false
set_option linter.unusedSimpArgs false
open Go.RowKit
/-- A row of cells lies where a slice says. -/
def RowAt (w : World) (p : Option Addr) (xs : List Value) : Prop := xs = [] ∨ ∃ g vs, p = some ⟨g, 0, none⟩ ∧ Box w g vs ∧ ∀ i : Nat, i < xs.length → vs[i]? = xs[i]?
theorem RowAt.keep {w w' : World} {p : Option Addr} {xs : List Value} (h : RowAt w p xs) (k : Keep w w') : RowAt w' p xs := by
  rcases h with h | ⟨g, vs, h1, h2, h3⟩
  · exact .inl h
  · exact .inr ⟨g, vs, h1, h2.keep k, h3⟩
/-- What is owned lies where its slice says. -/
theorem own_at {w : World} {base : Nat} {e : TypeId} {size : Nat} {v : Value} {n : Nat} {xs : List Value} (h : w.ownsRow base e size v n xs) : ∃ p cap, v = .slice p n cap ∧ n ≤ cap ∧ RowAt w p xs := by
  obtain ⟨hl, ⟨rfl, rfl⟩ | ⟨g, cap, cur, rfl, hb, hg, hn, hc, hs, ht⟩⟩ := h
  · exact ⟨none, 0, rfl, Nat.le_refl _, .inl (List.length_eq_zero_iff.1 (by omega))⟩
  · refine ⟨some ⟨g, 0, none⟩, cap, rfl, hn, .inr ⟨g, cur, rfl, ⟨e, hg⟩, fun i hi => ?_⟩⟩
    rw [← ht, List.getElem?_take, if_pos (by omega)]
    simp
end Go.Proofs.YtahnbeoacdnhjaaDoor
