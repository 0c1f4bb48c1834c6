/- A row that was made, its block between two bounds. -/
import Derived.Test.YtbmjnfnekmeegaaGreatDoorGObjF
import Derived.Test.YtbmjnfnekmeegaaGreatDoorGBase
namespace Go.Proofs.YtbmjnfnekmeegaaGreatDoor
set_option linter.unusedVariables false
set_option linter.unusedSimpArgs false
open Go Go.RowKit
theorem cells_box {W : World} {b : Nat} {vs : Array Value} {xs : List Value} (B : Box W b vs) (e : vs.toList = xs) : ∀ (j : Nat) (u : Value), xs[j]? = some u → W.cell? ((⟨b, 0, none⟩ : Addr).add j) = some u := by
  intro j u hj
  rw [Addr.add_lit, Nat.zero_add, B.cells, ← Array.getElem?_toList, e]
  exact hj
/-- A row that was made, its block between two bounds. -/
def RowOf (lo hi : Nat) (W : World) (v : Value) (n : Nat) (xs : List Value) : Prop := ∃ p cap, v = .slice p n cap ∧ n ≤ cap ∧ cap ≤ maxLen ∧ (xs = [] ∨ ∃ b, p = some ⟨b, 0, none⟩ ∧ lo ≤ b ∧ b < hi ∧ b < W.heap.size ∧ ∀ (i : Nat) (x : Value), xs[i]? = some x → W.cell? ⟨b, 0 + i, none⟩ = some x)
theorem RowOf.but {lo hi : Nat} {W W' : World} {v : Value} {n : Nat} {xs : List Value} {S : Nat → Prop} (h : RowOf lo hi W v n xs) (k : KeepBut S W W') (hS : ∀ b, lo ≤ b → b < hi → ¬ S b) : RowOf lo hi W' v n xs := by
  obtain ⟨p, cap, h1, h2, h3, h4⟩ := h
  refine ⟨p, cap, h1, h2, h3, ?_⟩
  rcases h4 with h4 | ⟨b, h4, h5, h6, h7, h8⟩
  · exact .inl h4
  · exact .inr ⟨b, h4, h5, h6, Nat.lt_of_lt_of_le h7 k.size, fun i x hx => ocell_but k h7 (hS b h5 h6) (h8 i x hx)⟩
theorem RowOf.sl {lo hi : Nat} {W : World} {v : Value} {n : Nat} {xs : List Value} (h : RowOf lo hi W v n xs) : SlAt W v n xs := by
  obtain ⟨p, cap, h1, h2, h3, h4⟩ := h
  refine ⟨p, cap, h1, h2, h3, ?_⟩
  rcases h4 with h4 | ⟨b, h4, _, _, h7, h8⟩
  · exact .inl h4
  · exact .inr ⟨b, 0, h4, h7, h8⟩
theorem owns_rowOf {W : World} {base : Nat} {e : TypeId} {size : Nat} {v : Value} {n : Nat} {xs : List Value} (h : W.ownsRow base e size v n xs) (hm : n ≤ maxLen) : RowOf base W.heap.size W v n xs := by
  obtain ⟨p, cap, h1, h2, h3, h4⟩ := owns_cells h hm
  refine ⟨p, cap, h1, h2, h3, ?_⟩
  rcases h4 with h4 | ⟨b, h4, h5, h6, h7⟩
  · exact .inl h4
  · exact .inr ⟨b, h4, h5, h6, h6, h7⟩
/-- What a loop that fills a field of a third block turns. -/
def SOf (w : World) (base PB : Nat) (z : Nat) : Prop := z = w.heap.size + 1 + 1 ∨ (base ≤ z ∧ z ≠ PB)
end Go.Proofs.YtbmjnfnekmeegaaGreatDoor
