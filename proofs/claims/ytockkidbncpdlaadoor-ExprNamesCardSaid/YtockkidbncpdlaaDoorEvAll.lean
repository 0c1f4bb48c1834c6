/- The reference's Eval: a constant, from any place of any words. -/
import Derived.Test.YtockkidbncpdlaaDoorEvLev
import Derived.Test.YtockkidbncpdlaaDoorRowAt
namespace Go.Proofs.YtockkidbncpdlaaDoor
set_option linter.unusedVariables false
set_option linter.unusedSimpArgs false
open Go.RowKit
theorem RowAt.isIn {w w' : World} {p : Option Addr} {xs : List Value} (h : RowAt w p xs) (k : Keep w w') {b : Nat} (hb : w.heap.size ≤ b) : RowIn w' b p xs := by
  rcases h with h | ⟨g, vs, h1, h2, h3⟩
  · exact .inl h
  · exact .inr ⟨g, vs, h1, by have := h2.lt; omega, h2.keep k, h3⟩
/-- What Eval answers. -/
def EvalR (toks : List Tok) (names : List (ByteArray × Int)) (at_ : Nat) (w : World) (e : Ending) (w' : World) : Prop :=
  Keep w w' ∧ ((∃ (v : Int) (p : Nat), Ev toks names (.lev 0 at_) 0 (.ok v p) ∧ InB v ∧ p ≤ toks.length ∧ e = .returned (.tuple #[.int .i64 v, .int .i64 p, okV])) ∨
    ∃ (p : Nat) (x : Int), Ev toks names (.lev 0 at_) 0 (.bad p x) ∧ x ≠ 0 ∧ e = .returned (.tuple #[.int .i64 0, .int .i64 0, wrongV tokenS p x]))
end Go.Proofs.YtockkidbncpdlaaDoor
