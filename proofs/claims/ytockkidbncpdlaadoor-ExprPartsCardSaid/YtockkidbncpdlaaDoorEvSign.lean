/- The reference's sign: is the next word one of some signs? -/
import Derived.Test.YtockkidbncpdlaaDoorEvRd
import Derived.Test.YtockkidbncpdlaaDoorGBase
namespace Go.Proofs.YtockkidbncpdlaaDoor
set_option linter.unusedVariables false
set_option linter.unusedSimpArgs false
open Go.RowKit
theorem inS_at (s : ByteArray) : ∀ (S : List ByteArray) (j : Nat), S[j]? = some s → inS S s = true
  | [], j, h => by simp at h
  | x :: S, 0, h => by simp at h; subst h; simp [inS]
  | x :: S, j + 1, h => by simp at h; simp [inS, inS_at s S j h]
theorem inS_no (s : ByteArray) : ∀ (S : List ByteArray), (∀ (j : Nat) (x : ByteArray), S[j]? = some x → x ≠ s) → inS S s = false
  | [], _ => rfl
  | x :: S, h => by
    simp only [inS, Bool.or_eq_false_iff, decide_eq_false_iff_not]
    exact ⟨h 0 x rfl, inS_no s S fun j y hj => h (j + 1) y (by simpa using hj)⟩
theorem str_beq2 (a b : ByteArray) : (a.toList == b.toList) = decide (a = b) := by
  rw [ByteArray.toList_eq, ByteArray.toList_eq]
  by_cases h : a = b
  · subst h; simp
  · rw [decide_eq_false h, beq_eq_false_iff_ne]
    exact fun e => h (ByteArray.ext (Array.ext' e))
end Go.Proofs.YtockkidbncpdlaaDoor
