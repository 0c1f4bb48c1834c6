/- Ways out of nested blocks, one lemma a step: a chain of blocks is left block by block, so that no proof compares two nested posts. -/
import Derived.WalkKit
namespace Go.Proofs.YtockkidbncpdlaaGreatDoor
set_option linter.unusedVariables false
set_option linter.unusedSimpArgs false
section
variable {K : Act → World → Prop} {Q : Exit → Act → World → Prop} {a : Act} {w : World} {i j : Nat}
theorem then_normal (h : K a w) : Exit.then K Q .normal a w := h
theorem then_exit (h : Q (.exit i) a w) : Exit.then K Q (.exit i) a w := h
theorem then_ret (h : Q .ret a w) : Exit.then K Q .ret a w := h
theorem in_normal (h : Q .normal a w) : Exit.inBlock i Q .normal a w := h
theorem in_ret (h : Q .ret a w) : Exit.inBlock i Q .ret a w := h
theorem in_hit (h : Q .normal a w) : Exit.inBlock i Q (.exit i) a w := by simp [Exit.inBlock]; exact h
theorem in_miss (hne : (j == i) = false) (h : Q (.exit j) a w) : Exit.inBlock i Q (.exit j) a w := by
  have : ¬ j = i := by simpa using hne
  simp [Exit.inBlock, this]; exact h
end
end Go.Proofs.YtockkidbncpdlaaGreatDoor
