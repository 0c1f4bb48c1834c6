/- The reference's unary: a sign ahead, brackets, given what is read deeper. -/
import Derived.Test.YtockkidbncpdlaaDoorEvAtom
namespace Go.Proofs.YtockkidbncpdlaaDoor
set_option linter.unusedVariables false
set_option linter.unusedSimpArgs false
open Go.RowKit
theorem boundE_getD (n : Int) : InB ((boundE n).getD 0) := by
  unfold boundE lxBig InB
  split
  · simp
  · simp; omega
theorem Rdr.Bad.next {r : Rdr} {w : World} {pl e : Int} (h : r.Bad w pl e) (b : Int) : r.Bad (w.setCell ⟨r.b, 1, none⟩ (.int .i64 b)) pl e := by
  obtain ⟨he, a, h⟩ := h
  refine ⟨he, b, ?_⟩
  unfold Rdr.cells at h ⊢
  simpa using Box.set h 1 (.int .i64 b)
theorem Rdr.Bad.keep {r : Rdr} {w w' : World} {pl e : Int} (h : r.Bad w pl e) (k : Keep w w') : r.Bad w' pl e := by
  obtain ⟨he, a, h⟩ := h
  exact ⟨he, a, h.keep k⟩
theorem boundE_in {n m : Int} (h : boundE n = some m) : m = n ∧ InB m := by
  unfold boundE lxBig at h
  split at h
  · cases h
  · cases h; exact ⟨rfl, by unfold InB; omega⟩
end Go.Proofs.YtockkidbncpdlaaDoor
