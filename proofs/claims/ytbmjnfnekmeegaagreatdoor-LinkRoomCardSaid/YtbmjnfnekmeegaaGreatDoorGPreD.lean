/- LaidMem: What the listed variables give: one by its name, a handle by its name; errors.errorType. -/
import Derived.Test.YtbmjnfnekmeegaaGreatDoorRows
import Derived.Test.YtbmjnfnekmeegaaGreatDoorChecked
import Derived.Test.YtbmjnfnekmeegaaGreatDoorGTell
import Derived.ProofKit
import Derived.OpenShut
import Derived.LaidLaws
import Derived.LaidHandle
import Derived.Stop.LaidErr
import Derived.ChangeVars
/- What the listed variables give: one by its name, a handle by its name; errors.errorType. -/
namespace Go.Proofs.YtbmjnfnekmeegaaGreatDoor
set_option linter.unusedVariables false
set_option linter.unusedSimpArgs false
open Go.ChangeShapes Go.WideShapes Go.ChangeAt Go.RowKit
theorem laid_mem {P : Program} {W : World} {x : String × DataW Unit} : ∀ {l : List (String × DataW Unit)}, laidMet P l W → x ∈ l → ∃ r, laidMet P (x :: r) W
  | [], _, h => by simp at h
  | y :: l, hl, h => by
    rcases List.mem_cons.1 h with rfl | h
    · exact ⟨l, hl⟩
    · exact laid_mem (laidMet.tail hl) h
theorem laidH_data {P : Program} {W : World} {l : List (String × DataW Unit)} {x : String × DataW Unit} (h : laidMetH P l W) (hx : x ∈ l) (hn : x.2.handleName?.isNone = true) : ∃ r, laidMet P (x :: r) W := by
  unfold laidMetH at h
  split at h
  · exact laid_mem h hx
  · exact laid_mem h.1 (List.mem_filter.2 ⟨hx, hn⟩)
theorem laidH_handle {P : Program} {W : World} {l : List (String × DataW Unit)} {x : String × DataW Unit} (h : laidMetH P l W) (hx : x ∈ l) (hn : x.2.handleName?.isSome = true) : handlesMet P [x] W := by
  have hm : x ∈ l.filter fun x => x.2.handleName?.isSome := List.mem_filter.2 ⟨hx, hn⟩
  unfold laidMetH at h
  split at h
  · rename_i e; rw [e] at hm; simp at hm
  · rename_i a1 a2 e
    rw [e] at hm
    intro y hy
    obtain rfl := List.mem_singleton.1 hy
    exact h.2 _ hm
theorem laidOut : laidOutB Tryz.prog = true := by kernel_rfl
theorem etNamed : Tryz.prog.globalNamed "errors.errorType" = some 0 := by kernel_rfl
theorem rtType : (Tryz.prog.cutTypes.find? (·.1 == "internal/reflectlite.rtype")).map (·.2) = some 201 := by kernel_rfl
theorem oneRow : ((List.range Tryz.prog.types.size).filter fun t => Tryz.prog.rowNamed t [101, 114, 114, 111, 114]) = [42] := by kernel_rfl
theorem errT_mem {W : World} (h : handlesMet Tryz.prog [("errors.errorType", Rows.laid_errors_errorType)] W) : ErrT W := by
  obtain ⟨name, u, ty, e1, e2, e3, e4, e5⟩ := h _ (List.mem_singleton.2 rfl)
  have en : name = [101, 114, 114, 111, 114] := (Option.some.inj e1).symm
  subst en
  obtain rfl := Option.some.inj (rtType.symm.trans e2)
  have hm : ty ∈ (List.range Tryz.prog.types.size).filter fun t => Tryz.prog.rowNamed t [101, 114, 114, 111, 114] := List.mem_filter.2 ⟨List.mem_range.2 e3, e4⟩
  rw [oneRow] at hm
  obtain rfl := List.mem_singleton.1 hm
  have hh : typeHandle Tryz.prog 42 = .pointer (some ⟨1, 42, none⟩) := by kernel_rfl
  rw [hh] at e5
  unfold ErrT
  simpa using World.var?_cell etNamed e5 0
end Go.Proofs.YtbmjnfnekmeegaaGreatDoor
