/- From a row's list to the table of names. -/
import Derived.Test.YtbpmjegpoafhgaaDoorOpDo
import Derived.Test.YtbpmjegpoafhgaaDoorRows
import Derived.LaidMore
import Derived.Stop.LaidErr
import Derived.Lib.LaidTab
namespace Go.Proofs.YtbpmjegpoafhgaaDoor
set_option linter.unusedVariables false
set_option linter.unusedSimpArgs false
open Go.RowKit
/-- A table of strings as a row lists it. -/
def strData {H : Type} (ss : List ByteArray) : DataW H := .agg (ss.map fun s => .lit (.string s.data.toList))
theorem cells_of_strs {H : Type} {enc : TypeId × Value → H} {P : Program} {w : World} {base : Nat} {sp : Nat → Bool} {held : Bool} {fuel : Nat} {t e : TypeId} {n : Nat} {cs : List Value} {ss : List ByteArray} {p : List MemPlace}
    (ht : P.underlying t = some (.array n e)) (he : P.underlying e = some .string) (hce : P.cellsOf e = 1) (hct : P.cellsOf t = n)
    (h : DataW.trod enc P w base sp held fuel t cs = some (strData ss, p)) : cs = ss.map Value.string := by
  cases fuel with
  | zero => simp [DataW.trod] at h
  | succ fuel =>
    simp only [DataW.trod, ht, hce, hct, Nat.mul_one] at h
    split at h
    · rename_i hl
      obtain ⟨xs, hm, hx⟩ := Option.map_eq_some_iff.1 h
      have hxs : xs.map (·.1) = ss.map fun s => (DataW.lit (.string s.data.toList) : DataW H) := by
        have := congrArg Prod.fst hx
        simpa [strData] using this
      have hxl : xs.length = n := by simpa using Lib.mapM_length hm
      have hzl : ss.length = n := by
        have := congrArg List.length hxs
        simp at this
        omega
      apply List.ext_getElem?
      intro i
      by_cases hi : i < n
      · obtain ⟨b, hb, hf⟩ := Lib.mapM_at hm i i (by simp [hi])
        obtain ⟨s, hc, rfl, _⟩ := DataW.trod_string he hf
        have h1 : cs[i]? = some (.string s) := by
          have := congrArg (·[0]?) hc
          simpa [List.getElem?_take, List.getElem?_drop] using this
        have h2 : (xs.map (·.1))[i]? = some (DataW.lit (.string s.data.toList) : DataW H) := by simp [hb]
        rw [hxs] at h2
        simp only [List.getElem?_map, Option.map_eq_some_iff, DataW.lit.injEq, Lit.string.injEq] at h2
        obtain ⟨s', hs', he'⟩ := h2
        have e : s' = s := ByteArray.ext (Array.ext' he')
        subst e
        simp [h1, hs']
      · rw [List.getElem?_eq_none (by omega), List.getElem?_eq_none (by simp; omega)]
    · cases h
theorem namesGlobal : Tryd.prog.globalNamed "hasp/op.names" = some 0 := by kernel_rfl
theorem namesType : (Tryd.prog.globals[0]?).map (·.type) = some 38 := by kernel_rfl
theorem namesCells : Tryd.prog.cellsOf 38 = 67 := by kernel_rfl
theorem stringCells : Tryd.prog.cellsOf 9 = 1 := by kernel_rfl
theorem names_laid {H : Type} : (Rows.laid_hasp_op_names : DataW H) = strData opNames := rfl
/-- The list's head gives the table. -/
theorem names_of_head {W : World} {rest : List (String × DataW Unit)} (h : laidMet Tryd.prog (("hasp/op.names", Rows.laid_hasp_op_names) :: rest) W) : Names W := by
  obtain ⟨ps, ⟨g', t', cs, fuel, p, q, hg', ht', hvar, hd, _, _⟩, _⟩ := h
  obtain rfl := Option.some.inj (namesGlobal.symm.trans hg')
  obtain rfl := Option.some.inj (namesType.symm.trans ht')
  rw [names_laid] at hd
  have hc := cells_of_strs Tryd.underlying38 Tryd.underlying9 stringCells namesCells hd
  intro j v hv
  have hv' : W.var? Tryd.prog "hasp/op.names" = some nameVals.toArray := by
    rw [hvar, show cs = nameVals.toArray from Array.ext' (by rw [hc]; rfl)]
  have := World.var?_cell namesGlobal hv' j
  rw [Nat.zero_add, this]
  simpa using hv
theorem names_of {W : World} (h : laidMetH Tryd.prog [("hasp/op.names", Rows.laid_hasp_op_names)] W) : Names W := by
  rw [MakeChecks.laidMetH_plain _ _ _ (by kernel_rfl)] at h
  exact names_of_head h
end Go.Proofs.YtbpmjegpoafhgaaDoor
