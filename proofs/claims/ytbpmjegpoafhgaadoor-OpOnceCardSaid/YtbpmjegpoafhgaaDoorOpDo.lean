/- op's table of names where it lies; op.known, Coded, Named, All: what each answers. -/
import Derived.Test.YtbpmjegpoafhgaaDoorOpForm
import Derived.Test.YtbpmjegpoafhgaaDoorOpsFind
import Derived.Deep.MidRow
namespace Go.Proofs.YtbpmjegpoafhgaaDoor
set_option linter.unusedVariables false
set_option linter.unusedSimpArgs false
open Go.RowKit
/-- The table of names, as it is laid. -/
def nameVals : List Value := opNames.map Value.string
def Names (w : World) : Prop := w.rangeAt 0 0 nameVals
theorem Names.keep {w w' : World} (h : Names w) (k : Keep w w') : Names w' := fun j v hv => k.cellOf (h j v hv)
theorem nameVals_at (i : Nat) (hi : i < 67) : nameVals[i]? = some (.string (opName i)) := by
  have hl : i < opNames.length := hi
  simp [nameVals, opName, List.getD_eq_getElem?_getD, List.getElem?_eq_getElem hl]
theorem Names.cell {w : World} (h : Names w) (i : Nat) (hi : i < 67) : w.cell? ⟨0, i, none⟩ = some (.string (opName i)) := by
  have := h i _ (nameVals_at i hi)
  rwa [Nat.zero_add] at this
theorem infoNames : (Tryd.prog.info? 38).map (·.size) = some nameVals.length := by kernel_rfl
set_option maxHeartbeats 1000000 in
theorem opKnown_any (i : Nat) (hi : i < 67) (w : World) (hN : Names w) : Calls Tryd.prog 12 #[.int .i64 ((i : Int) + 1)] w fun e w' => e = .returned (opV i) ∧ Keep w w' := by
  have c := Names.cell hN i hi
  have hf := form_any i hi
  unfold opV
  obtain ⟨N, hN⟩ : ∃ N, N = opName i := ⟨_, rfl⟩
  obtain ⟨F, hF⟩ : ∃ F, F = opForm i := ⟨_, rfl⟩
  rw [← hN] at c hf ⊢
  rw [← hF] at hf ⊢
  have i0 : (0 : Int) ≤ (i : Int) := Int.natCast_nonneg _
  have i1 : (i : Int) < 67 := by omega
  have g0 := World.block_lt_of_cell? _ _ c
  clear hN hF
  go_enter Tryd.func12, Tryd.ntmps12
  go_wp2_with fail
  refine (hf _).mono ?_
  rintro e w1 ⟨rfl, rfl⟩
  go_wp2_with fail
  refine bodyPost_ret (v := .agg #[.int .i64 ((i : Int) + 1), .string N, .int .i64 F]) (by simp [results, Tryd.results12, go_sem]; done) rfl ⟨rfl, ?_⟩
  repeat (with_reducible refine Keep.setAt ?_ ?_ _; · first | omega | (simp; done) | (simp; omega))
  exact (Keep.refl _).alloc _
end Go.Proofs.YtbpmjegpoafhgaaDoor
