/- The reference's one: signs; at any text. -/
import Derived.Test.YtcdepfdfemmfhaaDoorLexOf
namespace Go.Proofs.YtcdepfdfemmfhaaDoor
set_option linter.unusedVariables false
set_option linter.unusedSimpArgs false
open Go.RowKit
def sgB : ByteArray := ⟨#[40, 41, 44, 58, 43, 45, 42, 38, 124, 94, 126]⟩
def sgD (k : Nat) : UInt8 := ([40, 41, 44, 58, 43, 45, 42, 38, 124, 94, 126] : List UInt8).getD k 0
theorem sgB_size : sgB.size = 11 := by decide +kernel
theorem sgB_at : ∀ i : Fin 11, sgB.data.toList.getD i.val 0 = sgD i.val := by decide +kernel
theorem sgB_get (d : Nat) (h : d < 11) (h' : d < sgB.size) : sgB[d] = sgD d := by
  have hl : sgB.data.toList.length = 11 := by decide +kernel
  have h2 : d < sgB.data.toList.length := by omega
  have e2 : sgB[d] = sgB.data.toList.getD d 0 := by
    rw [List.getD, List.getElem?_eq_getElem h2]; rfl
  rw [e2, sgB_at ⟨d, h⟩]
theorem sgD_in : ∀ i : Fin 11, ((sgD i.val).toNat : Int) ∈ lxSigns := by decide
theorem sgD_out (c : Int) (h : ∀ j, j < 11 → ((sgD j).toNat : Int) ≠ c) : ¬ c ∈ lxSigns := by
  intro hm
  simp only [lxSigns, List.mem_cons, List.not_mem_nil, or_false] at hm
  rcases hm with e | e | e | e | e | e | e | e | e | e | e
  · exact h 0 (by decide) (by rw [e]; rfl)
  · exact h 1 (by decide) (by rw [e]; rfl)
  · exact h 2 (by decide) (by rw [e]; rfl)
  · exact h 3 (by decide) (by rw [e]; rfl)
  · exact h 4 (by decide) (by rw [e]; rfl)
  · exact h 5 (by decide) (by rw [e]; rfl)
  · exact h 6 (by decide) (by rw [e]; rfl)
  · exact h 7 (by decide) (by rw [e]; rfl)
  · exact h 8 (by decide) (by rw [e]; rfl)
  · exact h 9 (by decide) (by rw [e]; rfl)
  · exact h 10 (by decide) (by rw [e]; rfl)
theorem ext_two (s : ByteArray) (l : List UInt8) : ((s.extract 0 2).toList == l) = decide (s.data.toList.take 2 = l) := by
  rw [ByteArray.toList_eq, ByteArray.data_extract, Array.toList_extract]
  simp only [List.extract_eq_take_drop, List.drop_zero, Nat.sub_zero]
  by_cases h : s.data.toList.take 2 = l
  · rw [h]; simp
  · rw [decide_eq_false h, beq_eq_false_iff_ne.2 h]
/-- No name, number, point, quote. -/
def SignLike (c : Int) : Prop := lxLetter c = false ∧ lxDigit c = false ∧ c ≠ 46 ∧ c ≠ 34
theorem oneL_like {c : UInt8} {r : List UInt8} (h : SignLike c.toNat) : oneL (c :: r) = if isShift (c :: r) = true then .ok (⟨3, strL ((c :: r).take 2), 0, 0⟩, 2) else if (c.toNat : Int) ∈ lxSigns then .ok (⟨3, strL [c], 0, 0⟩, 1) else .error 11 := by
  unfold oneL; dsimp only; rw [if_neg (by rw [h.1]; decide), if_neg (by rw [h.2.1]; decide), if_neg h.2.2.1, if_neg h.2.2.2]
end Go.Proofs.YtcdepfdfemmfhaaDoor
