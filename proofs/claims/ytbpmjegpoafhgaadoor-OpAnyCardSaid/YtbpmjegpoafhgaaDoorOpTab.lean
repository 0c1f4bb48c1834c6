/- The instructions' table, plain; no Go in sight. -/
import Derived.Test.YtbpmjegpoafhgaaDoorGBase
import Derived.Laws.AppendOwn
namespace Go.Proofs.YtbpmjegpoafhgaaDoor
set_option linter.unusedVariables false
set_option linter.unusedSimpArgs false
open Go.RowKit
def opNames : List ByteArray := [⟨#[97, 100, 100]⟩, ⟨#[115, 117, 98]⟩, ⟨#[109, 117, 108]⟩, ⟨#[97, 110, 100]⟩, ⟨#[111, 114]⟩, ⟨#[120, 111, 114]⟩, ⟨#[115, 108, 108]⟩, ⟨#[115, 114, 108]⟩, ⟨#[115, 114, 97]⟩, ⟨#[115, 108, 116]⟩, ⟨#[115, 108, 116, 117]⟩, ⟨#[100, 105, 118, 117]⟩, ⟨#[114, 101, 109, 117]⟩, ⟨#[97, 100, 100, 105]⟩, ⟨#[97, 110, 100, 105]⟩, ⟨#[111, 114, 105]⟩, ⟨#[120, 111, 114, 105]⟩, ⟨#[115, 108, 108, 105]⟩, ⟨#[115, 114, 108, 105]⟩, ⟨#[115, 108, 116, 105]⟩, ⟨#[108, 105]⟩, ⟨#[108, 117, 105]⟩, ⟨#[109, 118]⟩, ⟨#[99, 98, 97, 115, 101]⟩, ⟨#[99, 116, 111, 112]⟩, ⟨#[99, 97, 100, 100, 114]⟩, ⟨#[99, 112, 101, 114, 109]⟩, ⟨#[99, 116, 121, 112, 101]⟩, ⟨#[99, 116, 97, 103]⟩, ⟨#[99, 115, 101, 116, 97, 100, 100, 114]⟩, ⟨#[99, 105, 110, 99]⟩, ⟨#[99, 105, 110, 99, 105]⟩, ⟨#[99, 98, 111, 117, 110, 100, 115]⟩, ⟨#[99, 98, 111, 117, 110, 100, 115, 105]⟩, ⟨#[99, 97, 110, 100, 112]⟩, ⟨#[99, 97, 110, 100, 112, 105]⟩, ⟨#[99, 99, 108, 101, 97, 114]⟩, ⟨#[99, 115, 101, 97, 108]⟩, ⟨#[99, 117, 110, 115, 101, 97, 108]⟩, ⟨#[99, 101, 110, 116, 101, 114]⟩, ⟨#[99, 115, 117, 98]⟩, ⟨#[99, 115, 117, 98, 115, 101, 116]⟩, ⟨#[99, 101, 113]⟩, ⟨#[108, 98]⟩, ⟨#[108, 98, 117]⟩, ⟨#[108, 104]⟩, ⟨#[108, 104, 117]⟩, ⟨#[108, 119]⟩, ⟨#[108, 99]⟩, ⟨#[115, 98]⟩, ⟨#[115, 104]⟩, ⟨#[115, 119]⟩, ⟨#[115, 99]⟩, ⟨#[98, 101, 113]⟩, ⟨#[98, 110, 101]⟩, ⟨#[98, 108, 116]⟩, ⟨#[98, 103, 101]⟩, ⟨#[98, 108, 116, 117]⟩, ⟨#[98, 103, 101, 117]⟩, ⟨#[106, 97, 108]⟩, ⟨#[106, 97, 108, 114]⟩, ⟨#[97, 117, 105, 112, 99, 99]⟩, ⟨#[105, 110]⟩, ⟨#[111, 117, 116]⟩, ⟨#[104, 97, 108, 116]⟩, ⟨#[101, 99, 97, 108, 108]⟩, ⟨#[110, 111, 112]⟩]
def opForms : List Int := [3, 3, 3, 3, 3, 3, 3, 3, 3, 3, 3, 3, 3, 4, 4, 4, 4, 4, 4, 4, 5, 5, 2, 2, 2, 2, 2, 2, 2, 3, 3, 4, 3, 4, 3, 4, 2, 3, 3, 2, 3, 3, 3, 8, 8, 8, 8, 8, 8, 8, 8, 8, 8, 6, 6, 6, 6, 6, 6, 7, 4, 5, 1, 1, 0, 9, 0]
def opName (i : Nat) : ByteArray := opNames.getD i ⟨#[]⟩
def opForm (i : Nat) : Int := opForms.getD i 0
def opRow (i : Nat) : List Value := [.int .i64 ((i : Int) + 1), .string (opName i), .int .i64 (opForm i)]
/-- The first k rows, as cells. -/
def opsTo : Nat → List Value
  | 0 => []
  | k + 1 => opsTo k ++ opRow k
theorem opsTo_length (k : Nat) : (opsTo k).length = k * 3 := by
  induction k with
  | zero => rfl
  | succ k ih => simp [opsTo, opRow, ih]; omega
theorem opsTo_row (N : Nat) : ∀ (i j : Nat), i < N → j < 3 → (opsTo N)[i * 3 + j]? = (opRow i)[j]? := by
  induction N with
  | zero => intro i j hi; omega
  | succ N ih =>
    intro i j hi hj
    unfold opsTo
    by_cases h : i < N
    · rw [List.getElem?_append_left (by rw [opsTo_length]; omega)]
      exact ih i j h hj
    · obtain rfl : i = N := by omega
      rw [List.getElem?_append_right (by rw [opsTo_length]; omega), opsTo_length, Nat.add_sub_cancel_left]
def opZeroV : Value := .agg #[.int .i64 0, .string ⟨#[]⟩, .int .i64 0]
def opV (i : Nat) : Value := .agg #[.int .i64 ((i : Int) + 1), .string (opName i), .int .i64 (opForm i)]
/-- What Coded answers. -/
def codedV (n : Int) : Value := if 1 ≤ n ∧ n ≤ 67 then .tuple #[opV (n.toNat - 1), .bool true] else .tuple #[opZeroV, .bool false]
/-- Where a name stands; 67: nowhere. -/
def opIdx (s : ByteArray) : Nat := opNames.findIdx (fun x => decide (x = s))
def namedV (s : ByteArray) : Value := if opIdx s < 67 then .tuple #[opV (opIdx s), .bool true] else .tuple #[opZeroV, .bool false]
theorem opIdx_at (s : ByteArray) (k : Nat) (h : k < 67) (hk : opName k = s) (hj : ∀ j, j < k → opName j ≠ s) : opIdx s = k := by
  have hl : k < opNames.length := h
  unfold opIdx
  rw [List.findIdx_eq hl]
  have e : ∀ j (hj : j < opNames.length), opNames[j] = opName j := fun j hj => by simp [opName, List.getD_eq_getElem?_getD, List.getElem?_eq_getElem hj]
  refine ⟨by rw [e k hl]; simpa using hk, fun j hjk => ?_⟩
  rw [e j (by omega)]
  simpa using hj j hjk
theorem opIdx_none (s : ByteArray) (hj : ∀ j, j < 67 → opName j ≠ s) : opIdx s = 67 := by
  have e : ∀ j (hj : j < opNames.length), opNames[j] = opName j := fun j hj => by simp [opName, List.getD_eq_getElem?_getD, List.getElem?_eq_getElem hj]
  unfold opIdx
  have : opNames.findIdx (fun x => decide (x = s)) = opNames.length := by
    rw [List.findIdx_eq_length]
    intro x hx
    obtain ⟨j, hjl, rfl⟩ := List.getElem_of_mem hx
    rw [e j hjl]
    simpa using hj j hjl
  rw [this]
  rfl
end Go.Proofs.YtbpmjegpoafhgaaDoor
