/- Hexadecimal digits: plain lists, no Go in sight. -/
import Derived.WalkKit
namespace Go.Proofs.YteddflbidafebaaGreatDoor
set_option linter.unusedVariables false
set_option linter.unusedSimpArgs false
open Go.RowKit

def hexDig (n : Nat) : UInt8 := if n < 10 then UInt8.ofNat (48 + n) else UInt8.ofNat (87 + n)
/-- The lowest k hexadecimal digits of n, the highest of them first. -/
def hexLow : Nat → Nat → List UInt8
  | 0, _ => []
  | k + 1, n => hexDig (n / 16 ^ k % 16) :: hexLow k n
theorem hexLow_length (k n : Nat) : (hexLow k n).length = k := by
  induction k with
  | zero => rfl
  | succ k ih => simp [hexLow, ih]
/-- A row of 65 bytes, the last k of which are n's lowest k digits. -/
def hexArr (n k : Nat) : Array Value :=
  (List.replicate (65 - k) (Value.int .u8 0) ++ (hexLow k n).map fun b => Value.int .u8 (b.toNat : Int)).toArray
theorem hexArr_size (n k : Nat) (h : k ≤ 65) : (hexArr n k).size = 65 := by
  simp [hexArr, hexLow_length]; omega
theorem hexArr_zero (n : Nat) : hexArr n 0 = (List.replicate 65 (Value.int .u8 0)).toArray := by
  simp [hexArr, hexLow]
theorem hexArr_cell (n k : Nat) (h : k < 65) : (hexArr n k)[65 - k - 1]? = some (Value.int .u8 0) := by
  rw [hexArr, List.getElem?_toArray, List.getElem?_append_left (by simp; omega), List.getElem?_replicate, if_pos (by omega)]
theorem hexArr_set (n k : Nat) (h : k < 65) :
    (hexArr n k).setIfInBounds (65 - k - 1) (Value.int .u8 ((hexDig (n / 16 ^ k % 16)).toNat : Int)) = hexArr n (k + 1) := by
  rw [hexArr, hexArr, List.setIfInBounds_toArray]
  congr 1
  rw [List.set_append, if_pos (by simp; omega)]
  have e : 65 - k = (65 - k - 1) + 1 := by omega
  have e1 : 65 - (k + 1) = 65 - k - 1 := by omega
  rw [e1]
  generalize 65 - k - 1 = m at e ⊢
  rw [e, List.replicate_succ', List.set_append, if_neg (by simp)]
  simp [hexLow]
/-- The cells of the last k. -/
theorem hexArr_at (n k i : Nat) (hk : k ≤ 65) (hi : i < k) :
    (hexArr n k)[65 - k + i]? = some (Value.int .u8 (((hexLow k n).map fun b => (b.toNat : Int)).getD i 0)) := by
  rw [hexArr, List.getElem?_toArray, List.getElem?_append_right (by simp)]
  simp only [List.length_replicate, Nat.add_sub_cancel_left, List.getElem?_map, List.getD_eq_getElem?_getD]
  rw [List.getElem?_eq_getElem (by rw [hexLow_length]; exact hi)]
  rfl
theorem hexStr (l : List UInt8) : strOfNums (l.map fun b => (b.toNat : Int)) = ⟨l.toArray⟩ := by
  unfold strOfNums
  congr 1
  apply congrArg
  simp [List.map_map, Function.comp_def]
end Go.Proofs.YteddflbidafebaaGreatDoor
