/- The reference's number: the one a text begins with. -/
import Derived.Test.YtcdepfdfemmfhaaDoorLexOne
import Derived.Test.YtcdepfdfemmfhaaDoorLexMath
namespace Go.Proofs.YtcdepfdfemmfhaaDoor
set_option linter.unusedVariables false
set_option linter.unusedSimpArgs false
open Go.RowKit
theorem drop_at (s : ByteArray) (k : Nat) (h : k < s.size) : s.data.toList.drop k = s[k] :: s.data.toList.drop (k + 1) := by
  rw [List.drop_eq_getElem_cons (by simpa using h)]; rfl
theorem drop_end (s : ByteArray) (k : Nat) (h : s.size ≤ k) : s.data.toList.drop k = [] := List.drop_eq_nil_of_le (by simpa using h)
theorem byte_bd (c : UInt8) : (0 : Int) ≤ (c.toNat : Int) ∧ (c.toNat : Int) < 256 := ⟨by omega, by have := c.toNat_lt; omega⟩
def NumInv (l : List UInt8) (base : Int) (k : Nat) (n : Int) : Prop := numLen l = k + (numRun base (l.drop k) n).1 ∧ numVal l = (numRun base (l.drop k) n).2 ∧ 0 ≤ n ∧ n ≤ 1099511627776
theorem NumInv.step {s : ByteArray} {base n h : Int} {k : Nat} (hi : NumInv s.data.toList base k n) (hk : k < s.size) (hh : h = lxHex (s[k]'hk).toNat) (h0 : 0 ≤ h) (h1 : h < base) (m : Int) (hm : m = capBig (n * base + h)) : NumInv s.data.toList base (k + 1) m := by
  obtain ⟨a, b, c, d⟩ := hi
  rw [drop_at s k hk] at a b
  unfold numRun at a b
  rw [← hh, if_pos ⟨h0, h1⟩, ← hm] at a b
  have hn := Int.mul_nonneg c (by omega : 0 ≤ base)
  have := capBig_bd (n * base + h) (by omega)
  refine ⟨by rw [a]; simp; omega, b, by omega, by rw [hm]; exact this.2⟩
theorem NumInv.stop {s : ByteArray} {base n h : Int} {k : Nat} (hi : NumInv s.data.toList base k n) (hk : k < s.size) (hh : h = lxHex (s[k]'hk).toNat) (h0 : ¬ (0 ≤ h ∧ h < base)) : numLen s.data.toList = k ∧ numVal s.data.toList = n := by
  obtain ⟨a, b, c, d⟩ := hi
  rw [drop_at s k hk] at a b
  unfold numRun at a b
  rw [← hh, if_neg h0] at a b
  exact ⟨a, b⟩
theorem NumInv.over {s : ByteArray} {base n : Int} {k : Nat} (hi : NumInv s.data.toList base k n) (hk : s.size ≤ k) : numLen s.data.toList = k ∧ numVal s.data.toList = n := by
  obtain ⟨a, b, c, d⟩ := hi
  rw [drop_end s k hk] at a b
  exact ⟨a, b⟩
theorem NumInv.start (l : List UInt8) : NumInv l (numBase l) (numAt l) 0 := ⟨rfl, rfl, by decide, by decide⟩
theorem isHexL_at (s : ByteArray) (h : 2 < s.size) : isHexL s.data.toList = ((((s[0]'(by omega)).toNat : Int) == 48) && (((s[1]'(by omega)).toNat : Int) == 120) && decide (0 ≤ lxHex (s[2]'h).toNat)) := by
  have e0 := drop_at s 0 (by omega)
  have e1 := drop_at s 1 (by omega)
  have e2 := drop_at s 2 h
  rw [List.drop_zero] at e0
  rw [e0, e1, e2]
  rfl
theorem isHexL_short (s : ByteArray) (h : s.size ≤ 2) : isHexL s.data.toList = false := by
  have hl : s.data.toList.length ≤ 2 := by simpa using h
  match hs : s.data.toList, hl with
  | [], _ => rfl
  | [a], _ => rfl
  | [a, b], _ => rfl
/-- What number answers. -/
def numV (l : List UInt8) : Value := .tuple #[.int .i64 (numLen l), .int .i64 (if numErr l = 0 then numVal l else 0), .int .i64 (numErr l)]
theorem numV_at (l : List UInt8) {k : Nat} {n : Int} (h : numLen l = k ∧ numVal l = n) : numV l = if badNext (l.drop k) = true then .tuple #[.int .i64 k, .int .i64 0, .int .i64 11] else if lxBig ≤ n then .tuple #[.int .i64 k, .int .i64 0, .int .i64 14] else .tuple #[.int .i64 k, .int .i64 n, .int .i64 0] := by
  unfold numV numErr
  rw [h.1, h.2]
  split
  · simp
  · split <;> simp
end Go.Proofs.YtcdepfdfemmfhaaDoor
