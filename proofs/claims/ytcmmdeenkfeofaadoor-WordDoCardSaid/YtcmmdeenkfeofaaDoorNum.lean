/- Plain facts about numbers of 32 bits: no Go in sight. -/
import Derived.WalkKit
namespace Go.Proofs.YtcmmdeenkfeofaaDoor
set_option linter.unusedVariables false
set_option linter.unusedSimpArgs false
open Go.RowKit

theorem and31 (b : Int) (h0 : 0 ≤ b) (h1 : b < 4294967296) : bits .and .u32 b 31 = b % 32 := by
  rw [u32_and b 31 h0 h1 (by decide) (by decide)]
  obtain ⟨B, rfl⟩ := Int.eq_ofNat_of_zero_le h0
  rw [show (31 : Int).toNat = 2 ^ 5 - 1 from rfl, Int.toNat_natCast, Nat.and_two_pow_sub_one_eq_mod]
  omega
theorem xorLow (r : Nat) (h : r < 2 ^ 31) : r ^^^ 2 ^ 31 = 2 ^ 31 + r := by
  apply Nat.eq_of_testBit_eq
  intro i
  rw [Nat.testBit_xor, Nat.testBit_two_pow, show 2 ^ 31 + r = 2 ^ 31 * 1 + r by rw [Nat.mul_one], Nat.testBit_two_pow_mul_add 1 h i]
  by_cases hi : i < 31
  · rw [if_pos hi, decide_eq_false (by omega), Bool.xor_false]
  · rw [if_neg hi, Nat.testBit_lt_two_pow (Nat.lt_of_lt_of_le h (Nat.pow_le_pow_right (by decide) (by omega))), Bool.false_xor]
    obtain ⟨k, rfl⟩ : ∃ k, i = 31 + k := ⟨i - 31, by omega⟩
    rw [Nat.add_sub_cancel_left]
    cases k with
    | zero => simp
    | succ k => rw [Nat.testBit_succ]; simp
theorem xorTopNat (A : Nat) (hA : A < 4294967296) : A ^^^ 2147483648 = (A + 2147483648) % 4294967296 := by
  have e : (2147483648 : Nat) = 2 ^ 31 := by decide
  by_cases h : A < 2147483648
  · have h1 := xorLow A (by omega)
    rw [e, h1, ← e]
    omega
  · have h1 := xorLow (A - 2147483648) (by omega)
    have h2 : A = (A - 2147483648) ^^^ 2 ^ 31 := by rw [h1, ← e]; omega
    rw [e]
    conv => lhs; rw [h2]
    rw [Nat.xor_assoc, Nat.xor_self, Nat.xor_zero, ← e]
    omega
theorem xorTop (a : Int) (h0 : 0 ≤ a) (h1 : a < 4294967296) : bits .xor .u32 a 2147483648 = (a + 2147483648) % 4294967296 := by
  rw [u32_xor a 2147483648 h0 h1 (by decide) (by decide)]
  obtain ⟨A, rfl⟩ := Int.eq_ofNat_of_zero_le h0
  rw [Int.toNat_natCast, show (2147483648 : Int).toNat = 2147483648 from rfl, xorTopNat A (by omega)]
  omega
/-- The order of numbers with a sign is that of the raised ones without. -/
theorem raisedLt (a b : Int) (h0 : 0 ≤ a) (h1 : a < 4294967296) (h2 : 0 ≤ b) (h3 : b < 4294967296) :
    (a + 2147483648) % 4294967296 < (b + 2147483648) % 4294967296 ↔ wrap32 a < wrap32 b := by
  unfold wrap32
  omega
theorem raisedLe (a b : Int) (h0 : 0 ≤ a) (h1 : a < 4294967296) (h2 : 0 ≤ b) (h3 : b < 4294967296) :
    (a + 2147483648) % 4294967296 ≤ (b + 2147483648) % 4294967296 ↔ wrap32 a ≤ wrap32 b := by
  unfold wrap32
  omega
end Go.Proofs.YtcmmdeenkfeofaaDoor
