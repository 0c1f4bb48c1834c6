/- and, or, xor of two numbers of 64 bits that are small: they stay small. -/
import Derived.Test.YtockkidbncpdlaaGreatDoorLexTab
namespace Go.Proofs.YtockkidbncpdlaaGreatDoor
set_option linter.unusedVariables false
set_option linter.unusedSimpArgs false
open Go.RowKit
theorem shr_small {n : Nat} {a : Int} (h0 : -(2 ^ n : Nat) ≤ a) (h1 : a < (2 ^ n : Nat)) : a / (2 ^ n : Nat) = 0 ∨ a / (2 ^ n : Nat) = -1 := by
  have p : (0 : Int) < (2 ^ n : Nat) := by have := Nat.pow_pos (n := n) (show 0 < 2 by decide); omega
  by_cases h : 0 ≤ a
  · left; exact Int.ediv_eq_zero_of_lt h h1
  · right
    have e1 : (-1 : Int) ≤ a / (2 ^ n : Nat) := by rw [Int.le_ediv_iff_mul_le p]; omega
    have e2 : a / (2 ^ n : Nat) < 0 := Int.ediv_neg_of_neg_of_pos (by omega) p
    omega
theorem small_of {n : Nat} {a : Int} (h : a / (2 ^ n : Nat) = 0 ∨ a / (2 ^ n : Nat) = -1) : -(2 ^ n : Nat) ≤ a ∧ a < (2 ^ n : Nat) := by
  have p : (0 : Int) < (2 ^ n : Nat) := by have := Nat.pow_pos (n := n) (show 0 < 2 by decide); omega
  have e := Int.emod_add_mul_ediv a (2 ^ n : Nat)
  have m0 := Int.emod_nonneg a (Int.ne_of_gt p)
  have m1 := Int.emod_lt_of_pos a p
  rcases h with h | h <;> rw [h] at e <;> omega
theorem sshift_toInt (v : BitVec 64) (n : Nat) : (v.sshiftRight n).toInt = v.toInt / (2 ^ n : Nat) := by
  rw [BitVec.toInt_sshiftRight, Int.shiftRight_eq_div_pow]
theorem sshift_two {n : Nat} {v : BitVec 64} (h0 : -(2 ^ n : Nat) ≤ v.toInt) (h1 : v.toInt < (2 ^ n : Nat)) : v.sshiftRight n = 0#64 ∨ v.sshiftRight n = BitVec.allOnes 64 := by
  rcases shr_small h0 h1 with h | h
  · left; apply BitVec.eq_of_toInt_eq; rw [sshift_toInt, h]; rfl
  · right; apply BitVec.eq_of_toInt_eq; rw [sshift_toInt, h]; rfl
theorem two_small {n : Nat} {v : BitVec 64} (h : v.sshiftRight n = 0#64 ∨ v.sshiftRight n = BitVec.allOnes 64) : -(2 ^ n : Nat) ≤ v.toInt ∧ v.toInt < (2 ^ n : Nat) := by
  apply small_of
  rw [← sshift_toInt]
  rcases h with h | h <;> rw [h]
  · left; rfl
  · right; rfl
theorem bits64 (op : BinOp) (x y : Int) (hop : op = .and ∨ op = .or ∨ op = .xor) : bits op .i64 x y = (match op with
    | .and => BitVec.ofInt 64 x &&& BitVec.ofInt 64 y
    | .or => BitVec.ofInt 64 x ||| BitVec.ofInt 64 y
    | _ => BitVec.ofInt 64 x ^^^ BitVec.ofInt 64 y).toInt := by
  have key : ∀ v : BitVec 64, IntKind.i64.wrap v.toNat = v.toInt := fun v => by
    rw [IntKind.wrap_i64, BitVec.toInt_eq_toNat_cond]
    have := v.isLt
    split <;> omega
  rcases hop with rfl | rfl | rfl
  · exact key _
  · exact key _
  · exact key _
theorem bits_small {n : Nat} (hn : n ≤ 40) (op : BinOp) (x y : Int) (hop : op = .and ∨ op = .or ∨ op = .xor) (hx0 : -(2 ^ n : Nat) ≤ x) (hx1 : x < (2 ^ n : Nat)) (hy0 : -(2 ^ n : Nat) ≤ y) (hy1 : y < (2 ^ n : Nat)) :
    -(2 ^ n : Nat) ≤ bits op .i64 x y ∧ bits op .i64 x y < (2 ^ n : Nat) := by
  have hp : (2 ^ n : Nat) ≤ 2 ^ 40 := Nat.pow_le_pow_right (by decide) hn
  have tx : (BitVec.ofInt 64 x).toInt = x := by rw [BitVec.toInt_ofInt]; apply Int.bmod_eq_of_le <;> omega
  have ty : (BitVec.ofInt 64 y).toInt = y := by rw [BitVec.toInt_ofInt]; apply Int.bmod_eq_of_le <;> omega
  have vx := sshift_two (n := n) (v := BitVec.ofInt 64 x) (by rw [tx]; exact hx0) (by rw [tx]; exact hx1)
  have vy := sshift_two (n := n) (v := BitVec.ofInt 64 y) (by rw [ty]; exact hy0) (by rw [ty]; exact hy1)
  rw [bits64 op x y hop]
  apply two_small
  rcases hop with rfl | rfl | rfl
  · show (BitVec.ofInt 64 x &&& BitVec.ofInt 64 y).sshiftRight n = _ ∨ _
    rw [BitVec.sshiftRight_and_distrib]
    rcases vx with a | a <;> rcases vy with b | b <;> rw [a, b]
    · left; decide
    · left; decide
    · left; decide
    · right; decide
  · show (BitVec.ofInt 64 x ||| BitVec.ofInt 64 y).sshiftRight n = _ ∨ _
    rw [BitVec.sshiftRight_or_distrib]
    rcases vx with a | a <;> rcases vy with b | b <;> rw [a, b]
    · left; decide
    · right; decide
    · right; decide
    · right; decide
  · show (BitVec.ofInt 64 x ^^^ BitVec.ofInt 64 y).sshiftRight n = _ ∨ _
    rw [BitVec.sshiftRight_xor_distrib]
    rcases vx with a | a <;> rcases vy with b | b <;> rw [a, b]
    · left; decide
    · right; decide
    · right; decide
    · left; decide
end Go.Proofs.YtockkidbncpdlaaGreatDoor
