/- word.Do at each of its ops, by its text. -/
import Derived.Test.YtcmmdeenkfeofaaDoorDoNames
import Derived.Test.YtcmmdeenkfeofaaDoorSteps
namespace Go.Proofs.YtcmmdeenkfeofaaDoor
set_option linter.unusedVariables false
set_option linter.unusedSimpArgs false
open Go.RowKit

theorem do_add (a b : Int) (w : World) (h0 : 0 ≤ a) (h1 : a < 4294967296) (h2 : 0 ≤ b) (h3 : b < 4294967296) :
    Calls Tryd.prog 9 #[.string nm_add, .int .u32 a, .int .u32 b] w fun e w' => e = .returned (.tuple #[.int .u32 ((a + b) % 4294967296), .nilIface]) ∧ w = w' := by
  unfold nm_add
  go_enter Tryd.func9, Tryd.ntmps9
  repeat' (first
      | with_reducible refine then_normal ?_ | with_reducible refine then_exit ?_ | with_reducible refine then_ret ?_ | with_reducible refine in_normal ?_ | with_reducible refine in_ret ?_ | with_reducible refine in_hit ?_ | with_reducible refine in_miss rfl ?_
      | go_values | go_skip | go_guarded | go_step | go_upon | go_in | go_back | (simp only [Int.not_lt, Int.not_le] at *; go_simp))
  go_ret2
  exact ⟨rfl, rfl⟩
theorem do_sub (a b : Int) (w : World) (h0 : 0 ≤ a) (h1 : a < 4294967296) (h2 : 0 ≤ b) (h3 : b < 4294967296) :
    Calls Tryd.prog 9 #[.string nm_sub, .int .u32 a, .int .u32 b] w fun e w' => e = .returned (.tuple #[.int .u32 ((a - b) % 4294967296), .nilIface]) ∧ w = w' := by
  have he : (a + -b % 4294967296) % 4294967296 = (a - b) % 4294967296 := by omega
  unfold nm_sub
  go_enter Tryd.func9, Tryd.ntmps9
  repeat' (first
      | with_reducible refine then_normal ?_ | with_reducible refine then_exit ?_ | with_reducible refine then_ret ?_ | with_reducible refine in_normal ?_ | with_reducible refine in_ret ?_ | with_reducible refine in_hit ?_ | with_reducible refine in_miss rfl ?_
      | go_values | go_skip | go_guarded | go_step | go_upon | go_in | go_back | (simp only [Int.not_lt, Int.not_le] at *; go_simp))
  go_ret2
  exact ⟨by rw [he]; rfl, rfl⟩
theorem do_mul (a b : Int) (w : World) (h0 : 0 ≤ a) (h1 : a < 4294967296) (h2 : 0 ≤ b) (h3 : b < 4294967296) :
    Calls Tryd.prog 9 #[.string nm_mul, .int .u32 a, .int .u32 b] w fun e w' => e = .returned (.tuple #[.int .u32 (a * b % 4294967296), .nilIface]) ∧ w = w' := by
  unfold nm_mul
  go_enter Tryd.func9, Tryd.ntmps9
  repeat' (first
      | with_reducible refine then_normal ?_ | with_reducible refine then_exit ?_ | with_reducible refine then_ret ?_ | with_reducible refine in_normal ?_ | with_reducible refine in_ret ?_ | with_reducible refine in_hit ?_ | with_reducible refine in_miss rfl ?_
      | go_values | go_skip | go_guarded | go_step | go_upon | go_in | go_back | (simp only [Int.not_lt, Int.not_le] at *; go_simp))
  go_ret2
  exact ⟨rfl, rfl⟩
theorem do_and (a b : Int) (w : World) (h0 : 0 ≤ a) (h1 : a < 4294967296) (h2 : 0 ≤ b) (h3 : b < 4294967296) :
    Calls Tryd.prog 9 #[.string nm_and, .int .u32 a, .int .u32 b] w fun e w' => e = .returned (.tuple #[.int .u32 (bits .and .u32 a b), .nilIface]) ∧ w = w' := by
  unfold nm_and
  go_enter Tryd.func9, Tryd.ntmps9
  repeat' (first
      | with_reducible refine then_normal ?_ | with_reducible refine then_exit ?_ | with_reducible refine then_ret ?_ | with_reducible refine in_normal ?_ | with_reducible refine in_ret ?_ | with_reducible refine in_hit ?_ | with_reducible refine in_miss rfl ?_
      | go_values | go_skip | go_guarded | go_step | go_upon | go_in | go_back | (simp only [Int.not_lt, Int.not_le] at *; go_simp))
  go_ret2
  exact ⟨rfl, rfl⟩
theorem do_or (a b : Int) (w : World) (h0 : 0 ≤ a) (h1 : a < 4294967296) (h2 : 0 ≤ b) (h3 : b < 4294967296) :
    Calls Tryd.prog 9 #[.string nm_or, .int .u32 a, .int .u32 b] w fun e w' => e = .returned (.tuple #[.int .u32 (bits .or .u32 a b), .nilIface]) ∧ w = w' := by
  unfold nm_or
  go_enter Tryd.func9, Tryd.ntmps9
  repeat' (first
      | with_reducible refine then_normal ?_ | with_reducible refine then_exit ?_ | with_reducible refine then_ret ?_ | with_reducible refine in_normal ?_ | with_reducible refine in_ret ?_ | with_reducible refine in_hit ?_ | with_reducible refine in_miss rfl ?_
      | go_values | go_skip | go_guarded | go_step | go_upon | go_in | go_back | (simp only [Int.not_lt, Int.not_le] at *; go_simp))
  go_ret2
  exact ⟨rfl, rfl⟩
theorem do_xor (a b : Int) (w : World) (h0 : 0 ≤ a) (h1 : a < 4294967296) (h2 : 0 ≤ b) (h3 : b < 4294967296) :
    Calls Tryd.prog 9 #[.string nm_xor, .int .u32 a, .int .u32 b] w fun e w' => e = .returned (.tuple #[.int .u32 (bits .xor .u32 a b), .nilIface]) ∧ w = w' := by
  unfold nm_xor
  go_enter Tryd.func9, Tryd.ntmps9
  repeat' (first
      | with_reducible refine then_normal ?_ | with_reducible refine then_exit ?_ | with_reducible refine then_ret ?_ | with_reducible refine in_normal ?_ | with_reducible refine in_ret ?_ | with_reducible refine in_hit ?_ | with_reducible refine in_miss rfl ?_
      | go_values | go_skip | go_guarded | go_step | go_upon | go_in | go_back | (simp only [Int.not_lt, Int.not_le] at *; go_simp))
  go_ret2
  exact ⟨rfl, rfl⟩
theorem do_sll (a b : Int) (w : World) (h0 : 0 ≤ a) (h1 : a < 4294967296) (h2 : 0 ≤ b) (h3 : b < 4294967296) :
    Calls Tryd.prog 9 #[.string nm_sll, .int .u32 a, .int .u32 b] w fun e w' => e = .returned (.tuple #[.int .u32 (a * 2 ^ (b % 32).toNat % 4294967296), .nilIface]) ∧ w = w' := by
  unfold nm_sll
  go_enter Tryd.func9, Tryd.ntmps9
  repeat' (first
      | with_reducible refine then_normal ?_ | with_reducible refine then_exit ?_ | with_reducible refine then_ret ?_ | with_reducible refine in_normal ?_ | with_reducible refine in_ret ?_ | with_reducible refine in_hit ?_ | with_reducible refine in_miss rfl ?_
      | go_values | go_skip | go_guarded | go_step | go_upon | go_in | go_back | (simp only [Int.not_lt, Int.not_le] at *; go_simp))
  go_ret2
  exact ⟨rfl, rfl⟩
theorem do_srl (a b : Int) (w : World) (h0 : 0 ≤ a) (h1 : a < 4294967296) (h2 : 0 ≤ b) (h3 : b < 4294967296) :
    Calls Tryd.prog 9 #[.string nm_srl, .int .u32 a, .int .u32 b] w fun e w' => e = .returned (.tuple #[.int .u32 (a / 2 ^ (b % 32).toNat), .nilIface]) ∧ w = w' := by
  unfold nm_srl
  go_enter Tryd.func9, Tryd.ntmps9
  repeat' (first
      | with_reducible refine then_normal ?_ | with_reducible refine then_exit ?_ | with_reducible refine then_ret ?_ | with_reducible refine in_normal ?_ | with_reducible refine in_ret ?_ | with_reducible refine in_hit ?_ | with_reducible refine in_miss rfl ?_
      | go_values | go_skip | go_guarded | go_step | go_upon | go_in | go_back | (simp only [Int.not_lt, Int.not_le] at *; go_simp))
  go_ret2
  exact ⟨rfl, rfl⟩
theorem do_sra (a b : Int) (w : World) (h0 : 0 ≤ a) (h1 : a < 4294967296) (h2 : 0 ≤ b) (h3 : b < 4294967296) :
    Calls Tryd.prog 9 #[.string nm_sra, .int .u32 a, .int .u32 b] w fun e w' => e = .returned (.tuple #[.int .u32 (wrap32 a / 2 ^ (b % 32).toNat % 4294967296), .nilIface]) ∧ w = w' := by
  unfold nm_sra
  go_enter Tryd.func9, Tryd.ntmps9
  repeat' (first
      | with_reducible refine then_normal ?_ | with_reducible refine then_exit ?_ | with_reducible refine then_ret ?_ | with_reducible refine in_normal ?_ | with_reducible refine in_ret ?_ | with_reducible refine in_hit ?_ | with_reducible refine in_miss rfl ?_
      | go_values | go_skip | go_guarded | go_step | go_upon | go_in | go_back | (simp only [Int.not_lt, Int.not_le] at *; go_simp))
  go_ret2
  exact ⟨rfl, rfl⟩
theorem do_slt (a b : Int) (w : World) (h0 : 0 ≤ a) (h1 : a < 4294967296) (h2 : 0 ≤ b) (h3 : b < 4294967296) :
    Calls Tryd.prog 9 #[.string nm_slt, .int .u32 a, .int .u32 b] w fun e w' => e = .returned (.tuple #[.int .u32 (if wrap32 a < wrap32 b then 1 else 0), .nilIface]) ∧ w = w' := by
  by_cases hc : wrap32 a < wrap32 b
  · rw [if_pos hc]
    have hd : decide ((a + 2147483648) % 4294967296 < (b + 2147483648) % 4294967296) = true := decide_eq_true ((raisedLt a b h0 h1 h2 h3).2 hc)
    clear hc
    unfold nm_slt
    go_enter Tryd.func9, Tryd.ntmps9
    repeat' (first
      | (go_at_call 18; refine (raised_any _ _ (by omega) (by omega)).mono ?_; rintro e w' ⟨rfl, rfl⟩)
      | (go_at_call 19; refine (bit_any _ _).mono ?_; rintro e w' ⟨rfl, rfl⟩)
      | (go_at_call 20; refine (quotient_any _ _ _ (by omega) (by omega) (by omega) (by omega)).mono ?_; rintro e w' ⟨rfl, rfl⟩)
      | (go_at_call 21; refine (remainder_any _ _ _ (by omega) (by omega) (by omega) (by omega)).mono ?_; rintro e w' ⟨rfl, rfl⟩)
      | with_reducible refine then_normal ?_ | with_reducible refine then_exit ?_ | with_reducible refine then_ret ?_ | with_reducible refine in_normal ?_ | with_reducible refine in_ret ?_ | with_reducible refine in_hit ?_ | with_reducible refine in_miss rfl ?_
      | go_values | go_skip | go_guarded | go_step | go_upon | go_back | (simp only [Int.not_lt, Int.not_le] at *; go_simp))
    go_ret2
    exact ⟨rfl, rfl⟩
  · rw [if_neg hc]
    have hd : decide ((a + 2147483648) % 4294967296 < (b + 2147483648) % 4294967296) = false := decide_eq_false (fun h => hc ((raisedLt a b h0 h1 h2 h3).1 h))
    clear hc
    unfold nm_slt
    go_enter Tryd.func9, Tryd.ntmps9
    repeat' (first
      | (go_at_call 18; refine (raised_any _ _ (by omega) (by omega)).mono ?_; rintro e w' ⟨rfl, rfl⟩)
      | (go_at_call 19; refine (bit_any _ _).mono ?_; rintro e w' ⟨rfl, rfl⟩)
      | (go_at_call 20; refine (quotient_any _ _ _ (by omega) (by omega) (by omega) (by omega)).mono ?_; rintro e w' ⟨rfl, rfl⟩)
      | (go_at_call 21; refine (remainder_any _ _ _ (by omega) (by omega) (by omega) (by omega)).mono ?_; rintro e w' ⟨rfl, rfl⟩)
      | with_reducible refine then_normal ?_ | with_reducible refine then_exit ?_ | with_reducible refine then_ret ?_ | with_reducible refine in_normal ?_ | with_reducible refine in_ret ?_ | with_reducible refine in_hit ?_ | with_reducible refine in_miss rfl ?_
      | go_values | go_skip | go_guarded | go_step | go_upon | go_back | (simp only [Int.not_lt, Int.not_le] at *; go_simp))
    go_ret2
    exact ⟨rfl, rfl⟩
theorem do_sltu (a b : Int) (w : World) (h0 : 0 ≤ a) (h1 : a < 4294967296) (h2 : 0 ≤ b) (h3 : b < 4294967296) :
    Calls Tryd.prog 9 #[.string nm_sltu, .int .u32 a, .int .u32 b] w fun e w' => e = .returned (.tuple #[.int .u32 (if a < b then 1 else 0), .nilIface]) ∧ w = w' := by
  by_cases hc : a < b
  · rw [if_pos hc]
    have hd : decide (a < b) = true := decide_eq_true (hc)
    clear hc
    unfold nm_sltu
    go_enter Tryd.func9, Tryd.ntmps9
    repeat' (first
      | (go_at_call 18; refine (raised_any _ _ (by omega) (by omega)).mono ?_; rintro e w' ⟨rfl, rfl⟩)
      | (go_at_call 19; refine (bit_any _ _).mono ?_; rintro e w' ⟨rfl, rfl⟩)
      | (go_at_call 20; refine (quotient_any _ _ _ (by omega) (by omega) (by omega) (by omega)).mono ?_; rintro e w' ⟨rfl, rfl⟩)
      | (go_at_call 21; refine (remainder_any _ _ _ (by omega) (by omega) (by omega) (by omega)).mono ?_; rintro e w' ⟨rfl, rfl⟩)
      | with_reducible refine then_normal ?_ | with_reducible refine then_exit ?_ | with_reducible refine then_ret ?_ | with_reducible refine in_normal ?_ | with_reducible refine in_ret ?_ | with_reducible refine in_hit ?_ | with_reducible refine in_miss rfl ?_
      | go_values | go_skip | go_guarded | go_step | go_upon | go_back | (simp only [Int.not_lt, Int.not_le] at *; go_simp))
    go_ret2
    exact ⟨rfl, rfl⟩
  · rw [if_neg hc]
    have hd : decide (a < b) = false := decide_eq_false (hc)
    clear hc
    unfold nm_sltu
    go_enter Tryd.func9, Tryd.ntmps9
    repeat' (first
      | (go_at_call 18; refine (raised_any _ _ (by omega) (by omega)).mono ?_; rintro e w' ⟨rfl, rfl⟩)
      | (go_at_call 19; refine (bit_any _ _).mono ?_; rintro e w' ⟨rfl, rfl⟩)
      | (go_at_call 20; refine (quotient_any _ _ _ (by omega) (by omega) (by omega) (by omega)).mono ?_; rintro e w' ⟨rfl, rfl⟩)
      | (go_at_call 21; refine (remainder_any _ _ _ (by omega) (by omega) (by omega) (by omega)).mono ?_; rintro e w' ⟨rfl, rfl⟩)
      | with_reducible refine then_normal ?_ | with_reducible refine then_exit ?_ | with_reducible refine then_ret ?_ | with_reducible refine in_normal ?_ | with_reducible refine in_ret ?_ | with_reducible refine in_hit ?_ | with_reducible refine in_miss rfl ?_
      | go_values | go_skip | go_guarded | go_step | go_upon | go_back | (simp only [Int.not_lt, Int.not_le] at *; go_simp))
    go_ret2
    exact ⟨rfl, rfl⟩
theorem do_divu (a b : Int) (w : World) (h0 : 0 ≤ a) (h1 : a < 4294967296) (h2 : 0 ≤ b) (h3 : b < 4294967296) :
    Calls Tryd.prog 9 #[.string nm_divu, .int .u32 a, .int .u32 b] w fun e w' => e = .returned (.tuple #[.int .u32 (quoU a b), .nilIface]) ∧ w = w' := by
  unfold nm_divu
  go_enter Tryd.func9, Tryd.ntmps9
  repeat' (first
      | (go_at_call 18; refine (raised_any _ _ (by omega) (by omega)).mono ?_; rintro e w' ⟨rfl, rfl⟩)
      | (go_at_call 19; refine (bit_any _ _).mono ?_; rintro e w' ⟨rfl, rfl⟩)
      | (go_at_call 20; refine (quotient_any _ _ _ (by omega) (by omega) (by omega) (by omega)).mono ?_; rintro e w' ⟨rfl, rfl⟩)
      | (go_at_call 21; refine (remainder_any _ _ _ (by omega) (by omega) (by omega) (by omega)).mono ?_; rintro e w' ⟨rfl, rfl⟩)
      | with_reducible refine then_normal ?_ | with_reducible refine then_exit ?_ | with_reducible refine then_ret ?_ | with_reducible refine in_normal ?_ | with_reducible refine in_ret ?_ | with_reducible refine in_hit ?_ | with_reducible refine in_miss rfl ?_
      | go_values | go_skip | go_guarded | go_step | go_upon | go_back | (simp only [Int.not_lt, Int.not_le] at *; go_simp))
  go_ret2
  exact ⟨rfl, rfl⟩
theorem do_remu (a b : Int) (w : World) (h0 : 0 ≤ a) (h1 : a < 4294967296) (h2 : 0 ≤ b) (h3 : b < 4294967296) :
    Calls Tryd.prog 9 #[.string nm_remu, .int .u32 a, .int .u32 b] w fun e w' => e = .returned (.tuple #[.int .u32 (remU a b), .nilIface]) ∧ w = w' := by
  unfold nm_remu
  go_enter Tryd.func9, Tryd.ntmps9
  repeat' (first
      | (go_at_call 18; refine (raised_any _ _ (by omega) (by omega)).mono ?_; rintro e w' ⟨rfl, rfl⟩)
      | (go_at_call 19; refine (bit_any _ _).mono ?_; rintro e w' ⟨rfl, rfl⟩)
      | (go_at_call 20; refine (quotient_any _ _ _ (by omega) (by omega) (by omega) (by omega)).mono ?_; rintro e w' ⟨rfl, rfl⟩)
      | (go_at_call 21; refine (remainder_any _ _ _ (by omega) (by omega) (by omega) (by omega)).mono ?_; rintro e w' ⟨rfl, rfl⟩)
      | with_reducible refine then_normal ?_ | with_reducible refine then_exit ?_ | with_reducible refine then_ret ?_ | with_reducible refine in_normal ?_ | with_reducible refine in_ret ?_ | with_reducible refine in_hit ?_ | with_reducible refine in_miss rfl ?_
      | go_values | go_skip | go_guarded | go_step | go_upon | go_back | (simp only [Int.not_lt, Int.not_le] at *; go_simp))
  go_ret2
  exact ⟨rfl, rfl⟩
end Go.Proofs.YtcmmdeenkfeofaaDoor
