/- The reference's Do at each of its ops, by its text. -/
import Derived.Test.YtcmmdeenkfeofaaDoorDoNames
namespace Go.Proofs.YtcmmdeenkfeofaaDoor
set_option linter.unusedVariables false
set_option linter.unusedSimpArgs false
open Go.RowKit

theorem ref_add (a b : Int) (w : World) (h0 : 0 ≤ a) (h1 : a < 4294967296) (h2 : 0 ≤ b) (h3 : b < 4294967296) :
    Calls Tryd.prog 10 #[.string nm_add, .int .u32 a, .int .u32 b] w fun e w' => e = .returned (.tuple #[.int .u32 ((a + b) % 4294967296), .bool true]) ∧ w = w' := by
  have e31 := and31 b h2 h3
  have emin : min (b % 32).toNat 32 = (b % 32).toNat := by omega
  have b0 : 0 ≤ b % 32 := by omega
  have b1 : b % 32 < 32 := by omega
  unfold nm_add
  go_enter Tryd.func10, Tryd.ntmps10
  go_wp2
  go_ret2
  exact ⟨rfl, rfl⟩
theorem ref_sub (a b : Int) (w : World) (h0 : 0 ≤ a) (h1 : a < 4294967296) (h2 : 0 ≤ b) (h3 : b < 4294967296) :
    Calls Tryd.prog 10 #[.string nm_sub, .int .u32 a, .int .u32 b] w fun e w' => e = .returned (.tuple #[.int .u32 ((a - b) % 4294967296), .bool true]) ∧ w = w' := by
  have e31 := and31 b h2 h3
  have emin : min (b % 32).toNat 32 = (b % 32).toNat := by omega
  have b0 : 0 ≤ b % 32 := by omega
  have b1 : b % 32 < 32 := by omega
  unfold nm_sub
  go_enter Tryd.func10, Tryd.ntmps10
  go_wp2
  go_ret2
  exact ⟨rfl, rfl⟩
theorem ref_mul (a b : Int) (w : World) (h0 : 0 ≤ a) (h1 : a < 4294967296) (h2 : 0 ≤ b) (h3 : b < 4294967296) :
    Calls Tryd.prog 10 #[.string nm_mul, .int .u32 a, .int .u32 b] w fun e w' => e = .returned (.tuple #[.int .u32 (a * b % 4294967296), .bool true]) ∧ w = w' := by
  have e31 := and31 b h2 h3
  have emin : min (b % 32).toNat 32 = (b % 32).toNat := by omega
  have b0 : 0 ≤ b % 32 := by omega
  have b1 : b % 32 < 32 := by omega
  unfold nm_mul
  go_enter Tryd.func10, Tryd.ntmps10
  go_wp2
  go_ret2
  exact ⟨rfl, rfl⟩
theorem ref_and (a b : Int) (w : World) (h0 : 0 ≤ a) (h1 : a < 4294967296) (h2 : 0 ≤ b) (h3 : b < 4294967296) :
    Calls Tryd.prog 10 #[.string nm_and, .int .u32 a, .int .u32 b] w fun e w' => e = .returned (.tuple #[.int .u32 (bits .and .u32 a b), .bool true]) ∧ w = w' := by
  have e31 := and31 b h2 h3
  have emin : min (b % 32).toNat 32 = (b % 32).toNat := by omega
  have b0 : 0 ≤ b % 32 := by omega
  have b1 : b % 32 < 32 := by omega
  unfold nm_and
  go_enter Tryd.func10, Tryd.ntmps10
  go_wp2
  go_ret2
  exact ⟨rfl, rfl⟩
theorem ref_or (a b : Int) (w : World) (h0 : 0 ≤ a) (h1 : a < 4294967296) (h2 : 0 ≤ b) (h3 : b < 4294967296) :
    Calls Tryd.prog 10 #[.string nm_or, .int .u32 a, .int .u32 b] w fun e w' => e = .returned (.tuple #[.int .u32 (bits .or .u32 a b), .bool true]) ∧ w = w' := by
  have e31 := and31 b h2 h3
  have emin : min (b % 32).toNat 32 = (b % 32).toNat := by omega
  have b0 : 0 ≤ b % 32 := by omega
  have b1 : b % 32 < 32 := by omega
  unfold nm_or
  go_enter Tryd.func10, Tryd.ntmps10
  go_wp2
  go_ret2
  exact ⟨rfl, rfl⟩
theorem ref_xor (a b : Int) (w : World) (h0 : 0 ≤ a) (h1 : a < 4294967296) (h2 : 0 ≤ b) (h3 : b < 4294967296) :
    Calls Tryd.prog 10 #[.string nm_xor, .int .u32 a, .int .u32 b] w fun e w' => e = .returned (.tuple #[.int .u32 (bits .xor .u32 a b), .bool true]) ∧ w = w' := by
  have e31 := and31 b h2 h3
  have emin : min (b % 32).toNat 32 = (b % 32).toNat := by omega
  have b0 : 0 ≤ b % 32 := by omega
  have b1 : b % 32 < 32 := by omega
  unfold nm_xor
  go_enter Tryd.func10, Tryd.ntmps10
  go_wp2
  go_ret2
  exact ⟨rfl, rfl⟩
theorem ref_sll (a b : Int) (w : World) (h0 : 0 ≤ a) (h1 : a < 4294967296) (h2 : 0 ≤ b) (h3 : b < 4294967296) :
    Calls Tryd.prog 10 #[.string nm_sll, .int .u32 a, .int .u32 b] w fun e w' => e = .returned (.tuple #[.int .u32 (a * 2 ^ (b % 32).toNat % 4294967296), .bool true]) ∧ w = w' := by
  have e31 := and31 b h2 h3
  have emin : min (b % 32).toNat 32 = (b % 32).toNat := by omega
  have b0 : 0 ≤ b % 32 := by omega
  have b1 : b % 32 < 32 := by omega
  unfold nm_sll
  go_enter Tryd.func10, Tryd.ntmps10
  go_wp2
  go_ret2
  exact ⟨rfl, rfl⟩
theorem ref_srl (a b : Int) (w : World) (h0 : 0 ≤ a) (h1 : a < 4294967296) (h2 : 0 ≤ b) (h3 : b < 4294967296) :
    Calls Tryd.prog 10 #[.string nm_srl, .int .u32 a, .int .u32 b] w fun e w' => e = .returned (.tuple #[.int .u32 (a / 2 ^ (b % 32).toNat), .bool true]) ∧ w = w' := by
  have e31 := and31 b h2 h3
  have emin : min (b % 32).toNat 32 = (b % 32).toNat := by omega
  have b0 : 0 ≤ b % 32 := by omega
  have b1 : b % 32 < 32 := by omega
  unfold nm_srl
  go_enter Tryd.func10, Tryd.ntmps10
  go_wp2
  go_ret2
  exact ⟨rfl, rfl⟩
theorem ref_sra (a b : Int) (w : World) (h0 : 0 ≤ a) (h1 : a < 4294967296) (h2 : 0 ≤ b) (h3 : b < 4294967296) :
    Calls Tryd.prog 10 #[.string nm_sra, .int .u32 a, .int .u32 b] w fun e w' => e = .returned (.tuple #[.int .u32 (wrap32 a / 2 ^ (b % 32).toNat % 4294967296), .bool true]) ∧ w = w' := by
  have e31 := and31 b h2 h3
  have emin : min (b % 32).toNat 32 = (b % 32).toNat := by omega
  have b0 : 0 ≤ b % 32 := by omega
  have b1 : b % 32 < 32 := by omega
  unfold nm_sra
  go_enter Tryd.func10, Tryd.ntmps10
  go_wp2
  go_ret2
  exact ⟨rfl, rfl⟩
theorem ref_slt (a b : Int) (w : World) (h0 : 0 ≤ a) (h1 : a < 4294967296) (h2 : 0 ≤ b) (h3 : b < 4294967296) :
    Calls Tryd.prog 10 #[.string nm_slt, .int .u32 a, .int .u32 b] w fun e w' => e = .returned (.tuple #[.int .u32 (if wrap32 a < wrap32 b then 1 else 0), .bool true]) ∧ w = w' := by
  have e31 := and31 b h2 h3
  have emin : min (b % 32).toNat 32 = (b % 32).toNat := by omega
  have b0 : 0 ≤ b % 32 := by omega
  have b1 : b % 32 < 32 := by omega
  by_cases hc : wrap32 a < wrap32 b
  · rw [if_pos hc]
    unfold nm_slt
    go_enter Tryd.func10, Tryd.ntmps10
    go_wp2
    go_ret2
    exact ⟨rfl, rfl⟩
  · rw [if_neg hc]
    unfold nm_slt
    go_enter Tryd.func10, Tryd.ntmps10
    go_wp2
    go_ret2
    exact ⟨rfl, rfl⟩
theorem ref_sltu (a b : Int) (w : World) (h0 : 0 ≤ a) (h1 : a < 4294967296) (h2 : 0 ≤ b) (h3 : b < 4294967296) :
    Calls Tryd.prog 10 #[.string nm_sltu, .int .u32 a, .int .u32 b] w fun e w' => e = .returned (.tuple #[.int .u32 (if a < b then 1 else 0), .bool true]) ∧ w = w' := by
  have e31 := and31 b h2 h3
  have emin : min (b % 32).toNat 32 = (b % 32).toNat := by omega
  have b0 : 0 ≤ b % 32 := by omega
  have b1 : b % 32 < 32 := by omega
  by_cases hc : a < b
  · rw [if_pos hc]
    unfold nm_sltu
    go_enter Tryd.func10, Tryd.ntmps10
    go_wp2
    go_ret2
    exact ⟨rfl, rfl⟩
  · rw [if_neg hc]
    unfold nm_sltu
    go_enter Tryd.func10, Tryd.ntmps10
    go_wp2
    go_ret2
    exact ⟨rfl, rfl⟩
theorem ref_divu (a b : Int) (w : World) (h0 : 0 ≤ a) (h1 : a < 4294967296) (h2 : 0 ≤ b) (h3 : b < 4294967296) :
    Calls Tryd.prog 10 #[.string nm_divu, .int .u32 a, .int .u32 b] w fun e w' => e = .returned (.tuple #[.int .u32 (quoU a b), .bool true]) ∧ w = w' := by
  have e31 := and31 b h2 h3
  have emin : min (b % 32).toNat 32 = (b % 32).toNat := by omega
  have b0 : 0 ≤ b % 32 := by omega
  have b1 : b % 32 < 32 := by omega
  by_cases hc : b = 0
  · have hv : quoU a b = 4294967295 := if_pos hc
    rw [hv]
    subst hc
    clear e31 emin b0 b1 hv
    unfold nm_divu
    go_enter Tryd.func10, Tryd.ntmps10
    go_wp2
    go_ret2
    exact ⟨rfl, rfl⟩
  · have hv : quoU a b = a / b := if_neg hc
    rw [hv]
    have h4 : 1 ≤ b := by omega
    have hb' : (b == 0) = false := by simp [hc]
    unfold nm_divu
    go_enter Tryd.func10, Tryd.ntmps10
    go_wp2
    go_ret2
    exact ⟨rfl, rfl⟩
theorem ref_remu (a b : Int) (w : World) (h0 : 0 ≤ a) (h1 : a < 4294967296) (h2 : 0 ≤ b) (h3 : b < 4294967296) :
    Calls Tryd.prog 10 #[.string nm_remu, .int .u32 a, .int .u32 b] w fun e w' => e = .returned (.tuple #[.int .u32 (remU a b), .bool true]) ∧ w = w' := by
  have e31 := and31 b h2 h3
  have emin : min (b % 32).toNat 32 = (b % 32).toNat := by omega
  have b0 : 0 ≤ b % 32 := by omega
  have b1 : b % 32 < 32 := by omega
  by_cases hc : b = 0
  · have hv : remU a b = a := if_pos hc
    rw [hv]
    subst hc
    clear e31 emin b0 b1 hv
    unfold nm_remu
    go_enter Tryd.func10, Tryd.ntmps10
    go_wp2
    go_ret2
    exact ⟨rfl, rfl⟩
  · have hv : remU a b = a % b := if_neg hc
    rw [hv]
    have h4 : 1 ≤ b := by omega
    have hb' : (b == 0) = false := by simp [hc]
    unfold nm_remu
    go_enter Tryd.func10, Tryd.ntmps10
    go_wp2
    go_ret2
    exact ⟨rfl, rfl⟩
end Go.Proofs.YtcmmdeenkfeofaaDoor
