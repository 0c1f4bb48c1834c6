/- The program's levelOf: the level of a sign, where it is not weaker than asked. -/
import Derived.Test.YtockkidbncpdlaaDoorEvClimb
import Derived.Test.YtockkidbncpdlaaDoorSteps
import Derived.WalkKit
namespace Go.Proofs.YtockkidbncpdlaaDoor
set_option linter.unusedVariables false
set_option linter.unusedSimpArgs false
open Go.RowKit
theorem str_no (s : ByteArray) (l : List UInt8) (h : ¬ s = ⟨l.toArray⟩) : (s.toList == l) = false := by
  rw [beq_eq_false_iff_ne]
  intro e
  apply h
  apply ByteArray.ext
  rw [← e, ByteArray.toList_eq]
theorem plev_sBar_1 (w : World) : Calls Tryd.prog 29 #[.string ⟨#[124]⟩, .int .i64 1] w fun x w' => x = .returned (.int .i64 1) ∧ w = w' := by
  go_enter Tryd.func29, Tryd.ntmps29
  repeat' (first
      | with_reducible refine then_normal ?_ | with_reducible refine then_exit ?_ | with_reducible refine then_ret ?_ | with_reducible refine in_normal ?_ | with_reducible refine in_ret ?_ | with_reducible refine in_hit ?_ | with_reducible refine in_miss rfl ?_
      | go_values | go_skip | go_guarded | go_step | go_upon | go_back | (simp only [Int.not_lt, Int.not_le] at *; go_simp))
  go_ret
  exact ⟨rfl, rfl⟩
theorem plev_sBar_2 (w : World) : Calls Tryd.prog 29 #[.string ⟨#[124]⟩, .int .i64 2] w fun x w' => x = .returned (.int .i64 0) ∧ w = w' := by
  go_enter Tryd.func29, Tryd.ntmps29
  repeat' (first
      | with_reducible refine then_normal ?_ | with_reducible refine then_exit ?_ | with_reducible refine then_ret ?_ | with_reducible refine in_normal ?_ | with_reducible refine in_ret ?_ | with_reducible refine in_hit ?_ | with_reducible refine in_miss rfl ?_
      | go_values | go_skip | go_guarded | go_step | go_upon | go_back | (simp only [Int.not_lt, Int.not_le] at *; go_simp))
  go_ret
  exact ⟨rfl, rfl⟩
theorem plev_sBar_3 (w : World) : Calls Tryd.prog 29 #[.string ⟨#[124]⟩, .int .i64 3] w fun x w' => x = .returned (.int .i64 0) ∧ w = w' := by
  go_enter Tryd.func29, Tryd.ntmps29
  repeat' (first
      | with_reducible refine then_normal ?_ | with_reducible refine then_exit ?_ | with_reducible refine then_ret ?_ | with_reducible refine in_normal ?_ | with_reducible refine in_ret ?_ | with_reducible refine in_hit ?_ | with_reducible refine in_miss rfl ?_
      | go_values | go_skip | go_guarded | go_step | go_upon | go_back | (simp only [Int.not_lt, Int.not_le] at *; go_simp))
  go_ret
  exact ⟨rfl, rfl⟩
theorem plev_sBar_4 (w : World) : Calls Tryd.prog 29 #[.string ⟨#[124]⟩, .int .i64 4] w fun x w' => x = .returned (.int .i64 0) ∧ w = w' := by
  go_enter Tryd.func29, Tryd.ntmps29
  repeat' (first
      | with_reducible refine then_normal ?_ | with_reducible refine then_exit ?_ | with_reducible refine then_ret ?_ | with_reducible refine in_normal ?_ | with_reducible refine in_ret ?_ | with_reducible refine in_hit ?_ | with_reducible refine in_miss rfl ?_
      | go_values | go_skip | go_guarded | go_step | go_upon | go_back | (simp only [Int.not_lt, Int.not_le] at *; go_simp))
  go_ret
  exact ⟨rfl, rfl⟩
theorem plev_sBar_5 (w : World) : Calls Tryd.prog 29 #[.string ⟨#[124]⟩, .int .i64 5] w fun x w' => x = .returned (.int .i64 0) ∧ w = w' := by
  go_enter Tryd.func29, Tryd.ntmps29
  repeat' (first
      | with_reducible refine then_normal ?_ | with_reducible refine then_exit ?_ | with_reducible refine then_ret ?_ | with_reducible refine in_normal ?_ | with_reducible refine in_ret ?_ | with_reducible refine in_hit ?_ | with_reducible refine in_miss rfl ?_
      | go_values | go_skip | go_guarded | go_step | go_upon | go_back | (simp only [Int.not_lt, Int.not_le] at *; go_simp))
  go_ret
  exact ⟨rfl, rfl⟩
theorem plev_sBar_6 (w : World) : Calls Tryd.prog 29 #[.string ⟨#[124]⟩, .int .i64 6] w fun x w' => x = .returned (.int .i64 0) ∧ w = w' := by
  go_enter Tryd.func29, Tryd.ntmps29
  repeat' (first
      | with_reducible refine then_normal ?_ | with_reducible refine then_exit ?_ | with_reducible refine then_ret ?_ | with_reducible refine in_normal ?_ | with_reducible refine in_ret ?_ | with_reducible refine in_hit ?_ | with_reducible refine in_miss rfl ?_
      | go_values | go_skip | go_guarded | go_step | go_upon | go_back | (simp only [Int.not_lt, Int.not_le] at *; go_simp))
  go_ret
  exact ⟨rfl, rfl⟩
theorem plev_sBar_7 (w : World) : Calls Tryd.prog 29 #[.string ⟨#[124]⟩, .int .i64 7] w fun x w' => x = .returned (.int .i64 0) ∧ w = w' := by
  go_enter Tryd.func29, Tryd.ntmps29
  repeat' (first
      | with_reducible refine then_normal ?_ | with_reducible refine then_exit ?_ | with_reducible refine then_ret ?_ | with_reducible refine in_normal ?_ | with_reducible refine in_ret ?_ | with_reducible refine in_hit ?_ | with_reducible refine in_miss rfl ?_
      | go_values | go_skip | go_guarded | go_step | go_upon | go_back | (simp only [Int.not_lt, Int.not_le] at *; go_simp))
  go_ret
  exact ⟨rfl, rfl⟩
theorem plev_sHat_1 (w : World) : Calls Tryd.prog 29 #[.string ⟨#[94]⟩, .int .i64 1] w fun x w' => x = .returned (.int .i64 2) ∧ w = w' := by
  go_enter Tryd.func29, Tryd.ntmps29
  repeat' (first
      | with_reducible refine then_normal ?_ | with_reducible refine then_exit ?_ | with_reducible refine then_ret ?_ | with_reducible refine in_normal ?_ | with_reducible refine in_ret ?_ | with_reducible refine in_hit ?_ | with_reducible refine in_miss rfl ?_
      | go_values | go_skip | go_guarded | go_step | go_upon | go_back | (simp only [Int.not_lt, Int.not_le] at *; go_simp))
  go_ret
  exact ⟨rfl, rfl⟩
theorem plev_sHat_2 (w : World) : Calls Tryd.prog 29 #[.string ⟨#[94]⟩, .int .i64 2] w fun x w' => x = .returned (.int .i64 2) ∧ w = w' := by
  go_enter Tryd.func29, Tryd.ntmps29
  repeat' (first
      | with_reducible refine then_normal ?_ | with_reducible refine then_exit ?_ | with_reducible refine then_ret ?_ | with_reducible refine in_normal ?_ | with_reducible refine in_ret ?_ | with_reducible refine in_hit ?_ | with_reducible refine in_miss rfl ?_
      | go_values | go_skip | go_guarded | go_step | go_upon | go_back | (simp only [Int.not_lt, Int.not_le] at *; go_simp))
  go_ret
  exact ⟨rfl, rfl⟩
theorem plev_sHat_3 (w : World) : Calls Tryd.prog 29 #[.string ⟨#[94]⟩, .int .i64 3] w fun x w' => x = .returned (.int .i64 0) ∧ w = w' := by
  go_enter Tryd.func29, Tryd.ntmps29
  repeat' (first
      | with_reducible refine then_normal ?_ | with_reducible refine then_exit ?_ | with_reducible refine then_ret ?_ | with_reducible refine in_normal ?_ | with_reducible refine in_ret ?_ | with_reducible refine in_hit ?_ | with_reducible refine in_miss rfl ?_
      | go_values | go_skip | go_guarded | go_step | go_upon | go_back | (simp only [Int.not_lt, Int.not_le] at *; go_simp))
  go_ret
  exact ⟨rfl, rfl⟩
theorem plev_sHat_4 (w : World) : Calls Tryd.prog 29 #[.string ⟨#[94]⟩, .int .i64 4] w fun x w' => x = .returned (.int .i64 0) ∧ w = w' := by
  go_enter Tryd.func29, Tryd.ntmps29
  repeat' (first
      | with_reducible refine then_normal ?_ | with_reducible refine then_exit ?_ | with_reducible refine then_ret ?_ | with_reducible refine in_normal ?_ | with_reducible refine in_ret ?_ | with_reducible refine in_hit ?_ | with_reducible refine in_miss rfl ?_
      | go_values | go_skip | go_guarded | go_step | go_upon | go_back | (simp only [Int.not_lt, Int.not_le] at *; go_simp))
  go_ret
  exact ⟨rfl, rfl⟩
theorem plev_sHat_5 (w : World) : Calls Tryd.prog 29 #[.string ⟨#[94]⟩, .int .i64 5] w fun x w' => x = .returned (.int .i64 0) ∧ w = w' := by
  go_enter Tryd.func29, Tryd.ntmps29
  repeat' (first
      | with_reducible refine then_normal ?_ | with_reducible refine then_exit ?_ | with_reducible refine then_ret ?_ | with_reducible refine in_normal ?_ | with_reducible refine in_ret ?_ | with_reducible refine in_hit ?_ | with_reducible refine in_miss rfl ?_
      | go_values | go_skip | go_guarded | go_step | go_upon | go_back | (simp only [Int.not_lt, Int.not_le] at *; go_simp))
  go_ret
  exact ⟨rfl, rfl⟩
theorem plev_sHat_6 (w : World) : Calls Tryd.prog 29 #[.string ⟨#[94]⟩, .int .i64 6] w fun x w' => x = .returned (.int .i64 0) ∧ w = w' := by
  go_enter Tryd.func29, Tryd.ntmps29
  repeat' (first
      | with_reducible refine then_normal ?_ | with_reducible refine then_exit ?_ | with_reducible refine then_ret ?_ | with_reducible refine in_normal ?_ | with_reducible refine in_ret ?_ | with_reducible refine in_hit ?_ | with_reducible refine in_miss rfl ?_
      | go_values | go_skip | go_guarded | go_step | go_upon | go_back | (simp only [Int.not_lt, Int.not_le] at *; go_simp))
  go_ret
  exact ⟨rfl, rfl⟩
theorem plev_sHat_7 (w : World) : Calls Tryd.prog 29 #[.string ⟨#[94]⟩, .int .i64 7] w fun x w' => x = .returned (.int .i64 0) ∧ w = w' := by
  go_enter Tryd.func29, Tryd.ntmps29
  repeat' (first
      | with_reducible refine then_normal ?_ | with_reducible refine then_exit ?_ | with_reducible refine then_ret ?_ | with_reducible refine in_normal ?_ | with_reducible refine in_ret ?_ | with_reducible refine in_hit ?_ | with_reducible refine in_miss rfl ?_
      | go_values | go_skip | go_guarded | go_step | go_upon | go_back | (simp only [Int.not_lt, Int.not_le] at *; go_simp))
  go_ret
  exact ⟨rfl, rfl⟩
theorem plev_sAmp_1 (w : World) : Calls Tryd.prog 29 #[.string ⟨#[38]⟩, .int .i64 1] w fun x w' => x = .returned (.int .i64 3) ∧ w = w' := by
  go_enter Tryd.func29, Tryd.ntmps29
  repeat' (first
      | with_reducible refine then_normal ?_ | with_reducible refine then_exit ?_ | with_reducible refine then_ret ?_ | with_reducible refine in_normal ?_ | with_reducible refine in_ret ?_ | with_reducible refine in_hit ?_ | with_reducible refine in_miss rfl ?_
      | go_values | go_skip | go_guarded | go_step | go_upon | go_back | (simp only [Int.not_lt, Int.not_le] at *; go_simp))
  go_ret
  exact ⟨rfl, rfl⟩
theorem plev_sAmp_2 (w : World) : Calls Tryd.prog 29 #[.string ⟨#[38]⟩, .int .i64 2] w fun x w' => x = .returned (.int .i64 3) ∧ w = w' := by
  go_enter Tryd.func29, Tryd.ntmps29
  repeat' (first
      | with_reducible refine then_normal ?_ | with_reducible refine then_exit ?_ | with_reducible refine then_ret ?_ | with_reducible refine in_normal ?_ | with_reducible refine in_ret ?_ | with_reducible refine in_hit ?_ | with_reducible refine in_miss rfl ?_
      | go_values | go_skip | go_guarded | go_step | go_upon | go_back | (simp only [Int.not_lt, Int.not_le] at *; go_simp))
  go_ret
  exact ⟨rfl, rfl⟩
theorem plev_sAmp_3 (w : World) : Calls Tryd.prog 29 #[.string ⟨#[38]⟩, .int .i64 3] w fun x w' => x = .returned (.int .i64 3) ∧ w = w' := by
  go_enter Tryd.func29, Tryd.ntmps29
  repeat' (first
      | with_reducible refine then_normal ?_ | with_reducible refine then_exit ?_ | with_reducible refine then_ret ?_ | with_reducible refine in_normal ?_ | with_reducible refine in_ret ?_ | with_reducible refine in_hit ?_ | with_reducible refine in_miss rfl ?_
      | go_values | go_skip | go_guarded | go_step | go_upon | go_back | (simp only [Int.not_lt, Int.not_le] at *; go_simp))
  go_ret
  exact ⟨rfl, rfl⟩
theorem plev_sAmp_4 (w : World) : Calls Tryd.prog 29 #[.string ⟨#[38]⟩, .int .i64 4] w fun x w' => x = .returned (.int .i64 0) ∧ w = w' := by
  go_enter Tryd.func29, Tryd.ntmps29
  repeat' (first
      | with_reducible refine then_normal ?_ | with_reducible refine then_exit ?_ | with_reducible refine then_ret ?_ | with_reducible refine in_normal ?_ | with_reducible refine in_ret ?_ | with_reducible refine in_hit ?_ | with_reducible refine in_miss rfl ?_
      | go_values | go_skip | go_guarded | go_step | go_upon | go_back | (simp only [Int.not_lt, Int.not_le] at *; go_simp))
  go_ret
  exact ⟨rfl, rfl⟩
theorem plev_sAmp_5 (w : World) : Calls Tryd.prog 29 #[.string ⟨#[38]⟩, .int .i64 5] w fun x w' => x = .returned (.int .i64 0) ∧ w = w' := by
  go_enter Tryd.func29, Tryd.ntmps29
  repeat' (first
      | with_reducible refine then_normal ?_ | with_reducible refine then_exit ?_ | with_reducible refine then_ret ?_ | with_reducible refine in_normal ?_ | with_reducible refine in_ret ?_ | with_reducible refine in_hit ?_ | with_reducible refine in_miss rfl ?_
      | go_values | go_skip | go_guarded | go_step | go_upon | go_back | (simp only [Int.not_lt, Int.not_le] at *; go_simp))
  go_ret
  exact ⟨rfl, rfl⟩
theorem plev_sAmp_6 (w : World) : Calls Tryd.prog 29 #[.string ⟨#[38]⟩, .int .i64 6] w fun x w' => x = .returned (.int .i64 0) ∧ w = w' := by
  go_enter Tryd.func29, Tryd.ntmps29
  repeat' (first
      | with_reducible refine then_normal ?_ | with_reducible refine then_exit ?_ | with_reducible refine then_ret ?_ | with_reducible refine in_normal ?_ | with_reducible refine in_ret ?_ | with_reducible refine in_hit ?_ | with_reducible refine in_miss rfl ?_
      | go_values | go_skip | go_guarded | go_step | go_upon | go_back | (simp only [Int.not_lt, Int.not_le] at *; go_simp))
  go_ret
  exact ⟨rfl, rfl⟩
theorem plev_sAmp_7 (w : World) : Calls Tryd.prog 29 #[.string ⟨#[38]⟩, .int .i64 7] w fun x w' => x = .returned (.int .i64 0) ∧ w = w' := by
  go_enter Tryd.func29, Tryd.ntmps29
  repeat' (first
      | with_reducible refine then_normal ?_ | with_reducible refine then_exit ?_ | with_reducible refine then_ret ?_ | with_reducible refine in_normal ?_ | with_reducible refine in_ret ?_ | with_reducible refine in_hit ?_ | with_reducible refine in_miss rfl ?_
      | go_values | go_skip | go_guarded | go_step | go_upon | go_back | (simp only [Int.not_lt, Int.not_le] at *; go_simp))
  go_ret
  exact ⟨rfl, rfl⟩
theorem plev_sShl_1 (w : World) : Calls Tryd.prog 29 #[.string ⟨#[60, 60]⟩, .int .i64 1] w fun x w' => x = .returned (.int .i64 4) ∧ w = w' := by
  go_enter Tryd.func29, Tryd.ntmps29
  repeat' (first
      | with_reducible refine then_normal ?_ | with_reducible refine then_exit ?_ | with_reducible refine then_ret ?_ | with_reducible refine in_normal ?_ | with_reducible refine in_ret ?_ | with_reducible refine in_hit ?_ | with_reducible refine in_miss rfl ?_
      | go_values | go_skip | go_guarded | go_step | go_upon | go_back | (simp only [Int.not_lt, Int.not_le] at *; go_simp))
  go_ret
  exact ⟨rfl, rfl⟩
theorem plev_sShl_2 (w : World) : Calls Tryd.prog 29 #[.string ⟨#[60, 60]⟩, .int .i64 2] w fun x w' => x = .returned (.int .i64 4) ∧ w = w' := by
  go_enter Tryd.func29, Tryd.ntmps29
  repeat' (first
      | with_reducible refine then_normal ?_ | with_reducible refine then_exit ?_ | with_reducible refine then_ret ?_ | with_reducible refine in_normal ?_ | with_reducible refine in_ret ?_ | with_reducible refine in_hit ?_ | with_reducible refine in_miss rfl ?_
      | go_values | go_skip | go_guarded | go_step | go_upon | go_back | (simp only [Int.not_lt, Int.not_le] at *; go_simp))
  go_ret
  exact ⟨rfl, rfl⟩
theorem plev_sShl_3 (w : World) : Calls Tryd.prog 29 #[.string ⟨#[60, 60]⟩, .int .i64 3] w fun x w' => x = .returned (.int .i64 4) ∧ w = w' := by
  go_enter Tryd.func29, Tryd.ntmps29
  repeat' (first
      | with_reducible refine then_normal ?_ | with_reducible refine then_exit ?_ | with_reducible refine then_ret ?_ | with_reducible refine in_normal ?_ | with_reducible refine in_ret ?_ | with_reducible refine in_hit ?_ | with_reducible refine in_miss rfl ?_
      | go_values | go_skip | go_guarded | go_step | go_upon | go_back | (simp only [Int.not_lt, Int.not_le] at *; go_simp))
  go_ret
  exact ⟨rfl, rfl⟩
theorem plev_sShl_4 (w : World) : Calls Tryd.prog 29 #[.string ⟨#[60, 60]⟩, .int .i64 4] w fun x w' => x = .returned (.int .i64 4) ∧ w = w' := by
  go_enter Tryd.func29, Tryd.ntmps29
  repeat' (first
      | with_reducible refine then_normal ?_ | with_reducible refine then_exit ?_ | with_reducible refine then_ret ?_ | with_reducible refine in_normal ?_ | with_reducible refine in_ret ?_ | with_reducible refine in_hit ?_ | with_reducible refine in_miss rfl ?_
      | go_values | go_skip | go_guarded | go_step | go_upon | go_back | (simp only [Int.not_lt, Int.not_le] at *; go_simp))
  go_ret
  exact ⟨rfl, rfl⟩
theorem plev_sShl_5 (w : World) : Calls Tryd.prog 29 #[.string ⟨#[60, 60]⟩, .int .i64 5] w fun x w' => x = .returned (.int .i64 0) ∧ w = w' := by
  go_enter Tryd.func29, Tryd.ntmps29
  repeat' (first
      | with_reducible refine then_normal ?_ | with_reducible refine then_exit ?_ | with_reducible refine then_ret ?_ | with_reducible refine in_normal ?_ | with_reducible refine in_ret ?_ | with_reducible refine in_hit ?_ | with_reducible refine in_miss rfl ?_
      | go_values | go_skip | go_guarded | go_step | go_upon | go_back | (simp only [Int.not_lt, Int.not_le] at *; go_simp))
  go_ret
  exact ⟨rfl, rfl⟩
theorem plev_sShl_6 (w : World) : Calls Tryd.prog 29 #[.string ⟨#[60, 60]⟩, .int .i64 6] w fun x w' => x = .returned (.int .i64 0) ∧ w = w' := by
  go_enter Tryd.func29, Tryd.ntmps29
  repeat' (first
      | with_reducible refine then_normal ?_ | with_reducible refine then_exit ?_ | with_reducible refine then_ret ?_ | with_reducible refine in_normal ?_ | with_reducible refine in_ret ?_ | with_reducible refine in_hit ?_ | with_reducible refine in_miss rfl ?_
      | go_values | go_skip | go_guarded | go_step | go_upon | go_back | (simp only [Int.not_lt, Int.not_le] at *; go_simp))
  go_ret
  exact ⟨rfl, rfl⟩
theorem plev_sShl_7 (w : World) : Calls Tryd.prog 29 #[.string ⟨#[60, 60]⟩, .int .i64 7] w fun x w' => x = .returned (.int .i64 0) ∧ w = w' := by
  go_enter Tryd.func29, Tryd.ntmps29
  repeat' (first
      | with_reducible refine then_normal ?_ | with_reducible refine then_exit ?_ | with_reducible refine then_ret ?_ | with_reducible refine in_normal ?_ | with_reducible refine in_ret ?_ | with_reducible refine in_hit ?_ | with_reducible refine in_miss rfl ?_
      | go_values | go_skip | go_guarded | go_step | go_upon | go_back | (simp only [Int.not_lt, Int.not_le] at *; go_simp))
  go_ret
  exact ⟨rfl, rfl⟩
theorem plev_sShr_1 (w : World) : Calls Tryd.prog 29 #[.string ⟨#[62, 62]⟩, .int .i64 1] w fun x w' => x = .returned (.int .i64 4) ∧ w = w' := by
  go_enter Tryd.func29, Tryd.ntmps29
  repeat' (first
      | with_reducible refine then_normal ?_ | with_reducible refine then_exit ?_ | with_reducible refine then_ret ?_ | with_reducible refine in_normal ?_ | with_reducible refine in_ret ?_ | with_reducible refine in_hit ?_ | with_reducible refine in_miss rfl ?_
      | go_values | go_skip | go_guarded | go_step | go_upon | go_back | (simp only [Int.not_lt, Int.not_le] at *; go_simp))
  go_ret
  exact ⟨rfl, rfl⟩
theorem plev_sShr_2 (w : World) : Calls Tryd.prog 29 #[.string ⟨#[62, 62]⟩, .int .i64 2] w fun x w' => x = .returned (.int .i64 4) ∧ w = w' := by
  go_enter Tryd.func29, Tryd.ntmps29
  repeat' (first
      | with_reducible refine then_normal ?_ | with_reducible refine then_exit ?_ | with_reducible refine then_ret ?_ | with_reducible refine in_normal ?_ | with_reducible refine in_ret ?_ | with_reducible refine in_hit ?_ | with_reducible refine in_miss rfl ?_
      | go_values | go_skip | go_guarded | go_step | go_upon | go_back | (simp only [Int.not_lt, Int.not_le] at *; go_simp))
  go_ret
  exact ⟨rfl, rfl⟩
theorem plev_sShr_3 (w : World) : Calls Tryd.prog 29 #[.string ⟨#[62, 62]⟩, .int .i64 3] w fun x w' => x = .returned (.int .i64 4) ∧ w = w' := by
  go_enter Tryd.func29, Tryd.ntmps29
  repeat' (first
      | with_reducible refine then_normal ?_ | with_reducible refine then_exit ?_ | with_reducible refine then_ret ?_ | with_reducible refine in_normal ?_ | with_reducible refine in_ret ?_ | with_reducible refine in_hit ?_ | with_reducible refine in_miss rfl ?_
      | go_values | go_skip | go_guarded | go_step | go_upon | go_back | (simp only [Int.not_lt, Int.not_le] at *; go_simp))
  go_ret
  exact ⟨rfl, rfl⟩
theorem plev_sShr_4 (w : World) : Calls Tryd.prog 29 #[.string ⟨#[62, 62]⟩, .int .i64 4] w fun x w' => x = .returned (.int .i64 4) ∧ w = w' := by
  go_enter Tryd.func29, Tryd.ntmps29
  repeat' (first
      | with_reducible refine then_normal ?_ | with_reducible refine then_exit ?_ | with_reducible refine then_ret ?_ | with_reducible refine in_normal ?_ | with_reducible refine in_ret ?_ | with_reducible refine in_hit ?_ | with_reducible refine in_miss rfl ?_
      | go_values | go_skip | go_guarded | go_step | go_upon | go_back | (simp only [Int.not_lt, Int.not_le] at *; go_simp))
  go_ret
  exact ⟨rfl, rfl⟩
theorem plev_sShr_5 (w : World) : Calls Tryd.prog 29 #[.string ⟨#[62, 62]⟩, .int .i64 5] w fun x w' => x = .returned (.int .i64 0) ∧ w = w' := by
  go_enter Tryd.func29, Tryd.ntmps29
  repeat' (first
      | with_reducible refine then_normal ?_ | with_reducible refine then_exit ?_ | with_reducible refine then_ret ?_ | with_reducible refine in_normal ?_ | with_reducible refine in_ret ?_ | with_reducible refine in_hit ?_ | with_reducible refine in_miss rfl ?_
      | go_values | go_skip | go_guarded | go_step | go_upon | go_back | (simp only [Int.not_lt, Int.not_le] at *; go_simp))
  go_ret
  exact ⟨rfl, rfl⟩
theorem plev_sShr_6 (w : World) : Calls Tryd.prog 29 #[.string ⟨#[62, 62]⟩, .int .i64 6] w fun x w' => x = .returned (.int .i64 0) ∧ w = w' := by
  go_enter Tryd.func29, Tryd.ntmps29
  repeat' (first
      | with_reducible refine then_normal ?_ | with_reducible refine then_exit ?_ | with_reducible refine then_ret ?_ | with_reducible refine in_normal ?_ | with_reducible refine in_ret ?_ | with_reducible refine in_hit ?_ | with_reducible refine in_miss rfl ?_
      | go_values | go_skip | go_guarded | go_step | go_upon | go_back | (simp only [Int.not_lt, Int.not_le] at *; go_simp))
  go_ret
  exact ⟨rfl, rfl⟩
theorem plev_sShr_7 (w : World) : Calls Tryd.prog 29 #[.string ⟨#[62, 62]⟩, .int .i64 7] w fun x w' => x = .returned (.int .i64 0) ∧ w = w' := by
  go_enter Tryd.func29, Tryd.ntmps29
  repeat' (first
      | with_reducible refine then_normal ?_ | with_reducible refine then_exit ?_ | with_reducible refine then_ret ?_ | with_reducible refine in_normal ?_ | with_reducible refine in_ret ?_ | with_reducible refine in_hit ?_ | with_reducible refine in_miss rfl ?_
      | go_values | go_skip | go_guarded | go_step | go_upon | go_back | (simp only [Int.not_lt, Int.not_le] at *; go_simp))
  go_ret
  exact ⟨rfl, rfl⟩
theorem plev_sAdd_1 (w : World) : Calls Tryd.prog 29 #[.string ⟨#[43]⟩, .int .i64 1] w fun x w' => x = .returned (.int .i64 5) ∧ w = w' := by
  go_enter Tryd.func29, Tryd.ntmps29
  repeat' (first
      | with_reducible refine then_normal ?_ | with_reducible refine then_exit ?_ | with_reducible refine then_ret ?_ | with_reducible refine in_normal ?_ | with_reducible refine in_ret ?_ | with_reducible refine in_hit ?_ | with_reducible refine in_miss rfl ?_
      | go_values | go_skip | go_guarded | go_step | go_upon | go_back | (simp only [Int.not_lt, Int.not_le] at *; go_simp))
  go_ret
  exact ⟨rfl, rfl⟩
theorem plev_sAdd_2 (w : World) : Calls Tryd.prog 29 #[.string ⟨#[43]⟩, .int .i64 2] w fun x w' => x = .returned (.int .i64 5) ∧ w = w' := by
  go_enter Tryd.func29, Tryd.ntmps29
  repeat' (first
      | with_reducible refine then_normal ?_ | with_reducible refine then_exit ?_ | with_reducible refine then_ret ?_ | with_reducible refine in_normal ?_ | with_reducible refine in_ret ?_ | with_reducible refine in_hit ?_ | with_reducible refine in_miss rfl ?_
      | go_values | go_skip | go_guarded | go_step | go_upon | go_back | (simp only [Int.not_lt, Int.not_le] at *; go_simp))
  go_ret
  exact ⟨rfl, rfl⟩
theorem plev_sAdd_3 (w : World) : Calls Tryd.prog 29 #[.string ⟨#[43]⟩, .int .i64 3] w fun x w' => x = .returned (.int .i64 5) ∧ w = w' := by
  go_enter Tryd.func29, Tryd.ntmps29
  repeat' (first
      | with_reducible refine then_normal ?_ | with_reducible refine then_exit ?_ | with_reducible refine then_ret ?_ | with_reducible refine in_normal ?_ | with_reducible refine in_ret ?_ | with_reducible refine in_hit ?_ | with_reducible refine in_miss rfl ?_
      | go_values | go_skip | go_guarded | go_step | go_upon | go_back | (simp only [Int.not_lt, Int.not_le] at *; go_simp))
  go_ret
  exact ⟨rfl, rfl⟩
theorem plev_sAdd_4 (w : World) : Calls Tryd.prog 29 #[.string ⟨#[43]⟩, .int .i64 4] w fun x w' => x = .returned (.int .i64 5) ∧ w = w' := by
  go_enter Tryd.func29, Tryd.ntmps29
  repeat' (first
      | with_reducible refine then_normal ?_ | with_reducible refine then_exit ?_ | with_reducible refine then_ret ?_ | with_reducible refine in_normal ?_ | with_reducible refine in_ret ?_ | with_reducible refine in_hit ?_ | with_reducible refine in_miss rfl ?_
      | go_values | go_skip | go_guarded | go_step | go_upon | go_back | (simp only [Int.not_lt, Int.not_le] at *; go_simp))
  go_ret
  exact ⟨rfl, rfl⟩
theorem plev_sAdd_5 (w : World) : Calls Tryd.prog 29 #[.string ⟨#[43]⟩, .int .i64 5] w fun x w' => x = .returned (.int .i64 5) ∧ w = w' := by
  go_enter Tryd.func29, Tryd.ntmps29
  repeat' (first
      | with_reducible refine then_normal ?_ | with_reducible refine then_exit ?_ | with_reducible refine then_ret ?_ | with_reducible refine in_normal ?_ | with_reducible refine in_ret ?_ | with_reducible refine in_hit ?_ | with_reducible refine in_miss rfl ?_
      | go_values | go_skip | go_guarded | go_step | go_upon | go_back | (simp only [Int.not_lt, Int.not_le] at *; go_simp))
  go_ret
  exact ⟨rfl, rfl⟩
theorem plev_sAdd_6 (w : World) : Calls Tryd.prog 29 #[.string ⟨#[43]⟩, .int .i64 6] w fun x w' => x = .returned (.int .i64 0) ∧ w = w' := by
  go_enter Tryd.func29, Tryd.ntmps29
  repeat' (first
      | with_reducible refine then_normal ?_ | with_reducible refine then_exit ?_ | with_reducible refine then_ret ?_ | with_reducible refine in_normal ?_ | with_reducible refine in_ret ?_ | with_reducible refine in_hit ?_ | with_reducible refine in_miss rfl ?_
      | go_values | go_skip | go_guarded | go_step | go_upon | go_back | (simp only [Int.not_lt, Int.not_le] at *; go_simp))
  go_ret
  exact ⟨rfl, rfl⟩
theorem plev_sAdd_7 (w : World) : Calls Tryd.prog 29 #[.string ⟨#[43]⟩, .int .i64 7] w fun x w' => x = .returned (.int .i64 0) ∧ w = w' := by
  go_enter Tryd.func29, Tryd.ntmps29
  repeat' (first
      | with_reducible refine then_normal ?_ | with_reducible refine then_exit ?_ | with_reducible refine then_ret ?_ | with_reducible refine in_normal ?_ | with_reducible refine in_ret ?_ | with_reducible refine in_hit ?_ | with_reducible refine in_miss rfl ?_
      | go_values | go_skip | go_guarded | go_step | go_upon | go_back | (simp only [Int.not_lt, Int.not_le] at *; go_simp))
  go_ret
  exact ⟨rfl, rfl⟩
theorem plev_sSub_1 (w : World) : Calls Tryd.prog 29 #[.string ⟨#[45]⟩, .int .i64 1] w fun x w' => x = .returned (.int .i64 5) ∧ w = w' := by
  go_enter Tryd.func29, Tryd.ntmps29
  repeat' (first
      | with_reducible refine then_normal ?_ | with_reducible refine then_exit ?_ | with_reducible refine then_ret ?_ | with_reducible refine in_normal ?_ | with_reducible refine in_ret ?_ | with_reducible refine in_hit ?_ | with_reducible refine in_miss rfl ?_
      | go_values | go_skip | go_guarded | go_step | go_upon | go_back | (simp only [Int.not_lt, Int.not_le] at *; go_simp))
  go_ret
  exact ⟨rfl, rfl⟩
theorem plev_sSub_2 (w : World) : Calls Tryd.prog 29 #[.string ⟨#[45]⟩, .int .i64 2] w fun x w' => x = .returned (.int .i64 5) ∧ w = w' := by
  go_enter Tryd.func29, Tryd.ntmps29
  repeat' (first
      | with_reducible refine then_normal ?_ | with_reducible refine then_exit ?_ | with_reducible refine then_ret ?_ | with_reducible refine in_normal ?_ | with_reducible refine in_ret ?_ | with_reducible refine in_hit ?_ | with_reducible refine in_miss rfl ?_
      | go_values | go_skip | go_guarded | go_step | go_upon | go_back | (simp only [Int.not_lt, Int.not_le] at *; go_simp))
  go_ret
  exact ⟨rfl, rfl⟩
theorem plev_sSub_3 (w : World) : Calls Tryd.prog 29 #[.string ⟨#[45]⟩, .int .i64 3] w fun x w' => x = .returned (.int .i64 5) ∧ w = w' := by
  go_enter Tryd.func29, Tryd.ntmps29
  repeat' (first
      | with_reducible refine then_normal ?_ | with_reducible refine then_exit ?_ | with_reducible refine then_ret ?_ | with_reducible refine in_normal ?_ | with_reducible refine in_ret ?_ | with_reducible refine in_hit ?_ | with_reducible refine in_miss rfl ?_
      | go_values | go_skip | go_guarded | go_step | go_upon | go_back | (simp only [Int.not_lt, Int.not_le] at *; go_simp))
  go_ret
  exact ⟨rfl, rfl⟩
theorem plev_sSub_4 (w : World) : Calls Tryd.prog 29 #[.string ⟨#[45]⟩, .int .i64 4] w fun x w' => x = .returned (.int .i64 5) ∧ w = w' := by
  go_enter Tryd.func29, Tryd.ntmps29
  repeat' (first
      | with_reducible refine then_normal ?_ | with_reducible refine then_exit ?_ | with_reducible refine then_ret ?_ | with_reducible refine in_normal ?_ | with_reducible refine in_ret ?_ | with_reducible refine in_hit ?_ | with_reducible refine in_miss rfl ?_
      | go_values | go_skip | go_guarded | go_step | go_upon | go_back | (simp only [Int.not_lt, Int.not_le] at *; go_simp))
  go_ret
  exact ⟨rfl, rfl⟩
theorem plev_sSub_5 (w : World) : Calls Tryd.prog 29 #[.string ⟨#[45]⟩, .int .i64 5] w fun x w' => x = .returned (.int .i64 5) ∧ w = w' := by
  go_enter Tryd.func29, Tryd.ntmps29
  repeat' (first
      | with_reducible refine then_normal ?_ | with_reducible refine then_exit ?_ | with_reducible refine then_ret ?_ | with_reducible refine in_normal ?_ | with_reducible refine in_ret ?_ | with_reducible refine in_hit ?_ | with_reducible refine in_miss rfl ?_
      | go_values | go_skip | go_guarded | go_step | go_upon | go_back | (simp only [Int.not_lt, Int.not_le] at *; go_simp))
  go_ret
  exact ⟨rfl, rfl⟩
theorem plev_sSub_6 (w : World) : Calls Tryd.prog 29 #[.string ⟨#[45]⟩, .int .i64 6] w fun x w' => x = .returned (.int .i64 0) ∧ w = w' := by
  go_enter Tryd.func29, Tryd.ntmps29
  repeat' (first
      | with_reducible refine then_normal ?_ | with_reducible refine then_exit ?_ | with_reducible refine then_ret ?_ | with_reducible refine in_normal ?_ | with_reducible refine in_ret ?_ | with_reducible refine in_hit ?_ | with_reducible refine in_miss rfl ?_
      | go_values | go_skip | go_guarded | go_step | go_upon | go_back | (simp only [Int.not_lt, Int.not_le] at *; go_simp))
  go_ret
  exact ⟨rfl, rfl⟩
theorem plev_sSub_7 (w : World) : Calls Tryd.prog 29 #[.string ⟨#[45]⟩, .int .i64 7] w fun x w' => x = .returned (.int .i64 0) ∧ w = w' := by
  go_enter Tryd.func29, Tryd.ntmps29
  repeat' (first
      | with_reducible refine then_normal ?_ | with_reducible refine then_exit ?_ | with_reducible refine then_ret ?_ | with_reducible refine in_normal ?_ | with_reducible refine in_ret ?_ | with_reducible refine in_hit ?_ | with_reducible refine in_miss rfl ?_
      | go_values | go_skip | go_guarded | go_step | go_upon | go_back | (simp only [Int.not_lt, Int.not_le] at *; go_simp))
  go_ret
  exact ⟨rfl, rfl⟩
theorem plev_sMul_1 (w : World) : Calls Tryd.prog 29 #[.string ⟨#[42]⟩, .int .i64 1] w fun x w' => x = .returned (.int .i64 6) ∧ w = w' := by
  go_enter Tryd.func29, Tryd.ntmps29
  repeat' (first
      | with_reducible refine then_normal ?_ | with_reducible refine then_exit ?_ | with_reducible refine then_ret ?_ | with_reducible refine in_normal ?_ | with_reducible refine in_ret ?_ | with_reducible refine in_hit ?_ | with_reducible refine in_miss rfl ?_
      | go_values | go_skip | go_guarded | go_step | go_upon | go_back | (simp only [Int.not_lt, Int.not_le] at *; go_simp))
  go_ret
  exact ⟨rfl, rfl⟩
theorem plev_sMul_2 (w : World) : Calls Tryd.prog 29 #[.string ⟨#[42]⟩, .int .i64 2] w fun x w' => x = .returned (.int .i64 6) ∧ w = w' := by
  go_enter Tryd.func29, Tryd.ntmps29
  repeat' (first
      | with_reducible refine then_normal ?_ | with_reducible refine then_exit ?_ | with_reducible refine then_ret ?_ | with_reducible refine in_normal ?_ | with_reducible refine in_ret ?_ | with_reducible refine in_hit ?_ | with_reducible refine in_miss rfl ?_
      | go_values | go_skip | go_guarded | go_step | go_upon | go_back | (simp only [Int.not_lt, Int.not_le] at *; go_simp))
  go_ret
  exact ⟨rfl, rfl⟩
theorem plev_sMul_3 (w : World) : Calls Tryd.prog 29 #[.string ⟨#[42]⟩, .int .i64 3] w fun x w' => x = .returned (.int .i64 6) ∧ w = w' := by
  go_enter Tryd.func29, Tryd.ntmps29
  repeat' (first
      | with_reducible refine then_normal ?_ | with_reducible refine then_exit ?_ | with_reducible refine then_ret ?_ | with_reducible refine in_normal ?_ | with_reducible refine in_ret ?_ | with_reducible refine in_hit ?_ | with_reducible refine in_miss rfl ?_
      | go_values | go_skip | go_guarded | go_step | go_upon | go_back | (simp only [Int.not_lt, Int.not_le] at *; go_simp))
  go_ret
  exact ⟨rfl, rfl⟩
theorem plev_sMul_4 (w : World) : Calls Tryd.prog 29 #[.string ⟨#[42]⟩, .int .i64 4] w fun x w' => x = .returned (.int .i64 6) ∧ w = w' := by
  go_enter Tryd.func29, Tryd.ntmps29
  repeat' (first
      | with_reducible refine then_normal ?_ | with_reducible refine then_exit ?_ | with_reducible refine then_ret ?_ | with_reducible refine in_normal ?_ | with_reducible refine in_ret ?_ | with_reducible refine in_hit ?_ | with_reducible refine in_miss rfl ?_
      | go_values | go_skip | go_guarded | go_step | go_upon | go_back | (simp only [Int.not_lt, Int.not_le] at *; go_simp))
  go_ret
  exact ⟨rfl, rfl⟩
theorem plev_sMul_5 (w : World) : Calls Tryd.prog 29 #[.string ⟨#[42]⟩, .int .i64 5] w fun x w' => x = .returned (.int .i64 6) ∧ w = w' := by
  go_enter Tryd.func29, Tryd.ntmps29
  repeat' (first
      | with_reducible refine then_normal ?_ | with_reducible refine then_exit ?_ | with_reducible refine then_ret ?_ | with_reducible refine in_normal ?_ | with_reducible refine in_ret ?_ | with_reducible refine in_hit ?_ | with_reducible refine in_miss rfl ?_
      | go_values | go_skip | go_guarded | go_step | go_upon | go_back | (simp only [Int.not_lt, Int.not_le] at *; go_simp))
  go_ret
  exact ⟨rfl, rfl⟩
theorem plev_sMul_6 (w : World) : Calls Tryd.prog 29 #[.string ⟨#[42]⟩, .int .i64 6] w fun x w' => x = .returned (.int .i64 6) ∧ w = w' := by
  go_enter Tryd.func29, Tryd.ntmps29
  repeat' (first
      | with_reducible refine then_normal ?_ | with_reducible refine then_exit ?_ | with_reducible refine then_ret ?_ | with_reducible refine in_normal ?_ | with_reducible refine in_ret ?_ | with_reducible refine in_hit ?_ | with_reducible refine in_miss rfl ?_
      | go_values | go_skip | go_guarded | go_step | go_upon | go_back | (simp only [Int.not_lt, Int.not_le] at *; go_simp))
  go_ret
  exact ⟨rfl, rfl⟩
theorem plev_sMul_7 (w : World) : Calls Tryd.prog 29 #[.string ⟨#[42]⟩, .int .i64 7] w fun x w' => x = .returned (.int .i64 0) ∧ w = w' := by
  go_enter Tryd.func29, Tryd.ntmps29
  repeat' (first
      | with_reducible refine then_normal ?_ | with_reducible refine then_exit ?_ | with_reducible refine then_ret ?_ | with_reducible refine in_normal ?_ | with_reducible refine in_ret ?_ | with_reducible refine in_hit ?_ | with_reducible refine in_miss rfl ?_
      | go_values | go_skip | go_guarded | go_step | go_upon | go_back | (simp only [Int.not_lt, Int.not_le] at *; go_simp))
  go_ret
  exact ⟨rfl, rfl⟩
theorem plev_no_1 (s : ByteArray) (n0 : ¬ s = sBar) (n1 : ¬ s = sHat) (n2 : ¬ s = sAmp) (n3 : ¬ s = sShl) (n4 : ¬ s = sShr) (n5 : ¬ s = sAdd) (n6 : ¬ s = sSub) (n7 : ¬ s = sMul) (w : World) : Calls Tryd.prog 29 #[.string s, .int .i64 1] w fun x w' => x = .returned (.int .i64 0) ∧ w = w' := by
  have t0 : (s.toList == [124]) = false := str_no s _ n0
  have t1 : (s.toList == [94]) = false := str_no s _ n1
  have t2 : (s.toList == [38]) = false := str_no s _ n2
  have t3 : (s.toList == [60, 60]) = false := str_no s _ n3
  have t4 : (s.toList == [62, 62]) = false := str_no s _ n4
  have t5 : (s.toList == [43]) = false := str_no s _ n5
  have t6 : (s.toList == [45]) = false := str_no s _ n6
  have t7 : (s.toList == [42]) = false := str_no s _ n7
  clear n0 n1 n2 n3 n4 n5 n6 n7
  go_enter Tryd.func29, Tryd.ntmps29
  repeat' (first
      | with_reducible refine then_normal ?_ | with_reducible refine then_exit ?_ | with_reducible refine then_ret ?_ | with_reducible refine in_normal ?_ | with_reducible refine in_ret ?_ | with_reducible refine in_hit ?_ | with_reducible refine in_miss rfl ?_
      | go_values | go_skip | go_guarded | go_step | go_upon | go_back | (simp only [Int.not_lt, Int.not_le] at *; go_simp))
  go_ret
  exact ⟨rfl, rfl⟩
theorem plev_no_2 (s : ByteArray) (n0 : ¬ s = sBar) (n1 : ¬ s = sHat) (n2 : ¬ s = sAmp) (n3 : ¬ s = sShl) (n4 : ¬ s = sShr) (n5 : ¬ s = sAdd) (n6 : ¬ s = sSub) (n7 : ¬ s = sMul) (w : World) : Calls Tryd.prog 29 #[.string s, .int .i64 2] w fun x w' => x = .returned (.int .i64 0) ∧ w = w' := by
  have t0 : (s.toList == [124]) = false := str_no s _ n0
  have t1 : (s.toList == [94]) = false := str_no s _ n1
  have t2 : (s.toList == [38]) = false := str_no s _ n2
  have t3 : (s.toList == [60, 60]) = false := str_no s _ n3
  have t4 : (s.toList == [62, 62]) = false := str_no s _ n4
  have t5 : (s.toList == [43]) = false := str_no s _ n5
  have t6 : (s.toList == [45]) = false := str_no s _ n6
  have t7 : (s.toList == [42]) = false := str_no s _ n7
  clear n0 n1 n2 n3 n4 n5 n6 n7
  go_enter Tryd.func29, Tryd.ntmps29
  repeat' (first
      | with_reducible refine then_normal ?_ | with_reducible refine then_exit ?_ | with_reducible refine then_ret ?_ | with_reducible refine in_normal ?_ | with_reducible refine in_ret ?_ | with_reducible refine in_hit ?_ | with_reducible refine in_miss rfl ?_
      | go_values | go_skip | go_guarded | go_step | go_upon | go_back | (simp only [Int.not_lt, Int.not_le] at *; go_simp))
  go_ret
  exact ⟨rfl, rfl⟩
theorem plev_no_3 (s : ByteArray) (n0 : ¬ s = sBar) (n1 : ¬ s = sHat) (n2 : ¬ s = sAmp) (n3 : ¬ s = sShl) (n4 : ¬ s = sShr) (n5 : ¬ s = sAdd) (n6 : ¬ s = sSub) (n7 : ¬ s = sMul) (w : World) : Calls Tryd.prog 29 #[.string s, .int .i64 3] w fun x w' => x = .returned (.int .i64 0) ∧ w = w' := by
  have t0 : (s.toList == [124]) = false := str_no s _ n0
  have t1 : (s.toList == [94]) = false := str_no s _ n1
  have t2 : (s.toList == [38]) = false := str_no s _ n2
  have t3 : (s.toList == [60, 60]) = false := str_no s _ n3
  have t4 : (s.toList == [62, 62]) = false := str_no s _ n4
  have t5 : (s.toList == [43]) = false := str_no s _ n5
  have t6 : (s.toList == [45]) = false := str_no s _ n6
  have t7 : (s.toList == [42]) = false := str_no s _ n7
  clear n0 n1 n2 n3 n4 n5 n6 n7
  go_enter Tryd.func29, Tryd.ntmps29
  repeat' (first
      | with_reducible refine then_normal ?_ | with_reducible refine then_exit ?_ | with_reducible refine then_ret ?_ | with_reducible refine in_normal ?_ | with_reducible refine in_ret ?_ | with_reducible refine in_hit ?_ | with_reducible refine in_miss rfl ?_
      | go_values | go_skip | go_guarded | go_step | go_upon | go_back | (simp only [Int.not_lt, Int.not_le] at *; go_simp))
  go_ret
  exact ⟨rfl, rfl⟩
theorem plev_no_4 (s : ByteArray) (n0 : ¬ s = sBar) (n1 : ¬ s = sHat) (n2 : ¬ s = sAmp) (n3 : ¬ s = sShl) (n4 : ¬ s = sShr) (n5 : ¬ s = sAdd) (n6 : ¬ s = sSub) (n7 : ¬ s = sMul) (w : World) : Calls Tryd.prog 29 #[.string s, .int .i64 4] w fun x w' => x = .returned (.int .i64 0) ∧ w = w' := by
  have t0 : (s.toList == [124]) = false := str_no s _ n0
  have t1 : (s.toList == [94]) = false := str_no s _ n1
  have t2 : (s.toList == [38]) = false := str_no s _ n2
  have t3 : (s.toList == [60, 60]) = false := str_no s _ n3
  have t4 : (s.toList == [62, 62]) = false := str_no s _ n4
  have t5 : (s.toList == [43]) = false := str_no s _ n5
  have t6 : (s.toList == [45]) = false := str_no s _ n6
  have t7 : (s.toList == [42]) = false := str_no s _ n7
  clear n0 n1 n2 n3 n4 n5 n6 n7
  go_enter Tryd.func29, Tryd.ntmps29
  repeat' (first
      | with_reducible refine then_normal ?_ | with_reducible refine then_exit ?_ | with_reducible refine then_ret ?_ | with_reducible refine in_normal ?_ | with_reducible refine in_ret ?_ | with_reducible refine in_hit ?_ | with_reducible refine in_miss rfl ?_
      | go_values | go_skip | go_guarded | go_step | go_upon | go_back | (simp only [Int.not_lt, Int.not_le] at *; go_simp))
  go_ret
  exact ⟨rfl, rfl⟩
theorem plev_no_5 (s : ByteArray) (n0 : ¬ s = sBar) (n1 : ¬ s = sHat) (n2 : ¬ s = sAmp) (n3 : ¬ s = sShl) (n4 : ¬ s = sShr) (n5 : ¬ s = sAdd) (n6 : ¬ s = sSub) (n7 : ¬ s = sMul) (w : World) : Calls Tryd.prog 29 #[.string s, .int .i64 5] w fun x w' => x = .returned (.int .i64 0) ∧ w = w' := by
  have t0 : (s.toList == [124]) = false := str_no s _ n0
  have t1 : (s.toList == [94]) = false := str_no s _ n1
  have t2 : (s.toList == [38]) = false := str_no s _ n2
  have t3 : (s.toList == [60, 60]) = false := str_no s _ n3
  have t4 : (s.toList == [62, 62]) = false := str_no s _ n4
  have t5 : (s.toList == [43]) = false := str_no s _ n5
  have t6 : (s.toList == [45]) = false := str_no s _ n6
  have t7 : (s.toList == [42]) = false := str_no s _ n7
  clear n0 n1 n2 n3 n4 n5 n6 n7
  go_enter Tryd.func29, Tryd.ntmps29
  repeat' (first
      | with_reducible refine then_normal ?_ | with_reducible refine then_exit ?_ | with_reducible refine then_ret ?_ | with_reducible refine in_normal ?_ | with_reducible refine in_ret ?_ | with_reducible refine in_hit ?_ | with_reducible refine in_miss rfl ?_
      | go_values | go_skip | go_guarded | go_step | go_upon | go_back | (simp only [Int.not_lt, Int.not_le] at *; go_simp))
  go_ret
  exact ⟨rfl, rfl⟩
theorem plev_no_6 (s : ByteArray) (n0 : ¬ s = sBar) (n1 : ¬ s = sHat) (n2 : ¬ s = sAmp) (n3 : ¬ s = sShl) (n4 : ¬ s = sShr) (n5 : ¬ s = sAdd) (n6 : ¬ s = sSub) (n7 : ¬ s = sMul) (w : World) : Calls Tryd.prog 29 #[.string s, .int .i64 6] w fun x w' => x = .returned (.int .i64 0) ∧ w = w' := by
  have t0 : (s.toList == [124]) = false := str_no s _ n0
  have t1 : (s.toList == [94]) = false := str_no s _ n1
  have t2 : (s.toList == [38]) = false := str_no s _ n2
  have t3 : (s.toList == [60, 60]) = false := str_no s _ n3
  have t4 : (s.toList == [62, 62]) = false := str_no s _ n4
  have t5 : (s.toList == [43]) = false := str_no s _ n5
  have t6 : (s.toList == [45]) = false := str_no s _ n6
  have t7 : (s.toList == [42]) = false := str_no s _ n7
  clear n0 n1 n2 n3 n4 n5 n6 n7
  go_enter Tryd.func29, Tryd.ntmps29
  repeat' (first
      | with_reducible refine then_normal ?_ | with_reducible refine then_exit ?_ | with_reducible refine then_ret ?_ | with_reducible refine in_normal ?_ | with_reducible refine in_ret ?_ | with_reducible refine in_hit ?_ | with_reducible refine in_miss rfl ?_
      | go_values | go_skip | go_guarded | go_step | go_upon | go_back | (simp only [Int.not_lt, Int.not_le] at *; go_simp))
  go_ret
  exact ⟨rfl, rfl⟩
theorem plev_no_7 (s : ByteArray) (n0 : ¬ s = sBar) (n1 : ¬ s = sHat) (n2 : ¬ s = sAmp) (n3 : ¬ s = sShl) (n4 : ¬ s = sShr) (n5 : ¬ s = sAdd) (n6 : ¬ s = sSub) (n7 : ¬ s = sMul) (w : World) : Calls Tryd.prog 29 #[.string s, .int .i64 7] w fun x w' => x = .returned (.int .i64 0) ∧ w = w' := by
  have t0 : (s.toList == [124]) = false := str_no s _ n0
  have t1 : (s.toList == [94]) = false := str_no s _ n1
  have t2 : (s.toList == [38]) = false := str_no s _ n2
  have t3 : (s.toList == [60, 60]) = false := str_no s _ n3
  have t4 : (s.toList == [62, 62]) = false := str_no s _ n4
  have t5 : (s.toList == [43]) = false := str_no s _ n5
  have t6 : (s.toList == [45]) = false := str_no s _ n6
  have t7 : (s.toList == [42]) = false := str_no s _ n7
  clear n0 n1 n2 n3 n4 n5 n6 n7
  go_enter Tryd.func29, Tryd.ntmps29
  repeat' (first
      | with_reducible refine then_normal ?_ | with_reducible refine then_exit ?_ | with_reducible refine then_ret ?_ | with_reducible refine in_normal ?_ | with_reducible refine in_ret ?_ | with_reducible refine in_hit ?_ | with_reducible refine in_miss rfl ?_
      | go_values | go_skip | go_guarded | go_step | go_upon | go_back | (simp only [Int.not_lt, Int.not_le] at *; go_simp))
  go_ret
  exact ⟨rfl, rfl⟩
/-- The level that is asked for, from 1 on. -/
theorem plevel_any (s : ByteArray) (k : Nat) (h1 : 1 ≤ k) (h7 : k ≤ 7) (w : World) : Calls Tryd.prog 29 #[.string s, .int .i64 k] w fun x w' => x = .returned (.int .i64 ((if k ≤ levT s then levT s else 0 : Nat) : Int)) ∧ w = w' := by
  by_cases n0 : s = sBar
  · subst n0
    have e : levT sBar = 1 := by decide
    rw [e]
    rcases (by omega : k = 1 ∨ k = 2 ∨ k = 3 ∨ k = 4 ∨ k = 5 ∨ k = 6 ∨ k = 7) with rfl | rfl | rfl | rfl | rfl | rfl | rfl
    · exact plev_sBar_1 w
    · exact plev_sBar_2 w
    · exact plev_sBar_3 w
    · exact plev_sBar_4 w
    · exact plev_sBar_5 w
    · exact plev_sBar_6 w
    · exact plev_sBar_7 w
  by_cases n1 : s = sHat
  · subst n1
    have e : levT sHat = 2 := by decide
    rw [e]
    rcases (by omega : k = 1 ∨ k = 2 ∨ k = 3 ∨ k = 4 ∨ k = 5 ∨ k = 6 ∨ k = 7) with rfl | rfl | rfl | rfl | rfl | rfl | rfl
    · exact plev_sHat_1 w
    · exact plev_sHat_2 w
    · exact plev_sHat_3 w
    · exact plev_sHat_4 w
    · exact plev_sHat_5 w
    · exact plev_sHat_6 w
    · exact plev_sHat_7 w
  by_cases n2 : s = sAmp
  · subst n2
    have e : levT sAmp = 3 := by decide
    rw [e]
    rcases (by omega : k = 1 ∨ k = 2 ∨ k = 3 ∨ k = 4 ∨ k = 5 ∨ k = 6 ∨ k = 7) with rfl | rfl | rfl | rfl | rfl | rfl | rfl
    · exact plev_sAmp_1 w
    · exact plev_sAmp_2 w
    · exact plev_sAmp_3 w
    · exact plev_sAmp_4 w
    · exact plev_sAmp_5 w
    · exact plev_sAmp_6 w
    · exact plev_sAmp_7 w
  by_cases n3 : s = sShl
  · subst n3
    have e : levT sShl = 4 := by decide
    rw [e]
    rcases (by omega : k = 1 ∨ k = 2 ∨ k = 3 ∨ k = 4 ∨ k = 5 ∨ k = 6 ∨ k = 7) with rfl | rfl | rfl | rfl | rfl | rfl | rfl
    · exact plev_sShl_1 w
    · exact plev_sShl_2 w
    · exact plev_sShl_3 w
    · exact plev_sShl_4 w
    · exact plev_sShl_5 w
    · exact plev_sShl_6 w
    · exact plev_sShl_7 w
  by_cases n4 : s = sShr
  · subst n4
    have e : levT sShr = 4 := by decide
    rw [e]
    rcases (by omega : k = 1 ∨ k = 2 ∨ k = 3 ∨ k = 4 ∨ k = 5 ∨ k = 6 ∨ k = 7) with rfl | rfl | rfl | rfl | rfl | rfl | rfl
    · exact plev_sShr_1 w
    · exact plev_sShr_2 w
    · exact plev_sShr_3 w
    · exact plev_sShr_4 w
    · exact plev_sShr_5 w
    · exact plev_sShr_6 w
    · exact plev_sShr_7 w
  by_cases n5 : s = sAdd
  · subst n5
    have e : levT sAdd = 5 := by decide
    rw [e]
    rcases (by omega : k = 1 ∨ k = 2 ∨ k = 3 ∨ k = 4 ∨ k = 5 ∨ k = 6 ∨ k = 7) with rfl | rfl | rfl | rfl | rfl | rfl | rfl
    · exact plev_sAdd_1 w
    · exact plev_sAdd_2 w
    · exact plev_sAdd_3 w
    · exact plev_sAdd_4 w
    · exact plev_sAdd_5 w
    · exact plev_sAdd_6 w
    · exact plev_sAdd_7 w
  by_cases n6 : s = sSub
  · subst n6
    have e : levT sSub = 5 := by decide
    rw [e]
    rcases (by omega : k = 1 ∨ k = 2 ∨ k = 3 ∨ k = 4 ∨ k = 5 ∨ k = 6 ∨ k = 7) with rfl | rfl | rfl | rfl | rfl | rfl | rfl
    · exact plev_sSub_1 w
    · exact plev_sSub_2 w
    · exact plev_sSub_3 w
    · exact plev_sSub_4 w
    · exact plev_sSub_5 w
    · exact plev_sSub_6 w
    · exact plev_sSub_7 w
  by_cases n7 : s = sMul
  · subst n7
    have e : levT sMul = 6 := by decide
    rw [e]
    rcases (by omega : k = 1 ∨ k = 2 ∨ k = 3 ∨ k = 4 ∨ k = 5 ∨ k = 6 ∨ k = 7) with rfl | rfl | rfl | rfl | rfl | rfl | rfl
    · exact plev_sMul_1 w
    · exact plev_sMul_2 w
    · exact plev_sMul_3 w
    · exact plev_sMul_4 w
    · exact plev_sMul_5 w
    · exact plev_sMul_6 w
    · exact plev_sMul_7 w
  have e : levT s = 0 := by unfold levT; rw [if_neg n0, if_neg n1, if_neg n2, if_neg n3, if_neg n4, if_neg n5, if_neg n6, if_neg n7]
  rw [e]
  rcases (by omega : k = 1 ∨ k = 2 ∨ k = 3 ∨ k = 4 ∨ k = 5 ∨ k = 6 ∨ k = 7) with rfl | rfl | rfl | rfl | rfl | rfl | rfl
  · exact plev_no_1 s n0 n1 n2 n3 n4 n5 n6 n7 w
  · exact plev_no_2 s n0 n1 n2 n3 n4 n5 n6 n7 w
  · exact plev_no_3 s n0 n1 n2 n3 n4 n5 n6 n7 w
  · exact plev_no_4 s n0 n1 n2 n3 n4 n5 n6 n7 w
  · exact plev_no_5 s n0 n1 n2 n3 n4 n5 n6 n7 w
  · exact plev_no_6 s n0 n1 n2 n3 n4 n5 n6 n7 w
  · exact plev_no_7 s n0 n1 n2 n3 n4 n5 n6 n7 w
end Go.Proofs.YtockkidbncpdlaaDoor
