/- op.form at each of the names there are. -/
import Derived.Test.YtbpmjegpoafhgaaDoorOpTab
import Derived.Test.YtbpmjegpoafhgaaDoorSteps
import Derived.WalkKit
namespace Go.Proofs.YtbpmjegpoafhgaaDoor
set_option linter.unusedVariables false
set_option linter.unusedSimpArgs false
open Go.RowKit
theorem form_0 (w : World) : Calls Tryd.prog 13 #[.string ⟨#[97, 100, 100]⟩] w fun e w' => e = .returned (.int .i64 3) ∧ w = w' := by
  go_enter Tryd.func13, Tryd.ntmps13
  repeat' (first
      | with_reducible refine then_normal ?_ | with_reducible refine then_exit ?_ | with_reducible refine then_ret ?_ | with_reducible refine in_normal ?_ | with_reducible refine in_ret ?_ | with_reducible refine in_hit ?_ | with_reducible refine in_miss rfl ?_
      | go_values | go_skip | go_guarded | go_step | go_upon | go_in | go_back | (simp only [Int.not_lt, Int.not_le] at *; go_simp))
  go_ret
  exact ⟨rfl, rfl⟩
theorem form_1 (w : World) : Calls Tryd.prog 13 #[.string ⟨#[115, 117, 98]⟩] w fun e w' => e = .returned (.int .i64 3) ∧ w = w' := by
  go_enter Tryd.func13, Tryd.ntmps13
  repeat' (first
      | with_reducible refine then_normal ?_ | with_reducible refine then_exit ?_ | with_reducible refine then_ret ?_ | with_reducible refine in_normal ?_ | with_reducible refine in_ret ?_ | with_reducible refine in_hit ?_ | with_reducible refine in_miss rfl ?_
      | go_values | go_skip | go_guarded | go_step | go_upon | go_in | go_back | (simp only [Int.not_lt, Int.not_le] at *; go_simp))
  go_ret
  exact ⟨rfl, rfl⟩
theorem form_2 (w : World) : Calls Tryd.prog 13 #[.string ⟨#[109, 117, 108]⟩] w fun e w' => e = .returned (.int .i64 3) ∧ w = w' := by
  go_enter Tryd.func13, Tryd.ntmps13
  repeat' (first
      | with_reducible refine then_normal ?_ | with_reducible refine then_exit ?_ | with_reducible refine then_ret ?_ | with_reducible refine in_normal ?_ | with_reducible refine in_ret ?_ | with_reducible refine in_hit ?_ | with_reducible refine in_miss rfl ?_
      | go_values | go_skip | go_guarded | go_step | go_upon | go_in | go_back | (simp only [Int.not_lt, Int.not_le] at *; go_simp))
  go_ret
  exact ⟨rfl, rfl⟩
theorem form_3 (w : World) : Calls Tryd.prog 13 #[.string ⟨#[97, 110, 100]⟩] w fun e w' => e = .returned (.int .i64 3) ∧ w = w' := by
  go_enter Tryd.func13, Tryd.ntmps13
  repeat' (first
      | with_reducible refine then_normal ?_ | with_reducible refine then_exit ?_ | with_reducible refine then_ret ?_ | with_reducible refine in_normal ?_ | with_reducible refine in_ret ?_ | with_reducible refine in_hit ?_ | with_reducible refine in_miss rfl ?_
      | go_values | go_skip | go_guarded | go_step | go_upon | go_in | go_back | (simp only [Int.not_lt, Int.not_le] at *; go_simp))
  go_ret
  exact ⟨rfl, rfl⟩
theorem form_4 (w : World) : Calls Tryd.prog 13 #[.string ⟨#[111, 114]⟩] w fun e w' => e = .returned (.int .i64 3) ∧ w = w' := by
  go_enter Tryd.func13, Tryd.ntmps13
  repeat' (first
      | with_reducible refine then_normal ?_ | with_reducible refine then_exit ?_ | with_reducible refine then_ret ?_ | with_reducible refine in_normal ?_ | with_reducible refine in_ret ?_ | with_reducible refine in_hit ?_ | with_reducible refine in_miss rfl ?_
      | go_values | go_skip | go_guarded | go_step | go_upon | go_in | go_back | (simp only [Int.not_lt, Int.not_le] at *; go_simp))
  go_ret
  exact ⟨rfl, rfl⟩
theorem form_5 (w : World) : Calls Tryd.prog 13 #[.string ⟨#[120, 111, 114]⟩] w fun e w' => e = .returned (.int .i64 3) ∧ w = w' := by
  go_enter Tryd.func13, Tryd.ntmps13
  repeat' (first
      | with_reducible refine then_normal ?_ | with_reducible refine then_exit ?_ | with_reducible refine then_ret ?_ | with_reducible refine in_normal ?_ | with_reducible refine in_ret ?_ | with_reducible refine in_hit ?_ | with_reducible refine in_miss rfl ?_
      | go_values | go_skip | go_guarded | go_step | go_upon | go_in | go_back | (simp only [Int.not_lt, Int.not_le] at *; go_simp))
  go_ret
  exact ⟨rfl, rfl⟩
theorem form_6 (w : World) : Calls Tryd.prog 13 #[.string ⟨#[115, 108, 108]⟩] w fun e w' => e = .returned (.int .i64 3) ∧ w = w' := by
  go_enter Tryd.func13, Tryd.ntmps13
  repeat' (first
      | with_reducible refine then_normal ?_ | with_reducible refine then_exit ?_ | with_reducible refine then_ret ?_ | with_reducible refine in_normal ?_ | with_reducible refine in_ret ?_ | with_reducible refine in_hit ?_ | with_reducible refine in_miss rfl ?_
      | go_values | go_skip | go_guarded | go_step | go_upon | go_in | go_back | (simp only [Int.not_lt, Int.not_le] at *; go_simp))
  go_ret
  exact ⟨rfl, rfl⟩
theorem form_7 (w : World) : Calls Tryd.prog 13 #[.string ⟨#[115, 114, 108]⟩] w fun e w' => e = .returned (.int .i64 3) ∧ w = w' := by
  go_enter Tryd.func13, Tryd.ntmps13
  repeat' (first
      | with_reducible refine then_normal ?_ | with_reducible refine then_exit ?_ | with_reducible refine then_ret ?_ | with_reducible refine in_normal ?_ | with_reducible refine in_ret ?_ | with_reducible refine in_hit ?_ | with_reducible refine in_miss rfl ?_
      | go_values | go_skip | go_guarded | go_step | go_upon | go_in | go_back | (simp only [Int.not_lt, Int.not_le] at *; go_simp))
  go_ret
  exact ⟨rfl, rfl⟩
theorem form_8 (w : World) : Calls Tryd.prog 13 #[.string ⟨#[115, 114, 97]⟩] w fun e w' => e = .returned (.int .i64 3) ∧ w = w' := by
  go_enter Tryd.func13, Tryd.ntmps13
  repeat' (first
      | with_reducible refine then_normal ?_ | with_reducible refine then_exit ?_ | with_reducible refine then_ret ?_ | with_reducible refine in_normal ?_ | with_reducible refine in_ret ?_ | with_reducible refine in_hit ?_ | with_reducible refine in_miss rfl ?_
      | go_values | go_skip | go_guarded | go_step | go_upon | go_in | go_back | (simp only [Int.not_lt, Int.not_le] at *; go_simp))
  go_ret
  exact ⟨rfl, rfl⟩
theorem form_9 (w : World) : Calls Tryd.prog 13 #[.string ⟨#[115, 108, 116]⟩] w fun e w' => e = .returned (.int .i64 3) ∧ w = w' := by
  go_enter Tryd.func13, Tryd.ntmps13
  repeat' (first
      | with_reducible refine then_normal ?_ | with_reducible refine then_exit ?_ | with_reducible refine then_ret ?_ | with_reducible refine in_normal ?_ | with_reducible refine in_ret ?_ | with_reducible refine in_hit ?_ | with_reducible refine in_miss rfl ?_
      | go_values | go_skip | go_guarded | go_step | go_upon | go_in | go_back | (simp only [Int.not_lt, Int.not_le] at *; go_simp))
  go_ret
  exact ⟨rfl, rfl⟩
theorem form_10 (w : World) : Calls Tryd.prog 13 #[.string ⟨#[115, 108, 116, 117]⟩] w fun e w' => e = .returned (.int .i64 3) ∧ w = w' := by
  go_enter Tryd.func13, Tryd.ntmps13
  repeat' (first
      | with_reducible refine then_normal ?_ | with_reducible refine then_exit ?_ | with_reducible refine then_ret ?_ | with_reducible refine in_normal ?_ | with_reducible refine in_ret ?_ | with_reducible refine in_hit ?_ | with_reducible refine in_miss rfl ?_
      | go_values | go_skip | go_guarded | go_step | go_upon | go_in | go_back | (simp only [Int.not_lt, Int.not_le] at *; go_simp))
  go_ret
  exact ⟨rfl, rfl⟩
theorem form_11 (w : World) : Calls Tryd.prog 13 #[.string ⟨#[100, 105, 118, 117]⟩] w fun e w' => e = .returned (.int .i64 3) ∧ w = w' := by
  go_enter Tryd.func13, Tryd.ntmps13
  repeat' (first
      | with_reducible refine then_normal ?_ | with_reducible refine then_exit ?_ | with_reducible refine then_ret ?_ | with_reducible refine in_normal ?_ | with_reducible refine in_ret ?_ | with_reducible refine in_hit ?_ | with_reducible refine in_miss rfl ?_
      | go_values | go_skip | go_guarded | go_step | go_upon | go_in | go_back | (simp only [Int.not_lt, Int.not_le] at *; go_simp))
  go_ret
  exact ⟨rfl, rfl⟩
theorem form_12 (w : World) : Calls Tryd.prog 13 #[.string ⟨#[114, 101, 109, 117]⟩] w fun e w' => e = .returned (.int .i64 3) ∧ w = w' := by
  go_enter Tryd.func13, Tryd.ntmps13
  repeat' (first
      | with_reducible refine then_normal ?_ | with_reducible refine then_exit ?_ | with_reducible refine then_ret ?_ | with_reducible refine in_normal ?_ | with_reducible refine in_ret ?_ | with_reducible refine in_hit ?_ | with_reducible refine in_miss rfl ?_
      | go_values | go_skip | go_guarded | go_step | go_upon | go_in | go_back | (simp only [Int.not_lt, Int.not_le] at *; go_simp))
  go_ret
  exact ⟨rfl, rfl⟩
theorem form_13 (w : World) : Calls Tryd.prog 13 #[.string ⟨#[97, 100, 100, 105]⟩] w fun e w' => e = .returned (.int .i64 4) ∧ w = w' := by
  go_enter Tryd.func13, Tryd.ntmps13
  repeat' (first
      | with_reducible refine then_normal ?_ | with_reducible refine then_exit ?_ | with_reducible refine then_ret ?_ | with_reducible refine in_normal ?_ | with_reducible refine in_ret ?_ | with_reducible refine in_hit ?_ | with_reducible refine in_miss rfl ?_
      | go_values | go_skip | go_guarded | go_step | go_upon | go_in | go_back | (simp only [Int.not_lt, Int.not_le] at *; go_simp))
  go_ret
  exact ⟨rfl, rfl⟩
theorem form_14 (w : World) : Calls Tryd.prog 13 #[.string ⟨#[97, 110, 100, 105]⟩] w fun e w' => e = .returned (.int .i64 4) ∧ w = w' := by
  go_enter Tryd.func13, Tryd.ntmps13
  repeat' (first
      | with_reducible refine then_normal ?_ | with_reducible refine then_exit ?_ | with_reducible refine then_ret ?_ | with_reducible refine in_normal ?_ | with_reducible refine in_ret ?_ | with_reducible refine in_hit ?_ | with_reducible refine in_miss rfl ?_
      | go_values | go_skip | go_guarded | go_step | go_upon | go_in | go_back | (simp only [Int.not_lt, Int.not_le] at *; go_simp))
  go_ret
  exact ⟨rfl, rfl⟩
theorem form_15 (w : World) : Calls Tryd.prog 13 #[.string ⟨#[111, 114, 105]⟩] w fun e w' => e = .returned (.int .i64 4) ∧ w = w' := by
  go_enter Tryd.func13, Tryd.ntmps13
  repeat' (first
      | with_reducible refine then_normal ?_ | with_reducible refine then_exit ?_ | with_reducible refine then_ret ?_ | with_reducible refine in_normal ?_ | with_reducible refine in_ret ?_ | with_reducible refine in_hit ?_ | with_reducible refine in_miss rfl ?_
      | go_values | go_skip | go_guarded | go_step | go_upon | go_in | go_back | (simp only [Int.not_lt, Int.not_le] at *; go_simp))
  go_ret
  exact ⟨rfl, rfl⟩
theorem form_16 (w : World) : Calls Tryd.prog 13 #[.string ⟨#[120, 111, 114, 105]⟩] w fun e w' => e = .returned (.int .i64 4) ∧ w = w' := by
  go_enter Tryd.func13, Tryd.ntmps13
  repeat' (first
      | with_reducible refine then_normal ?_ | with_reducible refine then_exit ?_ | with_reducible refine then_ret ?_ | with_reducible refine in_normal ?_ | with_reducible refine in_ret ?_ | with_reducible refine in_hit ?_ | with_reducible refine in_miss rfl ?_
      | go_values | go_skip | go_guarded | go_step | go_upon | go_in | go_back | (simp only [Int.not_lt, Int.not_le] at *; go_simp))
  go_ret
  exact ⟨rfl, rfl⟩
theorem form_17 (w : World) : Calls Tryd.prog 13 #[.string ⟨#[115, 108, 108, 105]⟩] w fun e w' => e = .returned (.int .i64 4) ∧ w = w' := by
  go_enter Tryd.func13, Tryd.ntmps13
  repeat' (first
      | with_reducible refine then_normal ?_ | with_reducible refine then_exit ?_ | with_reducible refine then_ret ?_ | with_reducible refine in_normal ?_ | with_reducible refine in_ret ?_ | with_reducible refine in_hit ?_ | with_reducible refine in_miss rfl ?_
      | go_values | go_skip | go_guarded | go_step | go_upon | go_in | go_back | (simp only [Int.not_lt, Int.not_le] at *; go_simp))
  go_ret
  exact ⟨rfl, rfl⟩
theorem form_18 (w : World) : Calls Tryd.prog 13 #[.string ⟨#[115, 114, 108, 105]⟩] w fun e w' => e = .returned (.int .i64 4) ∧ w = w' := by
  go_enter Tryd.func13, Tryd.ntmps13
  repeat' (first
      | with_reducible refine then_normal ?_ | with_reducible refine then_exit ?_ | with_reducible refine then_ret ?_ | with_reducible refine in_normal ?_ | with_reducible refine in_ret ?_ | with_reducible refine in_hit ?_ | with_reducible refine in_miss rfl ?_
      | go_values | go_skip | go_guarded | go_step | go_upon | go_in | go_back | (simp only [Int.not_lt, Int.not_le] at *; go_simp))
  go_ret
  exact ⟨rfl, rfl⟩
theorem form_19 (w : World) : Calls Tryd.prog 13 #[.string ⟨#[115, 108, 116, 105]⟩] w fun e w' => e = .returned (.int .i64 4) ∧ w = w' := by
  go_enter Tryd.func13, Tryd.ntmps13
  repeat' (first
      | with_reducible refine then_normal ?_ | with_reducible refine then_exit ?_ | with_reducible refine then_ret ?_ | with_reducible refine in_normal ?_ | with_reducible refine in_ret ?_ | with_reducible refine in_hit ?_ | with_reducible refine in_miss rfl ?_
      | go_values | go_skip | go_guarded | go_step | go_upon | go_in | go_back | (simp only [Int.not_lt, Int.not_le] at *; go_simp))
  go_ret
  exact ⟨rfl, rfl⟩
theorem form_20 (w : World) : Calls Tryd.prog 13 #[.string ⟨#[108, 105]⟩] w fun e w' => e = .returned (.int .i64 5) ∧ w = w' := by
  go_enter Tryd.func13, Tryd.ntmps13
  repeat' (first
      | with_reducible refine then_normal ?_ | with_reducible refine then_exit ?_ | with_reducible refine then_ret ?_ | with_reducible refine in_normal ?_ | with_reducible refine in_ret ?_ | with_reducible refine in_hit ?_ | with_reducible refine in_miss rfl ?_
      | go_values | go_skip | go_guarded | go_step | go_upon | go_in | go_back | (simp only [Int.not_lt, Int.not_le] at *; go_simp))
  go_ret
  exact ⟨rfl, rfl⟩
theorem form_21 (w : World) : Calls Tryd.prog 13 #[.string ⟨#[108, 117, 105]⟩] w fun e w' => e = .returned (.int .i64 5) ∧ w = w' := by
  go_enter Tryd.func13, Tryd.ntmps13
  repeat' (first
      | with_reducible refine then_normal ?_ | with_reducible refine then_exit ?_ | with_reducible refine then_ret ?_ | with_reducible refine in_normal ?_ | with_reducible refine in_ret ?_ | with_reducible refine in_hit ?_ | with_reducible refine in_miss rfl ?_
      | go_values | go_skip | go_guarded | go_step | go_upon | go_in | go_back | (simp only [Int.not_lt, Int.not_le] at *; go_simp))
  go_ret
  exact ⟨rfl, rfl⟩
theorem form_22 (w : World) : Calls Tryd.prog 13 #[.string ⟨#[109, 118]⟩] w fun e w' => e = .returned (.int .i64 2) ∧ w = w' := by
  go_enter Tryd.func13, Tryd.ntmps13
  repeat' (first
      | with_reducible refine then_normal ?_ | with_reducible refine then_exit ?_ | with_reducible refine then_ret ?_ | with_reducible refine in_normal ?_ | with_reducible refine in_ret ?_ | with_reducible refine in_hit ?_ | with_reducible refine in_miss rfl ?_
      | go_values | go_skip | go_guarded | go_step | go_upon | go_in | go_back | (simp only [Int.not_lt, Int.not_le] at *; go_simp))
  go_ret
  exact ⟨rfl, rfl⟩
theorem form_23 (w : World) : Calls Tryd.prog 13 #[.string ⟨#[99, 98, 97, 115, 101]⟩] w fun e w' => e = .returned (.int .i64 2) ∧ w = w' := by
  go_enter Tryd.func13, Tryd.ntmps13
  repeat' (first
      | with_reducible refine then_normal ?_ | with_reducible refine then_exit ?_ | with_reducible refine then_ret ?_ | with_reducible refine in_normal ?_ | with_reducible refine in_ret ?_ | with_reducible refine in_hit ?_ | with_reducible refine in_miss rfl ?_
      | go_values | go_skip | go_guarded | go_step | go_upon | go_in | go_back | (simp only [Int.not_lt, Int.not_le] at *; go_simp))
  go_ret
  exact ⟨rfl, rfl⟩
theorem form_24 (w : World) : Calls Tryd.prog 13 #[.string ⟨#[99, 116, 111, 112]⟩] w fun e w' => e = .returned (.int .i64 2) ∧ w = w' := by
  go_enter Tryd.func13, Tryd.ntmps13
  repeat' (first
      | with_reducible refine then_normal ?_ | with_reducible refine then_exit ?_ | with_reducible refine then_ret ?_ | with_reducible refine in_normal ?_ | with_reducible refine in_ret ?_ | with_reducible refine in_hit ?_ | with_reducible refine in_miss rfl ?_
      | go_values | go_skip | go_guarded | go_step | go_upon | go_in | go_back | (simp only [Int.not_lt, Int.not_le] at *; go_simp))
  go_ret
  exact ⟨rfl, rfl⟩
theorem form_25 (w : World) : Calls Tryd.prog 13 #[.string ⟨#[99, 97, 100, 100, 114]⟩] w fun e w' => e = .returned (.int .i64 2) ∧ w = w' := by
  go_enter Tryd.func13, Tryd.ntmps13
  repeat' (first
      | with_reducible refine then_normal ?_ | with_reducible refine then_exit ?_ | with_reducible refine then_ret ?_ | with_reducible refine in_normal ?_ | with_reducible refine in_ret ?_ | with_reducible refine in_hit ?_ | with_reducible refine in_miss rfl ?_
      | go_values | go_skip | go_guarded | go_step | go_upon | go_in | go_back | (simp only [Int.not_lt, Int.not_le] at *; go_simp))
  go_ret
  exact ⟨rfl, rfl⟩
theorem form_26 (w : World) : Calls Tryd.prog 13 #[.string ⟨#[99, 112, 101, 114, 109]⟩] w fun e w' => e = .returned (.int .i64 2) ∧ w = w' := by
  go_enter Tryd.func13, Tryd.ntmps13
  repeat' (first
      | with_reducible refine then_normal ?_ | with_reducible refine then_exit ?_ | with_reducible refine then_ret ?_ | with_reducible refine in_normal ?_ | with_reducible refine in_ret ?_ | with_reducible refine in_hit ?_ | with_reducible refine in_miss rfl ?_
      | go_values | go_skip | go_guarded | go_step | go_upon | go_in | go_back | (simp only [Int.not_lt, Int.not_le] at *; go_simp))
  go_ret
  exact ⟨rfl, rfl⟩
theorem form_27 (w : World) : Calls Tryd.prog 13 #[.string ⟨#[99, 116, 121, 112, 101]⟩] w fun e w' => e = .returned (.int .i64 2) ∧ w = w' := by
  go_enter Tryd.func13, Tryd.ntmps13
  repeat' (first
      | with_reducible refine then_normal ?_ | with_reducible refine then_exit ?_ | with_reducible refine then_ret ?_ | with_reducible refine in_normal ?_ | with_reducible refine in_ret ?_ | with_reducible refine in_hit ?_ | with_reducible refine in_miss rfl ?_
      | go_values | go_skip | go_guarded | go_step | go_upon | go_in | go_back | (simp only [Int.not_lt, Int.not_le] at *; go_simp))
  go_ret
  exact ⟨rfl, rfl⟩
theorem form_28 (w : World) : Calls Tryd.prog 13 #[.string ⟨#[99, 116, 97, 103]⟩] w fun e w' => e = .returned (.int .i64 2) ∧ w = w' := by
  go_enter Tryd.func13, Tryd.ntmps13
  repeat' (first
      | with_reducible refine then_normal ?_ | with_reducible refine then_exit ?_ | with_reducible refine then_ret ?_ | with_reducible refine in_normal ?_ | with_reducible refine in_ret ?_ | with_reducible refine in_hit ?_ | with_reducible refine in_miss rfl ?_
      | go_values | go_skip | go_guarded | go_step | go_upon | go_in | go_back | (simp only [Int.not_lt, Int.not_le] at *; go_simp))
  go_ret
  exact ⟨rfl, rfl⟩
theorem form_29 (w : World) : Calls Tryd.prog 13 #[.string ⟨#[99, 115, 101, 116, 97, 100, 100, 114]⟩] w fun e w' => e = .returned (.int .i64 3) ∧ w = w' := by
  go_enter Tryd.func13, Tryd.ntmps13
  repeat' (first
      | with_reducible refine then_normal ?_ | with_reducible refine then_exit ?_ | with_reducible refine then_ret ?_ | with_reducible refine in_normal ?_ | with_reducible refine in_ret ?_ | with_reducible refine in_hit ?_ | with_reducible refine in_miss rfl ?_
      | go_values | go_skip | go_guarded | go_step | go_upon | go_in | go_back | (simp only [Int.not_lt, Int.not_le] at *; go_simp))
  go_ret
  exact ⟨rfl, rfl⟩
theorem form_30 (w : World) : Calls Tryd.prog 13 #[.string ⟨#[99, 105, 110, 99]⟩] w fun e w' => e = .returned (.int .i64 3) ∧ w = w' := by
  go_enter Tryd.func13, Tryd.ntmps13
  repeat' (first
      | with_reducible refine then_normal ?_ | with_reducible refine then_exit ?_ | with_reducible refine then_ret ?_ | with_reducible refine in_normal ?_ | with_reducible refine in_ret ?_ | with_reducible refine in_hit ?_ | with_reducible refine in_miss rfl ?_
      | go_values | go_skip | go_guarded | go_step | go_upon | go_in | go_back | (simp only [Int.not_lt, Int.not_le] at *; go_simp))
  go_ret
  exact ⟨rfl, rfl⟩
theorem form_31 (w : World) : Calls Tryd.prog 13 #[.string ⟨#[99, 105, 110, 99, 105]⟩] w fun e w' => e = .returned (.int .i64 4) ∧ w = w' := by
  go_enter Tryd.func13, Tryd.ntmps13
  repeat' (first
      | with_reducible refine then_normal ?_ | with_reducible refine then_exit ?_ | with_reducible refine then_ret ?_ | with_reducible refine in_normal ?_ | with_reducible refine in_ret ?_ | with_reducible refine in_hit ?_ | with_reducible refine in_miss rfl ?_
      | go_values | go_skip | go_guarded | go_step | go_upon | go_in | go_back | (simp only [Int.not_lt, Int.not_le] at *; go_simp))
  go_ret
  exact ⟨rfl, rfl⟩
theorem form_32 (w : World) : Calls Tryd.prog 13 #[.string ⟨#[99, 98, 111, 117, 110, 100, 115]⟩] w fun e w' => e = .returned (.int .i64 3) ∧ w = w' := by
  go_enter Tryd.func13, Tryd.ntmps13
  repeat' (first
      | with_reducible refine then_normal ?_ | with_reducible refine then_exit ?_ | with_reducible refine then_ret ?_ | with_reducible refine in_normal ?_ | with_reducible refine in_ret ?_ | with_reducible refine in_hit ?_ | with_reducible refine in_miss rfl ?_
      | go_values | go_skip | go_guarded | go_step | go_upon | go_in | go_back | (simp only [Int.not_lt, Int.not_le] at *; go_simp))
  go_ret
  exact ⟨rfl, rfl⟩
theorem form_33 (w : World) : Calls Tryd.prog 13 #[.string ⟨#[99, 98, 111, 117, 110, 100, 115, 105]⟩] w fun e w' => e = .returned (.int .i64 4) ∧ w = w' := by
  go_enter Tryd.func13, Tryd.ntmps13
  repeat' (first
      | with_reducible refine then_normal ?_ | with_reducible refine then_exit ?_ | with_reducible refine then_ret ?_ | with_reducible refine in_normal ?_ | with_reducible refine in_ret ?_ | with_reducible refine in_hit ?_ | with_reducible refine in_miss rfl ?_
      | go_values | go_skip | go_guarded | go_step | go_upon | go_in | go_back | (simp only [Int.not_lt, Int.not_le] at *; go_simp))
  go_ret
  exact ⟨rfl, rfl⟩
theorem form_34 (w : World) : Calls Tryd.prog 13 #[.string ⟨#[99, 97, 110, 100, 112]⟩] w fun e w' => e = .returned (.int .i64 3) ∧ w = w' := by
  go_enter Tryd.func13, Tryd.ntmps13
  repeat' (first
      | with_reducible refine then_normal ?_ | with_reducible refine then_exit ?_ | with_reducible refine then_ret ?_ | with_reducible refine in_normal ?_ | with_reducible refine in_ret ?_ | with_reducible refine in_hit ?_ | with_reducible refine in_miss rfl ?_
      | go_values | go_skip | go_guarded | go_step | go_upon | go_in | go_back | (simp only [Int.not_lt, Int.not_le] at *; go_simp))
  go_ret
  exact ⟨rfl, rfl⟩
theorem form_35 (w : World) : Calls Tryd.prog 13 #[.string ⟨#[99, 97, 110, 100, 112, 105]⟩] w fun e w' => e = .returned (.int .i64 4) ∧ w = w' := by
  go_enter Tryd.func13, Tryd.ntmps13
  repeat' (first
      | with_reducible refine then_normal ?_ | with_reducible refine then_exit ?_ | with_reducible refine then_ret ?_ | with_reducible refine in_normal ?_ | with_reducible refine in_ret ?_ | with_reducible refine in_hit ?_ | with_reducible refine in_miss rfl ?_
      | go_values | go_skip | go_guarded | go_step | go_upon | go_in | go_back | (simp only [Int.not_lt, Int.not_le] at *; go_simp))
  go_ret
  exact ⟨rfl, rfl⟩
theorem form_36 (w : World) : Calls Tryd.prog 13 #[.string ⟨#[99, 99, 108, 101, 97, 114]⟩] w fun e w' => e = .returned (.int .i64 2) ∧ w = w' := by
  go_enter Tryd.func13, Tryd.ntmps13
  repeat' (first
      | with_reducible refine then_normal ?_ | with_reducible refine then_exit ?_ | with_reducible refine then_ret ?_ | with_reducible refine in_normal ?_ | with_reducible refine in_ret ?_ | with_reducible refine in_hit ?_ | with_reducible refine in_miss rfl ?_
      | go_values | go_skip | go_guarded | go_step | go_upon | go_in | go_back | (simp only [Int.not_lt, Int.not_le] at *; go_simp))
  go_ret
  exact ⟨rfl, rfl⟩
theorem form_37 (w : World) : Calls Tryd.prog 13 #[.string ⟨#[99, 115, 101, 97, 108]⟩] w fun e w' => e = .returned (.int .i64 3) ∧ w = w' := by
  go_enter Tryd.func13, Tryd.ntmps13
  repeat' (first
      | with_reducible refine then_normal ?_ | with_reducible refine then_exit ?_ | with_reducible refine then_ret ?_ | with_reducible refine in_normal ?_ | with_reducible refine in_ret ?_ | with_reducible refine in_hit ?_ | with_reducible refine in_miss rfl ?_
      | go_values | go_skip | go_guarded | go_step | go_upon | go_in | go_back | (simp only [Int.not_lt, Int.not_le] at *; go_simp))
  go_ret
  exact ⟨rfl, rfl⟩
theorem form_38 (w : World) : Calls Tryd.prog 13 #[.string ⟨#[99, 117, 110, 115, 101, 97, 108]⟩] w fun e w' => e = .returned (.int .i64 3) ∧ w = w' := by
  go_enter Tryd.func13, Tryd.ntmps13
  repeat' (first
      | with_reducible refine then_normal ?_ | with_reducible refine then_exit ?_ | with_reducible refine then_ret ?_ | with_reducible refine in_normal ?_ | with_reducible refine in_ret ?_ | with_reducible refine in_hit ?_ | with_reducible refine in_miss rfl ?_
      | go_values | go_skip | go_guarded | go_step | go_upon | go_in | go_back | (simp only [Int.not_lt, Int.not_le] at *; go_simp))
  go_ret
  exact ⟨rfl, rfl⟩
theorem form_39 (w : World) : Calls Tryd.prog 13 #[.string ⟨#[99, 101, 110, 116, 101, 114]⟩] w fun e w' => e = .returned (.int .i64 2) ∧ w = w' := by
  go_enter Tryd.func13, Tryd.ntmps13
  repeat' (first
      | with_reducible refine then_normal ?_ | with_reducible refine then_exit ?_ | with_reducible refine then_ret ?_ | with_reducible refine in_normal ?_ | with_reducible refine in_ret ?_ | with_reducible refine in_hit ?_ | with_reducible refine in_miss rfl ?_
      | go_values | go_skip | go_guarded | go_step | go_upon | go_in | go_back | (simp only [Int.not_lt, Int.not_le] at *; go_simp))
  go_ret
  exact ⟨rfl, rfl⟩
theorem form_40 (w : World) : Calls Tryd.prog 13 #[.string ⟨#[99, 115, 117, 98]⟩] w fun e w' => e = .returned (.int .i64 3) ∧ w = w' := by
  go_enter Tryd.func13, Tryd.ntmps13
  repeat' (first
      | with_reducible refine then_normal ?_ | with_reducible refine then_exit ?_ | with_reducible refine then_ret ?_ | with_reducible refine in_normal ?_ | with_reducible refine in_ret ?_ | with_reducible refine in_hit ?_ | with_reducible refine in_miss rfl ?_
      | go_values | go_skip | go_guarded | go_step | go_upon | go_in | go_back | (simp only [Int.not_lt, Int.not_le] at *; go_simp))
  go_ret
  exact ⟨rfl, rfl⟩
theorem form_41 (w : World) : Calls Tryd.prog 13 #[.string ⟨#[99, 115, 117, 98, 115, 101, 116]⟩] w fun e w' => e = .returned (.int .i64 3) ∧ w = w' := by
  go_enter Tryd.func13, Tryd.ntmps13
  repeat' (first
      | with_reducible refine then_normal ?_ | with_reducible refine then_exit ?_ | with_reducible refine then_ret ?_ | with_reducible refine in_normal ?_ | with_reducible refine in_ret ?_ | with_reducible refine in_hit ?_ | with_reducible refine in_miss rfl ?_
      | go_values | go_skip | go_guarded | go_step | go_upon | go_in | go_back | (simp only [Int.not_lt, Int.not_le] at *; go_simp))
  go_ret
  exact ⟨rfl, rfl⟩
theorem form_42 (w : World) : Calls Tryd.prog 13 #[.string ⟨#[99, 101, 113]⟩] w fun e w' => e = .returned (.int .i64 3) ∧ w = w' := by
  go_enter Tryd.func13, Tryd.ntmps13
  repeat' (first
      | with_reducible refine then_normal ?_ | with_reducible refine then_exit ?_ | with_reducible refine then_ret ?_ | with_reducible refine in_normal ?_ | with_reducible refine in_ret ?_ | with_reducible refine in_hit ?_ | with_reducible refine in_miss rfl ?_
      | go_values | go_skip | go_guarded | go_step | go_upon | go_in | go_back | (simp only [Int.not_lt, Int.not_le] at *; go_simp))
  go_ret
  exact ⟨rfl, rfl⟩
theorem form_43 (w : World) : Calls Tryd.prog 13 #[.string ⟨#[108, 98]⟩] w fun e w' => e = .returned (.int .i64 8) ∧ w = w' := by
  go_enter Tryd.func13, Tryd.ntmps13
  repeat' (first
      | with_reducible refine then_normal ?_ | with_reducible refine then_exit ?_ | with_reducible refine then_ret ?_ | with_reducible refine in_normal ?_ | with_reducible refine in_ret ?_ | with_reducible refine in_hit ?_ | with_reducible refine in_miss rfl ?_
      | go_values | go_skip | go_guarded | go_step | go_upon | go_in | go_back | (simp only [Int.not_lt, Int.not_le] at *; go_simp))
  go_ret
  exact ⟨rfl, rfl⟩
theorem form_44 (w : World) : Calls Tryd.prog 13 #[.string ⟨#[108, 98, 117]⟩] w fun e w' => e = .returned (.int .i64 8) ∧ w = w' := by
  go_enter Tryd.func13, Tryd.ntmps13
  repeat' (first
      | with_reducible refine then_normal ?_ | with_reducible refine then_exit ?_ | with_reducible refine then_ret ?_ | with_reducible refine in_normal ?_ | with_reducible refine in_ret ?_ | with_reducible refine in_hit ?_ | with_reducible refine in_miss rfl ?_
      | go_values | go_skip | go_guarded | go_step | go_upon | go_in | go_back | (simp only [Int.not_lt, Int.not_le] at *; go_simp))
  go_ret
  exact ⟨rfl, rfl⟩
theorem form_45 (w : World) : Calls Tryd.prog 13 #[.string ⟨#[108, 104]⟩] w fun e w' => e = .returned (.int .i64 8) ∧ w = w' := by
  go_enter Tryd.func13, Tryd.ntmps13
  repeat' (first
      | with_reducible refine then_normal ?_ | with_reducible refine then_exit ?_ | with_reducible refine then_ret ?_ | with_reducible refine in_normal ?_ | with_reducible refine in_ret ?_ | with_reducible refine in_hit ?_ | with_reducible refine in_miss rfl ?_
      | go_values | go_skip | go_guarded | go_step | go_upon | go_in | go_back | (simp only [Int.not_lt, Int.not_le] at *; go_simp))
  go_ret
  exact ⟨rfl, rfl⟩
theorem form_46 (w : World) : Calls Tryd.prog 13 #[.string ⟨#[108, 104, 117]⟩] w fun e w' => e = .returned (.int .i64 8) ∧ w = w' := by
  go_enter Tryd.func13, Tryd.ntmps13
  repeat' (first
      | with_reducible refine then_normal ?_ | with_reducible refine then_exit ?_ | with_reducible refine then_ret ?_ | with_reducible refine in_normal ?_ | with_reducible refine in_ret ?_ | with_reducible refine in_hit ?_ | with_reducible refine in_miss rfl ?_
      | go_values | go_skip | go_guarded | go_step | go_upon | go_in | go_back | (simp only [Int.not_lt, Int.not_le] at *; go_simp))
  go_ret
  exact ⟨rfl, rfl⟩
theorem form_47 (w : World) : Calls Tryd.prog 13 #[.string ⟨#[108, 119]⟩] w fun e w' => e = .returned (.int .i64 8) ∧ w = w' := by
  go_enter Tryd.func13, Tryd.ntmps13
  repeat' (first
      | with_reducible refine then_normal ?_ | with_reducible refine then_exit ?_ | with_reducible refine then_ret ?_ | with_reducible refine in_normal ?_ | with_reducible refine in_ret ?_ | with_reducible refine in_hit ?_ | with_reducible refine in_miss rfl ?_
      | go_values | go_skip | go_guarded | go_step | go_upon | go_in | go_back | (simp only [Int.not_lt, Int.not_le] at *; go_simp))
  go_ret
  exact ⟨rfl, rfl⟩
theorem form_48 (w : World) : Calls Tryd.prog 13 #[.string ⟨#[108, 99]⟩] w fun e w' => e = .returned (.int .i64 8) ∧ w = w' := by
  go_enter Tryd.func13, Tryd.ntmps13
  repeat' (first
      | with_reducible refine then_normal ?_ | with_reducible refine then_exit ?_ | with_reducible refine then_ret ?_ | with_reducible refine in_normal ?_ | with_reducible refine in_ret ?_ | with_reducible refine in_hit ?_ | with_reducible refine in_miss rfl ?_
      | go_values | go_skip | go_guarded | go_step | go_upon | go_in | go_back | (simp only [Int.not_lt, Int.not_le] at *; go_simp))
  go_ret
  exact ⟨rfl, rfl⟩
theorem form_49 (w : World) : Calls Tryd.prog 13 #[.string ⟨#[115, 98]⟩] w fun e w' => e = .returned (.int .i64 8) ∧ w = w' := by
  go_enter Tryd.func13, Tryd.ntmps13
  repeat' (first
      | with_reducible refine then_normal ?_ | with_reducible refine then_exit ?_ | with_reducible refine then_ret ?_ | with_reducible refine in_normal ?_ | with_reducible refine in_ret ?_ | with_reducible refine in_hit ?_ | with_reducible refine in_miss rfl ?_
      | go_values | go_skip | go_guarded | go_step | go_upon | go_in | go_back | (simp only [Int.not_lt, Int.not_le] at *; go_simp))
  go_ret
  exact ⟨rfl, rfl⟩
theorem form_50 (w : World) : Calls Tryd.prog 13 #[.string ⟨#[115, 104]⟩] w fun e w' => e = .returned (.int .i64 8) ∧ w = w' := by
  go_enter Tryd.func13, Tryd.ntmps13
  repeat' (first
      | with_reducible refine then_normal ?_ | with_reducible refine then_exit ?_ | with_reducible refine then_ret ?_ | with_reducible refine in_normal ?_ | with_reducible refine in_ret ?_ | with_reducible refine in_hit ?_ | with_reducible refine in_miss rfl ?_
      | go_values | go_skip | go_guarded | go_step | go_upon | go_in | go_back | (simp only [Int.not_lt, Int.not_le] at *; go_simp))
  go_ret
  exact ⟨rfl, rfl⟩
theorem form_51 (w : World) : Calls Tryd.prog 13 #[.string ⟨#[115, 119]⟩] w fun e w' => e = .returned (.int .i64 8) ∧ w = w' := by
  go_enter Tryd.func13, Tryd.ntmps13
  repeat' (first
      | with_reducible refine then_normal ?_ | with_reducible refine then_exit ?_ | with_reducible refine then_ret ?_ | with_reducible refine in_normal ?_ | with_reducible refine in_ret ?_ | with_reducible refine in_hit ?_ | with_reducible refine in_miss rfl ?_
      | go_values | go_skip | go_guarded | go_step | go_upon | go_in | go_back | (simp only [Int.not_lt, Int.not_le] at *; go_simp))
  go_ret
  exact ⟨rfl, rfl⟩
theorem form_52 (w : World) : Calls Tryd.prog 13 #[.string ⟨#[115, 99]⟩] w fun e w' => e = .returned (.int .i64 8) ∧ w = w' := by
  go_enter Tryd.func13, Tryd.ntmps13
  repeat' (first
      | with_reducible refine then_normal ?_ | with_reducible refine then_exit ?_ | with_reducible refine then_ret ?_ | with_reducible refine in_normal ?_ | with_reducible refine in_ret ?_ | with_reducible refine in_hit ?_ | with_reducible refine in_miss rfl ?_
      | go_values | go_skip | go_guarded | go_step | go_upon | go_in | go_back | (simp only [Int.not_lt, Int.not_le] at *; go_simp))
  go_ret
  exact ⟨rfl, rfl⟩
theorem form_53 (w : World) : Calls Tryd.prog 13 #[.string ⟨#[98, 101, 113]⟩] w fun e w' => e = .returned (.int .i64 6) ∧ w = w' := by
  go_enter Tryd.func13, Tryd.ntmps13
  repeat' (first
      | with_reducible refine then_normal ?_ | with_reducible refine then_exit ?_ | with_reducible refine then_ret ?_ | with_reducible refine in_normal ?_ | with_reducible refine in_ret ?_ | with_reducible refine in_hit ?_ | with_reducible refine in_miss rfl ?_
      | go_values | go_skip | go_guarded | go_step | go_upon | go_in | go_back | (simp only [Int.not_lt, Int.not_le] at *; go_simp))
  go_ret
  exact ⟨rfl, rfl⟩
theorem form_54 (w : World) : Calls Tryd.prog 13 #[.string ⟨#[98, 110, 101]⟩] w fun e w' => e = .returned (.int .i64 6) ∧ w = w' := by
  go_enter Tryd.func13, Tryd.ntmps13
  repeat' (first
      | with_reducible refine then_normal ?_ | with_reducible refine then_exit ?_ | with_reducible refine then_ret ?_ | with_reducible refine in_normal ?_ | with_reducible refine in_ret ?_ | with_reducible refine in_hit ?_ | with_reducible refine in_miss rfl ?_
      | go_values | go_skip | go_guarded | go_step | go_upon | go_in | go_back | (simp only [Int.not_lt, Int.not_le] at *; go_simp))
  go_ret
  exact ⟨rfl, rfl⟩
theorem form_55 (w : World) : Calls Tryd.prog 13 #[.string ⟨#[98, 108, 116]⟩] w fun e w' => e = .returned (.int .i64 6) ∧ w = w' := by
  go_enter Tryd.func13, Tryd.ntmps13
  repeat' (first
      | with_reducible refine then_normal ?_ | with_reducible refine then_exit ?_ | with_reducible refine then_ret ?_ | with_reducible refine in_normal ?_ | with_reducible refine in_ret ?_ | with_reducible refine in_hit ?_ | with_reducible refine in_miss rfl ?_
      | go_values | go_skip | go_guarded | go_step | go_upon | go_in | go_back | (simp only [Int.not_lt, Int.not_le] at *; go_simp))
  go_ret
  exact ⟨rfl, rfl⟩
theorem form_56 (w : World) : Calls Tryd.prog 13 #[.string ⟨#[98, 103, 101]⟩] w fun e w' => e = .returned (.int .i64 6) ∧ w = w' := by
  go_enter Tryd.func13, Tryd.ntmps13
  repeat' (first
      | with_reducible refine then_normal ?_ | with_reducible refine then_exit ?_ | with_reducible refine then_ret ?_ | with_reducible refine in_normal ?_ | with_reducible refine in_ret ?_ | with_reducible refine in_hit ?_ | with_reducible refine in_miss rfl ?_
      | go_values | go_skip | go_guarded | go_step | go_upon | go_in | go_back | (simp only [Int.not_lt, Int.not_le] at *; go_simp))
  go_ret
  exact ⟨rfl, rfl⟩
theorem form_57 (w : World) : Calls Tryd.prog 13 #[.string ⟨#[98, 108, 116, 117]⟩] w fun e w' => e = .returned (.int .i64 6) ∧ w = w' := by
  go_enter Tryd.func13, Tryd.ntmps13
  repeat' (first
      | with_reducible refine then_normal ?_ | with_reducible refine then_exit ?_ | with_reducible refine then_ret ?_ | with_reducible refine in_normal ?_ | with_reducible refine in_ret ?_ | with_reducible refine in_hit ?_ | with_reducible refine in_miss rfl ?_
      | go_values | go_skip | go_guarded | go_step | go_upon | go_in | go_back | (simp only [Int.not_lt, Int.not_le] at *; go_simp))
  go_ret
  exact ⟨rfl, rfl⟩
theorem form_58 (w : World) : Calls Tryd.prog 13 #[.string ⟨#[98, 103, 101, 117]⟩] w fun e w' => e = .returned (.int .i64 6) ∧ w = w' := by
  go_enter Tryd.func13, Tryd.ntmps13
  repeat' (first
      | with_reducible refine then_normal ?_ | with_reducible refine then_exit ?_ | with_reducible refine then_ret ?_ | with_reducible refine in_normal ?_ | with_reducible refine in_ret ?_ | with_reducible refine in_hit ?_ | with_reducible refine in_miss rfl ?_
      | go_values | go_skip | go_guarded | go_step | go_upon | go_in | go_back | (simp only [Int.not_lt, Int.not_le] at *; go_simp))
  go_ret
  exact ⟨rfl, rfl⟩
theorem form_59 (w : World) : Calls Tryd.prog 13 #[.string ⟨#[106, 97, 108]⟩] w fun e w' => e = .returned (.int .i64 7) ∧ w = w' := by
  go_enter Tryd.func13, Tryd.ntmps13
  repeat' (first
      | with_reducible refine then_normal ?_ | with_reducible refine then_exit ?_ | with_reducible refine then_ret ?_ | with_reducible refine in_normal ?_ | with_reducible refine in_ret ?_ | with_reducible refine in_hit ?_ | with_reducible refine in_miss rfl ?_
      | go_values | go_skip | go_guarded | go_step | go_upon | go_in | go_back | (simp only [Int.not_lt, Int.not_le] at *; go_simp))
  go_ret
  exact ⟨rfl, rfl⟩
theorem form_60 (w : World) : Calls Tryd.prog 13 #[.string ⟨#[106, 97, 108, 114]⟩] w fun e w' => e = .returned (.int .i64 4) ∧ w = w' := by
  go_enter Tryd.func13, Tryd.ntmps13
  repeat' (first
      | with_reducible refine then_normal ?_ | with_reducible refine then_exit ?_ | with_reducible refine then_ret ?_ | with_reducible refine in_normal ?_ | with_reducible refine in_ret ?_ | with_reducible refine in_hit ?_ | with_reducible refine in_miss rfl ?_
      | go_values | go_skip | go_guarded | go_step | go_upon | go_in | go_back | (simp only [Int.not_lt, Int.not_le] at *; go_simp))
  go_ret
  exact ⟨rfl, rfl⟩
theorem form_61 (w : World) : Calls Tryd.prog 13 #[.string ⟨#[97, 117, 105, 112, 99, 99]⟩] w fun e w' => e = .returned (.int .i64 5) ∧ w = w' := by
  go_enter Tryd.func13, Tryd.ntmps13
  repeat' (first
      | with_reducible refine then_normal ?_ | with_reducible refine then_exit ?_ | with_reducible refine then_ret ?_ | with_reducible refine in_normal ?_ | with_reducible refine in_ret ?_ | with_reducible refine in_hit ?_ | with_reducible refine in_miss rfl ?_
      | go_values | go_skip | go_guarded | go_step | go_upon | go_in | go_back | (simp only [Int.not_lt, Int.not_le] at *; go_simp))
  go_ret
  exact ⟨rfl, rfl⟩
theorem form_62 (w : World) : Calls Tryd.prog 13 #[.string ⟨#[105, 110]⟩] w fun e w' => e = .returned (.int .i64 1) ∧ w = w' := by
  go_enter Tryd.func13, Tryd.ntmps13
  repeat' (first
      | with_reducible refine then_normal ?_ | with_reducible refine then_exit ?_ | with_reducible refine then_ret ?_ | with_reducible refine in_normal ?_ | with_reducible refine in_ret ?_ | with_reducible refine in_hit ?_ | with_reducible refine in_miss rfl ?_
      | go_values | go_skip | go_guarded | go_step | go_upon | go_in | go_back | (simp only [Int.not_lt, Int.not_le] at *; go_simp))
  go_ret
  exact ⟨rfl, rfl⟩
theorem form_63 (w : World) : Calls Tryd.prog 13 #[.string ⟨#[111, 117, 116]⟩] w fun e w' => e = .returned (.int .i64 1) ∧ w = w' := by
  go_enter Tryd.func13, Tryd.ntmps13
  repeat' (first
      | with_reducible refine then_normal ?_ | with_reducible refine then_exit ?_ | with_reducible refine then_ret ?_ | with_reducible refine in_normal ?_ | with_reducible refine in_ret ?_ | with_reducible refine in_hit ?_ | with_reducible refine in_miss rfl ?_
      | go_values | go_skip | go_guarded | go_step | go_upon | go_in | go_back | (simp only [Int.not_lt, Int.not_le] at *; go_simp))
  go_ret
  exact ⟨rfl, rfl⟩
theorem form_64 (w : World) : Calls Tryd.prog 13 #[.string ⟨#[104, 97, 108, 116]⟩] w fun e w' => e = .returned (.int .i64 0) ∧ w = w' := by
  go_enter Tryd.func13, Tryd.ntmps13
  repeat' (first
      | with_reducible refine then_normal ?_ | with_reducible refine then_exit ?_ | with_reducible refine then_ret ?_ | with_reducible refine in_normal ?_ | with_reducible refine in_ret ?_ | with_reducible refine in_hit ?_ | with_reducible refine in_miss rfl ?_
      | go_values | go_skip | go_guarded | go_step | go_upon | go_in | go_back | (simp only [Int.not_lt, Int.not_le] at *; go_simp))
  go_ret
  exact ⟨rfl, rfl⟩
theorem form_65 (w : World) : Calls Tryd.prog 13 #[.string ⟨#[101, 99, 97, 108, 108]⟩] w fun e w' => e = .returned (.int .i64 9) ∧ w = w' := by
  go_enter Tryd.func13, Tryd.ntmps13
  repeat' (first
      | with_reducible refine then_normal ?_ | with_reducible refine then_exit ?_ | with_reducible refine then_ret ?_ | with_reducible refine in_normal ?_ | with_reducible refine in_ret ?_ | with_reducible refine in_hit ?_ | with_reducible refine in_miss rfl ?_
      | go_values | go_skip | go_guarded | go_step | go_upon | go_in | go_back | (simp only [Int.not_lt, Int.not_le] at *; go_simp))
  go_ret
  exact ⟨rfl, rfl⟩
theorem form_66 (w : World) : Calls Tryd.prog 13 #[.string ⟨#[110, 111, 112]⟩] w fun e w' => e = .returned (.int .i64 0) ∧ w = w' := by
  go_enter Tryd.func13, Tryd.ntmps13
  repeat' (first
      | with_reducible refine then_normal ?_ | with_reducible refine then_exit ?_ | with_reducible refine then_ret ?_ | with_reducible refine in_normal ?_ | with_reducible refine in_ret ?_ | with_reducible refine in_hit ?_ | with_reducible refine in_miss rfl ?_
      | go_values | go_skip | go_guarded | go_step | go_upon | go_in | go_back | (simp only [Int.not_lt, Int.not_le] at *; go_simp))
  go_ret
  exact ⟨rfl, rfl⟩
theorem form_any (i : Nat) (hi : i < 67) (w : World) : Calls Tryd.prog 13 #[.string (opName i)] w fun e w' => e = .returned (.int .i64 (opForm i)) ∧ w = w' := by
  match i, hi with
  | 0, _ => exact form_0 w
  | 1, _ => exact form_1 w
  | 2, _ => exact form_2 w
  | 3, _ => exact form_3 w
  | 4, _ => exact form_4 w
  | 5, _ => exact form_5 w
  | 6, _ => exact form_6 w
  | 7, _ => exact form_7 w
  | 8, _ => exact form_8 w
  | 9, _ => exact form_9 w
  | 10, _ => exact form_10 w
  | 11, _ => exact form_11 w
  | 12, _ => exact form_12 w
  | 13, _ => exact form_13 w
  | 14, _ => exact form_14 w
  | 15, _ => exact form_15 w
  | 16, _ => exact form_16 w
  | 17, _ => exact form_17 w
  | 18, _ => exact form_18 w
  | 19, _ => exact form_19 w
  | 20, _ => exact form_20 w
  | 21, _ => exact form_21 w
  | 22, _ => exact form_22 w
  | 23, _ => exact form_23 w
  | 24, _ => exact form_24 w
  | 25, _ => exact form_25 w
  | 26, _ => exact form_26 w
  | 27, _ => exact form_27 w
  | 28, _ => exact form_28 w
  | 29, _ => exact form_29 w
  | 30, _ => exact form_30 w
  | 31, _ => exact form_31 w
  | 32, _ => exact form_32 w
  | 33, _ => exact form_33 w
  | 34, _ => exact form_34 w
  | 35, _ => exact form_35 w
  | 36, _ => exact form_36 w
  | 37, _ => exact form_37 w
  | 38, _ => exact form_38 w
  | 39, _ => exact form_39 w
  | 40, _ => exact form_40 w
  | 41, _ => exact form_41 w
  | 42, _ => exact form_42 w
  | 43, _ => exact form_43 w
  | 44, _ => exact form_44 w
  | 45, _ => exact form_45 w
  | 46, _ => exact form_46 w
  | 47, _ => exact form_47 w
  | 48, _ => exact form_48 w
  | 49, _ => exact form_49 w
  | 50, _ => exact form_50 w
  | 51, _ => exact form_51 w
  | 52, _ => exact form_52 w
  | 53, _ => exact form_53 w
  | 54, _ => exact form_54 w
  | 55, _ => exact form_55 w
  | 56, _ => exact form_56 w
  | 57, _ => exact form_57 w
  | 58, _ => exact form_58 w
  | 59, _ => exact form_59 w
  | 60, _ => exact form_60 w
  | 61, _ => exact form_61 w
  | 62, _ => exact form_62 w
  | 63, _ => exact form_63 w
  | 64, _ => exact form_64 w
  | 65, _ => exact form_65 w
  | 66, _ => exact form_66 w
  | (n + 67), h => omega
end Go.Proofs.YtbpmjegpoafhgaaDoor
