/- The reference's bytes: letter, digit, hex. -/
import Derived.Test.YtbmjnfnekmeegaaGreatDoorGPlainO
import Derived.Test.YtbmjnfnekmeegaaGreatDoorChecked
import Derived.WalkKit
import Derived.Lib.Hide
namespace Go.Proofs.YtbmjnfnekmeegaaGreatDoor
set_option linter.unusedVariables false
set_option linter.unusedSimpArgs false
open Go.RowKit
theorem lxLetter_iff (c : Int) : lxLetter c = true ↔ (97 ≤ c ∧ c ≤ 122) ∨ (65 ≤ c ∧ c ≤ 90) ∨ c = 95 := by simp [lxLetter, or_assoc]
theorem lxDigit_iff (c : Int) : lxDigit c = true ↔ 48 ≤ c ∧ c ≤ 57 := by simp [lxDigit]
theorem rletter_any (c : Int) (w : World) : Calls Tryz.prog 129 #[.int .u8 c] w fun e w' => e = .returned (.bool (lxLetter c)) ∧ w = w' := by
  rcases (by omega : c < 65 ∨ (65 ≤ c ∧ c ≤ 90) ∨ (91 ≤ c ∧ c ≤ 94) ∨ c = 95 ∨ c = 96 ∨ (97 ≤ c ∧ c ≤ 122) ∨ 123 ≤ c) with h | h | h | h | h | h | h
  · have q : (c == 95) = false := by simp; omega
    rw [show lxLetter c = false by rw [← Bool.not_eq_true, lxLetter_iff]; omega]
    go_enter Tryz.func129, Tryz.ntmps129
    go_wp2_with fail
    go_ret
    exact ⟨rfl, rfl⟩
  · obtain ⟨h2, h3⟩ := h
    have q : (c == 95) = false := by simp; omega
    rw [show lxLetter c = true by rw [lxLetter_iff]; omega]
    go_enter Tryz.func129, Tryz.ntmps129
    go_wp2_with fail
    go_ret
    exact ⟨rfl, rfl⟩
  · obtain ⟨h2, h3⟩ := h
    have q : (c == 95) = false := by simp; omega
    have q2 : decide (c ≤ 90) = false := decide_eq_false (by omega)
    rw [show lxLetter c = false by rw [← Bool.not_eq_true, lxLetter_iff]; omega]
    go_enter Tryz.func129, Tryz.ntmps129
    go_wp2_with fail
    go_ret
    exact ⟨rfl, rfl⟩
  · subst h
    go_enter Tryz.func129, Tryz.ntmps129
    go_wp2_with fail
    go_ret
    exact ⟨rfl, rfl⟩
  · subst h
    go_enter Tryz.func129, Tryz.ntmps129
    go_wp2_with fail
    go_ret
    exact ⟨rfl, rfl⟩
  · obtain ⟨h2, h3⟩ := h
    rw [show lxLetter c = true by rw [lxLetter_iff]; omega]
    go_enter Tryz.func129, Tryz.ntmps129
    go_wp2_with fail
    go_ret
    exact ⟨rfl, rfl⟩
  · have q : (c == 95) = false := by simp; omega
    have q2 : decide (c ≤ 90) = false := decide_eq_false (by omega)
    have q3 : decide (c ≤ 122) = false := decide_eq_false (by omega)
    rw [show lxLetter c = false by rw [← Bool.not_eq_true, lxLetter_iff]; omega]
    go_enter Tryz.func129, Tryz.ntmps129
    go_wp2_with fail
    go_ret
    exact ⟨rfl, rfl⟩
theorem rdigit_any (c : Int) (w : World) : Calls Tryz.prog 128 #[.int .u8 c] w fun e w' => e = .returned (.bool (lxDigit c)) ∧ w = w' := by
  rcases (by omega : c < 48 ∨ (48 ≤ c ∧ c ≤ 57) ∨ 58 ≤ c) with h | h | h
  · rw [show lxDigit c = false by rw [← Bool.not_eq_true, lxDigit_iff]; omega]
    go_enter Tryz.func128, Tryz.ntmps128
    go_wp2_with fail
    go_ret
    exact ⟨rfl, rfl⟩
  · obtain ⟨h2, h3⟩ := h
    rw [show lxDigit c = true by rw [lxDigit_iff]; omega]
    go_enter Tryz.func128, Tryz.ntmps128
    go_wp2_with fail
    go_ret
    exact ⟨rfl, rfl⟩
  · have q : decide (c ≤ 57) = false := decide_eq_false (by omega)
    rw [show lxDigit c = false by rw [← Bool.not_eq_true, lxDigit_iff]; omega]
    go_enter Tryz.func128, Tryz.ntmps128
    go_wp2_with fail
    go_ret
    exact ⟨rfl, rfl⟩
end Go.Proofs.YtbmjnfnekmeegaaGreatDoor
