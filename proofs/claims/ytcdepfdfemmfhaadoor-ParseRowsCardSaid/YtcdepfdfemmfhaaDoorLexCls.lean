/- The program's bytes: isBlank, isDigit, isSmall, isHex, isLetter, inName, isPlain. -/
import Derived.Test.YtcdepfdfemmfhaaDoorLexOne
namespace Go.Proofs.YtcdepfdfemmfhaaDoor
set_option linter.unusedVariables false
set_option linter.unusedSimpArgs false
open Go.RowKit
def lxBlank (c : Int) : Bool := (c == 32) || (c == 9)
def lxPlain (c : Int) : Bool := decide (32 ≤ c) && decide (c ≤ 126) && !(c == 34)
def lxIsHex (c : Int) : Bool := decide (0 ≤ lxHex c)
theorem lxSmall_iff (c : Int) : lxSmall c = true ↔ 97 ≤ c ∧ c ≤ 122 := by simp [lxSmall]
theorem lxIsHex_iff (c : Int) : lxIsHex c = true ↔ (48 ≤ c ∧ c ≤ 57) ∨ (97 ≤ c ∧ c ≤ 102) ∨ (65 ≤ c ∧ c ≤ 70) := by
  unfold lxIsHex lxHex
  rw [decide_eq_true_iff]
  by_cases h : lxDigit c = true
  · rw [if_pos h]; rw [lxDigit_iff] at h; omega
  · rw [if_neg h]; rw [lxDigit_iff] at h; split <;> (try split) <;> omega
theorem pblank_any (c : Int) (w : World) : Calls Tryd.prog 31 #[.int .u8 c] w fun e w' => e = .returned (.bool (lxBlank c)) ∧ w = w' := by
  unfold lxBlank
  rcases Bool.eq_false_or_eq_true (c == 32) with h | h
  · rw [h]
    go_enter Tryd.func31, Tryd.ntmps31
    go_wp2_with fail
    go_ret
    exact ⟨rfl, rfl⟩
  · rcases Bool.eq_false_or_eq_true (c == 9) with h2 | h2
    all_goals (
      rw [h, h2]
      go_enter Tryd.func31, Tryd.ntmps31
      go_wp2_with fail
      go_ret
      exact ⟨rfl, rfl⟩)
theorem pdigit_any (c : Int) (w : World) : Calls Tryd.prog 36 #[.int .u8 c] w fun e w' => e = .returned (.bool (lxDigit c)) ∧ w = w' := by
  rcases (by omega : c < 48 ∨ (48 ≤ c ∧ c ≤ 57) ∨ 58 ≤ c) with h | h | h
  · rw [show lxDigit c = false by rw [← Bool.not_eq_true, lxDigit_iff]; omega]
    go_enter Tryd.func36, Tryd.ntmps36
    go_wp2_with fail
    go_ret
    exact ⟨rfl, rfl⟩
  · obtain ⟨h2, h3⟩ := h
    rw [show lxDigit c = true by rw [lxDigit_iff]; omega]
    go_enter Tryd.func36, Tryd.ntmps36
    go_wp2_with fail
    go_ret
    exact ⟨rfl, rfl⟩
  · have q : decide (c ≤ 57) = false := decide_eq_false (by omega)
    rw [show lxDigit c = false by rw [← Bool.not_eq_true, lxDigit_iff]; omega]
    go_enter Tryd.func36, Tryd.ntmps36
    go_wp2_with fail
    go_ret
    exact ⟨rfl, rfl⟩
theorem psmall_any (c : Int) (w : World) : Calls Tryd.prog 44 #[.int .u8 c] w fun e w' => e = .returned (.bool (lxSmall c)) ∧ w = w' := by
  rcases (by omega : c < 97 ∨ (97 ≤ c ∧ c ≤ 122) ∨ 123 ≤ c) with h | h | h
  · rw [show lxSmall c = false by rw [← Bool.not_eq_true, lxSmall_iff]; omega]
    go_enter Tryd.func44, Tryd.ntmps44
    go_wp2_with fail
    go_ret
    exact ⟨rfl, rfl⟩
  · obtain ⟨h2, h3⟩ := h
    rw [show lxSmall c = true by rw [lxSmall_iff]; omega]
    go_enter Tryd.func44, Tryd.ntmps44
    go_wp2_with fail
    go_ret
    exact ⟨rfl, rfl⟩
  · have q : decide (c ≤ 122) = false := decide_eq_false (by omega)
    rw [show lxSmall c = false by rw [← Bool.not_eq_true, lxSmall_iff]; omega]
    go_enter Tryd.func44, Tryd.ntmps44
    go_wp2_with fail
    go_ret
    exact ⟨rfl, rfl⟩
theorem phex_any (c : Int) (w : World) : Calls Tryd.prog 34 #[.int .u8 c] w fun e w' => e = .returned (.bool (lxIsHex c)) ∧ w = w' := by
  have C := Lib.hid (fun W => pdigit_any c W)
  rcases (by omega : c < 48 ∨ (48 ≤ c ∧ c ≤ 57) ∨ (58 ≤ c ∧ c ≤ 64) ∨ (65 ≤ c ∧ c ≤ 70) ∨ (71 ≤ c ∧ c ≤ 96) ∨ (97 ≤ c ∧ c ≤ 102) ∨ 103 ≤ c) with h | h | h | h | h | h | h
  · rw [show lxIsHex c = false by rw [← Bool.not_eq_true, lxIsHex_iff]; omega]
    rw [show lxDigit c = false by rw [← Bool.not_eq_true, lxDigit_iff]; omega] at C
    go_enter Tryd.func34, Tryd.ntmps34
    go_wp2_with ((with_reducible refine (C.out _).mono ?_); rintro e w' ⟨rfl, rfl⟩)
    go_ret
    exact ⟨rfl, rfl⟩
  · obtain ⟨h2, h3⟩ := h
    rw [show lxIsHex c = true by rw [lxIsHex_iff]; omega]
    rw [show lxDigit c = true by rw [lxDigit_iff]; omega] at C
    go_enter Tryd.func34, Tryd.ntmps34
    go_wp2_with ((with_reducible refine (C.out _).mono ?_); rintro e w' ⟨rfl, rfl⟩)
    go_ret
    exact ⟨rfl, rfl⟩
  · obtain ⟨h2, h3⟩ := h
    rw [show lxIsHex c = false by rw [← Bool.not_eq_true, lxIsHex_iff]; omega]
    rw [show lxDigit c = false by rw [← Bool.not_eq_true, lxDigit_iff]; omega] at C
    have q1 : decide (97 ≤ c) = false := decide_eq_false (by omega)
    have q2 : decide (65 ≤ c) = false := decide_eq_false (by omega)
    go_enter Tryd.func34, Tryd.ntmps34
    go_wp2_with ((with_reducible refine (C.out _).mono ?_); rintro e w' ⟨rfl, rfl⟩)
    go_ret
    exact ⟨rfl, rfl⟩
  · obtain ⟨h2, h3⟩ := h
    rw [show lxIsHex c = true by rw [lxIsHex_iff]; omega]
    rw [show lxDigit c = false by rw [← Bool.not_eq_true, lxDigit_iff]; omega] at C
    have q1 : decide (97 ≤ c) = false := decide_eq_false (by omega)
    go_enter Tryd.func34, Tryd.ntmps34
    go_wp2_with ((with_reducible refine (C.out _).mono ?_); rintro e w' ⟨rfl, rfl⟩)
    go_ret
    exact ⟨rfl, rfl⟩
  · obtain ⟨h2, h3⟩ := h
    rw [show lxIsHex c = false by rw [← Bool.not_eq_true, lxIsHex_iff]; omega]
    rw [show lxDigit c = false by rw [← Bool.not_eq_true, lxDigit_iff]; omega] at C
    have q1 : decide (97 ≤ c) = false := decide_eq_false (by omega)
    have q2 : decide (c ≤ 70) = false := decide_eq_false (by omega)
    go_enter Tryd.func34, Tryd.ntmps34
    go_wp2_with ((with_reducible refine (C.out _).mono ?_); rintro e w' ⟨rfl, rfl⟩)
    go_ret
    exact ⟨rfl, rfl⟩
  · obtain ⟨h2, h3⟩ := h
    rw [show lxIsHex c = true by rw [lxIsHex_iff]; omega]
    rw [show lxDigit c = false by rw [← Bool.not_eq_true, lxDigit_iff]; omega] at C
    go_enter Tryd.func34, Tryd.ntmps34
    go_wp2_with ((with_reducible refine (C.out _).mono ?_); rintro e w' ⟨rfl, rfl⟩)
    go_ret
    exact ⟨rfl, rfl⟩
  · rw [show lxIsHex c = false by rw [← Bool.not_eq_true, lxIsHex_iff]; omega]
    rw [show lxDigit c = false by rw [← Bool.not_eq_true, lxDigit_iff]; omega] at C
    have q1 : decide (c ≤ 102) = false := decide_eq_false (by omega)
    have q2 : decide (c ≤ 70) = false := decide_eq_false (by omega)
    go_enter Tryd.func34, Tryd.ntmps34
    go_wp2_with ((with_reducible refine (C.out _).mono ?_); rintro e w' ⟨rfl, rfl⟩)
    go_ret
    exact ⟨rfl, rfl⟩
theorem pletter_any (c : Int) (w : World) : Calls Tryd.prog 45 #[.int .u8 c] w fun e w' => e = .returned (.bool (lxLetter c)) ∧ w = w' := by
  have C := Lib.hid (fun W => psmall_any c W)
  rcases (by omega : c < 65 ∨ (65 ≤ c ∧ c ≤ 90) ∨ (91 ≤ c ∧ c ≤ 94) ∨ c = 95 ∨ c = 96 ∨ (97 ≤ c ∧ c ≤ 122) ∨ 123 ≤ c) with h | h | h | h | h | h | h
  · have q : (c == 95) = false := by simp; omega
    rw [show lxSmall c = false by rw [← Bool.not_eq_true, lxSmall_iff]; omega] at C
    rw [show lxLetter c = false by rw [← Bool.not_eq_true, lxLetter_iff]; omega]
    go_enter Tryd.func45, Tryd.ntmps45
    go_wp2_with ((with_reducible refine (C.out _).mono ?_); rintro e w' ⟨rfl, rfl⟩)
    go_ret
    exact ⟨rfl, rfl⟩
  · obtain ⟨h2, h3⟩ := h
    rw [show lxSmall c = false by rw [← Bool.not_eq_true, lxSmall_iff]; omega] at C
    rw [show lxLetter c = true by rw [lxLetter_iff]; omega]
    go_enter Tryd.func45, Tryd.ntmps45
    go_wp2_with ((with_reducible refine (C.out _).mono ?_); rintro e w' ⟨rfl, rfl⟩)
    go_ret
    exact ⟨rfl, rfl⟩
  · obtain ⟨h2, h3⟩ := h
    have q : (c == 95) = false := by simp; omega
    have q2 : decide (c ≤ 90) = false := decide_eq_false (by omega)
    rw [show lxSmall c = false by rw [← Bool.not_eq_true, lxSmall_iff]; omega] at C
    rw [show lxLetter c = false by rw [← Bool.not_eq_true, lxLetter_iff]; omega]
    go_enter Tryd.func45, Tryd.ntmps45
    go_wp2_with ((with_reducible refine (C.out _).mono ?_); rintro e w' ⟨rfl, rfl⟩)
    go_ret
    exact ⟨rfl, rfl⟩
  · subst h
    go_enter Tryd.func45, Tryd.ntmps45
    go_wp2_with ((with_reducible refine (C.out _).mono ?_); rintro e w' ⟨rfl, rfl⟩)
    go_ret
    exact ⟨rfl, rfl⟩
  · subst h
    go_enter Tryd.func45, Tryd.ntmps45
    go_wp2_with ((with_reducible refine (C.out _).mono ?_); rintro e w' ⟨rfl, rfl⟩)
    go_ret
    exact ⟨rfl, rfl⟩
  · obtain ⟨h2, h3⟩ := h
    rw [show lxSmall c = true by rw [lxSmall_iff]; omega] at C
    rw [show lxLetter c = true by rw [lxLetter_iff]; omega]
    go_enter Tryd.func45, Tryd.ntmps45
    go_wp2_with ((with_reducible refine (C.out _).mono ?_); rintro e w' ⟨rfl, rfl⟩)
    go_ret
    exact ⟨rfl, rfl⟩
  · have q : (c == 95) = false := by simp; omega
    have q2 : decide (c ≤ 90) = false := decide_eq_false (by omega)
    rw [show lxSmall c = false by rw [← Bool.not_eq_true, lxSmall_iff]; omega] at C
    rw [show lxLetter c = false by rw [← Bool.not_eq_true, lxLetter_iff]; omega]
    go_enter Tryd.func45, Tryd.ntmps45
    go_wp2_with ((with_reducible refine (C.out _).mono ?_); rintro e w' ⟨rfl, rfl⟩)
    go_ret
    exact ⟨rfl, rfl⟩
theorem pword_any (c : Int) (w : World) : Calls Tryd.prog 47 #[.int .u8 c] w fun e w' => e = .returned (.bool (lxWord c)) ∧ w = w' := by
  have CL := Lib.hid (fun W => pletter_any c W)
  have CD := Lib.hid (fun W => pdigit_any c W)
  unfold lxWord
  rcases Bool.eq_false_or_eq_true (lxLetter c) with h | h <;> rcases Bool.eq_false_or_eq_true (lxDigit c) with h2 | h2 <;> rcases Bool.eq_false_or_eq_true (c == 46) with h3 | h3
  all_goals (
    rw [h] at CL ⊢
    rw [h2] at CD ⊢
    rw [h3]
    clear h h2
    go_enter Tryd.func47, Tryd.ntmps47
    go_wp2_with (first | ((with_reducible refine (CL.out _).mono ?_); rintro e w' ⟨rfl, rfl⟩) | ((with_reducible refine (CD.out _).mono ?_); rintro e w' ⟨rfl, rfl⟩))
    go_ret
    exact ⟨rfl, rfl⟩)
theorem pplain_any (c : Int) (w : World) : Calls Tryd.prog 43 #[.int .u8 c] w fun e w' => e = .returned (.bool (lxPlain c)) ∧ w = w' := by
  unfold lxPlain
  rcases Bool.eq_false_or_eq_true (decide (32 ≤ c)) with h | h <;> rcases Bool.eq_false_or_eq_true (decide (c ≤ 126)) with h2 | h2 <;> rcases Bool.eq_false_or_eq_true (c == 34) with h3 | h3
  all_goals (
    rw [h, h2, h3]
    have h4 : (c != 34) = !(c == 34) := rfl
    rw [h3] at h4
    go_enter Tryd.func43, Tryd.ntmps43
    go_wp2_with fail
    go_ret
    exact ⟨rfl, rfl⟩)
end Go.Proofs.YtcdepfdfemmfhaaDoor
