/- The reference's bytes: letter, digit, hex. -/
import Derived.Test.YtcdepfdfemmfhaaGreatDoorLexTab
import Derived.Test.YtcdepfdfemmfhaaGreatDoorChecked
import Derived.WalkKit
import Derived.Lib.Hide
namespace Go.Proofs.YtcdepfdfemmfhaaGreatDoor
set_option linter.unusedVariables false
set_option linter.unusedSimpArgs false
open Go.RowKit
theorem lxLetter_iff (c : Int) : lxLetter c = true ↔ (97 ≤ c ∧ c ≤ 122) ∨ (65 ≤ c ∧ c ≤ 90) ∨ c = 95 := by simp [lxLetter, or_assoc]
theorem lxDigit_iff (c : Int) : lxDigit c = true ↔ 48 ≤ c ∧ c ≤ 57 := by simp [lxDigit]
theorem rletter_any (c : Int) (w : World) : Calls Tryz.prog 49 #[.int .u8 c] w fun e w' => e = .returned (.bool (lxLetter c)) ∧ w = w' := by
  rcases (by omega : c < 65 ∨ (65 ≤ c ∧ c ≤ 90) ∨ (91 ≤ c ∧ c ≤ 94) ∨ c = 95 ∨ c = 96 ∨ (97 ≤ c ∧ c ≤ 122) ∨ 123 ≤ c) with h | h | h | h | h | h | h
  · have q : (c == 95) = false := by simp; omega
    rw [show lxLetter c = false by rw [← Bool.not_eq_true, lxLetter_iff]; omega]
    go_enter Tryz.func49, Tryz.ntmps49
    go_wp2_with fail
    go_ret
    exact ⟨rfl, rfl⟩
  · obtain ⟨h2, h3⟩ := h
    have q : (c == 95) = false := by simp; omega
    rw [show lxLetter c = true by rw [lxLetter_iff]; omega]
    go_enter Tryz.func49, Tryz.ntmps49
    go_wp2_with fail
    go_ret
    exact ⟨rfl, rfl⟩
  · obtain ⟨h2, h3⟩ := h
    have q : (c == 95) = false := by simp; omega
    have q2 : decide (c ≤ 90) = false := decide_eq_false (by omega)
    rw [show lxLetter c = false by rw [← Bool.not_eq_true, lxLetter_iff]; omega]
    go_enter Tryz.func49, Tryz.ntmps49
    go_wp2_with fail
    go_ret
    exact ⟨rfl, rfl⟩
  · subst h
    go_enter Tryz.func49, Tryz.ntmps49
    go_wp2_with fail
    go_ret
    exact ⟨rfl, rfl⟩
  · subst h
    go_enter Tryz.func49, Tryz.ntmps49
    go_wp2_with fail
    go_ret
    exact ⟨rfl, rfl⟩
  · obtain ⟨h2, h3⟩ := h
    rw [show lxLetter c = true by rw [lxLetter_iff]; omega]
    go_enter Tryz.func49, Tryz.ntmps49
    go_wp2_with fail
    go_ret
    exact ⟨rfl, rfl⟩
  · have q : (c == 95) = false := by simp; omega
    have q2 : decide (c ≤ 90) = false := decide_eq_false (by omega)
    have q3 : decide (c ≤ 122) = false := decide_eq_false (by omega)
    rw [show lxLetter c = false by rw [← Bool.not_eq_true, lxLetter_iff]; omega]
    go_enter Tryz.func49, Tryz.ntmps49
    go_wp2_with fail
    go_ret
    exact ⟨rfl, rfl⟩
theorem rdigit_any (c : Int) (w : World) : Calls Tryz.prog 50 #[.int .u8 c] w fun e w' => e = .returned (.bool (lxDigit c)) ∧ w = w' := by
  rcases (by omega : c < 48 ∨ (48 ≤ c ∧ c ≤ 57) ∨ 58 ≤ c) with h | h | h
  · rw [show lxDigit c = false by rw [← Bool.not_eq_true, lxDigit_iff]; omega]
    go_enter Tryz.func50, Tryz.ntmps50
    go_wp2_with fail
    go_ret
    exact ⟨rfl, rfl⟩
  · obtain ⟨h2, h3⟩ := h
    rw [show lxDigit c = true by rw [lxDigit_iff]; omega]
    go_enter Tryz.func50, Tryz.ntmps50
    go_wp2_with fail
    go_ret
    exact ⟨rfl, rfl⟩
  · have q : decide (c ≤ 57) = false := decide_eq_false (by omega)
    rw [show lxDigit c = false by rw [← Bool.not_eq_true, lxDigit_iff]; omega]
    go_enter Tryz.func50, Tryz.ntmps50
    go_wp2_with fail
    go_ret
    exact ⟨rfl, rfl⟩
theorem rhex_any (c : Int) (h0 : 0 ≤ c) (h1 : c < 256) (w : World) : Calls Tryz.prog 62 #[.int .u8 c] w fun e w' => e = .returned (.int .i64 (lxHex c)) ∧ w = w' := by
  have C := Lib.hid (fun W => rdigit_any c W)
  rcases Bool.eq_false_or_eq_true (lxDigit c) with hd | hd
  · rw [show lxHex c = c - 48 by unfold lxHex; rw [if_pos hd]]
    rw [hd] at C
    obtain ⟨h2, h3⟩ := (lxDigit_iff c).1 hd
    clear hd
    go_enter Tryz.func62, Tryz.ntmps62
    go_wp2_with ((with_reducible refine (C.out _).mono ?_); rintro e w' ⟨rfl, rfl⟩)
    go_ret
    exact ⟨rfl, rfl⟩
  · have hn : ¬ (48 ≤ c ∧ c ≤ 57) := fun h => by rw [(lxDigit_iff c).2 h] at hd; cases hd
    rw [hd] at C
    rcases (by omega : c < 65 ∨ (65 ≤ c ∧ c ≤ 70) ∨ (71 ≤ c ∧ c ≤ 96) ∨ (97 ≤ c ∧ c ≤ 102) ∨ 103 ≤ c) with h | h | h | h | h
    · rw [show lxHex c = -1 by unfold lxHex; rw [if_neg (by rw [hd]; decide), if_neg (by omega), if_neg (by omega)]]
      clear hd hn
      go_enter Tryz.func62, Tryz.ntmps62
      go_wp2_with ((with_reducible refine (C.out _).mono ?_); rintro e w' ⟨rfl, rfl⟩)
      go_ret
      exact ⟨rfl, rfl⟩
    · obtain ⟨h2, h3⟩ := h
      rw [show lxHex c = c - 65 + 10 by unfold lxHex; rw [if_neg (by rw [hd]; decide), if_neg (by omega), if_pos (by omega)]; omega]
      clear hd hn
      go_enter Tryz.func62, Tryz.ntmps62
      go_wp2_with ((with_reducible refine (C.out _).mono ?_); rintro e w' ⟨rfl, rfl⟩)
      go_ret
      exact ⟨rfl, rfl⟩
    · obtain ⟨h2, h3⟩ := h
      rw [show lxHex c = -1 by unfold lxHex; rw [if_neg (by rw [hd]; decide), if_neg (by omega), if_neg (by omega)]]
      clear hd hn
      go_enter Tryz.func62, Tryz.ntmps62
      go_wp2_with ((with_reducible refine (C.out _).mono ?_); rintro e w' ⟨rfl, rfl⟩)
      go_ret
      exact ⟨rfl, rfl⟩
    · obtain ⟨h2, h3⟩ := h
      rw [show lxHex c = c - 97 + 10 by unfold lxHex; rw [if_neg (by rw [hd]; decide), if_pos (by omega)]; omega]
      clear hd hn
      go_enter Tryz.func62, Tryz.ntmps62
      go_wp2_with ((with_reducible refine (C.out _).mono ?_); rintro e w' ⟨rfl, rfl⟩)
      go_ret
      exact ⟨rfl, rfl⟩
    · rw [show lxHex c = -1 by unfold lxHex; rw [if_neg (by rw [hd]; decide), if_neg (by omega), if_neg (by omega)]]
      clear hd hn
      go_enter Tryz.func62, Tryz.ntmps62
      go_wp2_with ((with_reducible refine (C.out _).mono ?_); rintro e w' ⟨rfl, rfl⟩)
      go_ret
      exact ⟨rfl, rfl⟩
end Go.Proofs.YtcdepfdfemmfhaaGreatDoor
