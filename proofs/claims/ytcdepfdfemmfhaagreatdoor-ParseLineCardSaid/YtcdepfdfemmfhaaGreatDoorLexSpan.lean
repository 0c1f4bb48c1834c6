/- The program's span: how many bytes at the beginning are such ones, by whatever function of bytes. -/
import Derived.Test.YtcdepfdfemmfhaaGreatDoorLexCls
import Derived.Test.YtcdepfdfemmfhaaGreatDoorLexNum
import Derived.Shelf.Abstract
namespace Go.Proofs.YtcdepfdfemmfhaaGreatDoor
set_option linter.unusedVariables false
set_option linter.unusedSimpArgs false
open Go.RowKit
/-- A function of the program that tells a byte as p does. -/
structure Tells1 (g : FuncId) (p : Int → Bool) : Prop where
  enter : ∀ args w, (callFunc g args).run Tryz.prog w = .ok (.enter g args) w
  call : ∀ (c : Int) (w : World), Calls Tryz.prog g #[.int .u8 c] w fun e w' => e = .returned (.bool (p c)) ∧ w = w'
def fnV (g : FuncId) : Value := .func (.func g) #[] #[]
set_option maxHeartbeats 1000000 in
theorem pspan_any (g : FuncId) (p : Int → Bool) (hg : Tells1 g p) (s : ByteArray) (hs : s.size ≤ 140737488355328) (w : World) : Calls Tryz.prog 39 #[.string s, fnV g] w fun e w' => e = .returned (.int .i64 (spanL p s.data.toList)) ∧ w = w' := by
  unfold fnV
  have he := hg.enter
  have HC := Lib.hid hg.call
  obtain ⟨R, hR⟩ : ∃ R : Nat, R = spanL p s.data.toList := ⟨_, rfl⟩
  rw [← hR]
  have HR := Lib.hid hR
  clear hR hg
  go_enter Tryz.func39, Tryz.ntmps39
  go_wp2_with fail
  go_loop [8] (fun i => ∃ k : Nat, k ≤ s.size ∧ i = .int .i64 (k : Int) ∧ Hid (R = k + spanL p (s.data.toList.drop k))) (fun i => s.size - (intOf i).toNat)
  case atStart => exact ⟨0, Nat.zero_le _, rfl, Lib.hid (by have := HR.out; simpa using this)⟩
  case round =>
    obtain ⟨k, hk, rfl, HK⟩ := hrel
    by_cases h : k < s.size
    · have e := HK.out
      rw [drop_at s k h] at e
      unfold spanL at e
      have CC := Lib.hid (HC.out (s[k]'h).toNat)
      rcases Bool.eq_false_or_eq_true (p (s[k]'h).toNat) with d | d
      · rw [d] at CC
        rw [d, if_pos rfl] at e
        have HE := Lib.hid e
        clear e d HK
        go_wp2_with (go_at_fn g; (with_reducible refine (CC.out _).mono ?_); rintro e w' ⟨rfl, rfl⟩)
        go_round
        case rel => exact ⟨k + 1, h, by go_num, Lib.hid (by have := HE.out; omega)⟩
        case measure => simp [intOf]; omega
      · rw [d] at CC
        rw [d, if_neg (by decide)] at e
        have HE := Lib.hid e
        clear e d HK
        go_wp2_with (go_at_fn g; (with_reducible refine (CC.out _).mono ?_); rintro e w' ⟨rfl, rfl⟩)
        go_ret
        exact ⟨by rw [HE.out] <;> rfl, rfl⟩
    · obtain rfl : k = s.size := by omega
      have e := HK.out
      rw [drop_end s s.size (Nat.le_refl _)] at e
      have HE := Lib.hid e
      clear e HK
      go_wp2_with fail
      go_ret
      exact ⟨by rw [HE.out] <;> rfl, rfl⟩
theorem tBlank : Tells1 40 lxBlank := ⟨enters_of Tryz.func40 (by kernel_rfl) rfl, pblank_any⟩
theorem tDigit : Tells1 45 lxDigit := ⟨enters_of Tryz.func45 (by kernel_rfl) rfl, pdigit_any⟩
theorem tSmall : Tells1 57 lxSmall := ⟨enters_of Tryz.func57 (by kernel_rfl) rfl, psmall_any⟩
theorem tHex : Tells1 43 lxIsHex := ⟨enters_of Tryz.func43 (by kernel_rfl) rfl, phex_any⟩
theorem tWord : Tells1 60 lxWord := ⟨enters_of Tryz.func60 (by kernel_rfl) rfl, pword_any⟩
theorem tPlain : Tells1 56 lxPlain := ⟨enters_of Tryz.func56 (by kernel_rfl) rfl, pplain_any⟩
end Go.Proofs.YtcdepfdfemmfhaaGreatDoor
