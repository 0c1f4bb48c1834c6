/- The program's span: how many bytes at the beginning are such ones, by whatever function of bytes. -/
import Derived.Test.YtcdepfdfemmfhaaDoorLexCls
import Derived.Test.YtcdepfdfemmfhaaDoorLexNum
import Derived.Shelf.Abstract
namespace Go.Proofs.YtcdepfdfemmfhaaDoor
set_option linter.unusedVariables false
set_option linter.unusedSimpArgs false
open Go.RowKit
/-- A function of the program that tells a byte as p does. -/
structure Tells1 (g : FuncId) (p : Int → Bool) : Prop where
  enter : ∀ args w, (callFunc g args).run Tryd.prog w = .ok (.enter g args) w
  call : ∀ (c : Int) (w : World), Calls Tryd.prog g #[.int .u8 c] w fun e w' => e = .returned (.bool (p c)) ∧ w = w'
def fnV (g : FuncId) : Value := .func (.func g) #[] #[]
set_option maxHeartbeats 1000000 in
theorem pspan_any (g : FuncId) (p : Int → Bool) (hg : Tells1 g p) (s : ByteArray) (hs : s.size ≤ 140737488355328) (w : World) : Calls Tryd.prog 30 #[.string s, fnV g] w fun e w' => e = .returned (.int .i64 (spanL p s.data.toList)) ∧ w = w' := by
  unfold fnV
  have he := hg.enter
  have HC := Lib.hid hg.call
  obtain ⟨R, hR⟩ : ∃ R : Nat, R = spanL p s.data.toList := ⟨_, rfl⟩
  rw [← hR]
  have HR := Lib.hid hR
  clear hR hg
  go_enter Tryd.func30, Tryd.ntmps30
  go_wp2_with fail
  go_loop [8] (fun i => ∃ k : Nat, k ≤ s.size ∧ i = .int .i64 (k : Int) ∧ Hid (R = k + spanL p (s.data.toList.drop k))) (fun i => s.size - (intOf i).toNat)
  case atStart => exact ⟨0, Nat.zero_le _, rfl, Lib.hid (by have := HR.out; simpa using this)⟩
  case round =>
    obtain ⟨k, hk, rfl, HK⟩ := hrel
    by_cases h : k < s.size
    · have e := HK.out
      rw [drop_at s k h] at e
      unfold spanL at e
      have CC := Lib.hid (HC.out (s[k]'h).toNat)
      rcases Bool.eq_false_or_eq_true (p (s[k]'h).toNat) with d | d
      · rw [d] at CC
        rw [d, if_pos rfl] at e
        have HE := Lib.hid e
        clear e d HK
        go_wp2_with (go_at_fn g; (with_reducible refine (CC.out _).mono ?_); rintro e w' ⟨rfl, rfl⟩)
        go_round
        case rel => exact ⟨k + 1, h, by go_num, Lib.hid (by have := HE.out; omega)⟩
        case measure => simp [intOf]; omega
      · rw [d] at CC
        rw [d, if_neg (by decide)] at e
        have HE := Lib.hid e
        clear e d HK
        go_wp2_with (go_at_fn g; (with_reducible refine (CC.out _).mono ?_); rintro e w' ⟨rfl, rfl⟩)
        go_ret
        exact ⟨by rw [HE.out] <;> rfl, rfl⟩
    · obtain rfl : k = s.size := by omega
      have e := HK.out
      rw [drop_end s s.size (Nat.le_refl _)] at e
      have HE := Lib.hid e
      clear e HK
      go_wp2_with fail
      go_ret
      exact ⟨by rw [HE.out] <;> rfl, rfl⟩
theorem tBlank : Tells1 31 lxBlank := ⟨enters_of Tryd.func31 (by kernel_rfl) rfl, pblank_any⟩
theorem tDigit : Tells1 36 lxDigit := ⟨enters_of Tryd.func36 (by kernel_rfl) rfl, pdigit_any⟩
theorem tSmall : Tells1 44 lxSmall := ⟨enters_of Tryd.func44 (by kernel_rfl) rfl, psmall_any⟩
theorem tHex : Tells1 34 lxIsHex := ⟨enters_of Tryd.func34 (by kernel_rfl) rfl, phex_any⟩
theorem tWord : Tells1 47 lxWord := ⟨enters_of Tryd.func47 (by kernel_rfl) rfl, pword_any⟩
theorem tPlain : Tells1 43 lxPlain := ⟨enters_of Tryd.func43 (by kernel_rfl) rfl, pplain_any⟩
end Go.Proofs.YtcdepfdfemmfhaaDoor
