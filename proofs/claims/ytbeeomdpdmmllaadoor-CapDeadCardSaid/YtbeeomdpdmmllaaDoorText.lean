/- word.Text and the reference's Text: both answer 0x and the eight lowest hexadecimal digits. -/
import Derived.Test.YtbeeomdpdmmllaaDoorFmt
namespace Go.Proofs.YtbeeomdpdmmllaaDoor
set_option linter.unusedVariables false
set_option linter.unusedSimpArgs false
open Go.RowKit

theorem hexLow_pad (K d n : Nat) (h : n < 16 ^ K) : hexLow (K + d) n = List.replicate d 48 ++ hexLow K n := by
  induction d with
  | zero => simp
  | succ d ih =>
    have e : n / 16 ^ (K + d) = 0 := by
      apply Nat.div_eq_of_lt
      exact Nat.lt_of_lt_of_le h (Nat.pow_le_pow_right (by decide) (by omega))
    rw [← Nat.add_assoc, hexLow, e, ih, List.replicate_succ]
    rfl
def textOf (n : Nat) : ByteArray := ⟨([48, 120] ++ hexLow 8 n).toArray⟩
theorem text_pad (K n : Nat) (h1 : 1 ≤ K) (h2 : K ≤ 8) (h : n < 16 ^ K) :
    (⟨#[48, 120]⟩ : ByteArray) ++ (⟨#[48, 48, 48, 48, 48, 48, 48, 48]⟩ : ByteArray).extract K 8 ++ ⟨(hexLow K n).toArray⟩ = textOf n := by
  have e : hexLow 8 n = List.replicate (8 - K) 48 ++ hexLow K n := by
    have := hexLow_pad K (8 - K) n h
    rwa [show K + (8 - K) = 8 by omega] at this
  unfold textOf
  rw [e]
  have hx : ((⟨#[48, 48, 48, 48, 48, 48, 48, 48]⟩ : ByteArray).extract K 8) = ⟨(List.replicate (8 - K) 48).toArray⟩ := by
    have : ∀ j : Fin 9, ((⟨#[48, 48, 48, 48, 48, 48, 48, 48]⟩ : ByteArray).extract j.val 8) = ⟨(List.replicate (8 - j.val) 48).toArray⟩ := by decide +kernel
    exact this ⟨K, by omega⟩
  rw [hx]
  apply ByteArray.ext
  simp [ByteArray.data_append]
def TextP (w : World) (n : Nat) (e : Ending) (w' : World) : Prop := ∃ o : Array Value, e = .returned (.string (textOf n)) ∧ w' = w.alloc (.cells o 71)
theorem text_any (n : Nat) (w : World) (h1 : n < 4294967296) (hT : w.cell? ⟨2, 15, none⟩ = some (.int .u8 4)) (hw : 2 < w.heap.size) :
    Calls Tryd.prog 43 #[.int .u32 n] w (TextP w n) := by
  go_enter Tryd.func43, Tryd.ntmps43
  go_wp2_with (go_at_call 47; refine (formatUint_16 n _ h1 hT hw).mono ?_; rintro e w' ⟨K, o, hK1, hK2, hK3, rfl, rfl⟩; have hl : (hexLow K n).length = K := hexLow_length K n)
  go_ret
  exact ⟨o, by rw [← text_pad K n hK1 hK2 hK3]; rfl, rfl⟩

theorem and15u (m : Nat) (h : m < 4294967296) : bits .and .u32 (m : Int) 15 = ((m % 16 : Nat) : Int) := by
  rw [u32_and _ 15 (by omega) (by omega) (by decide) (by decide), Int.toNat_natCast, show (15 : Int).toNat = 2 ^ 4 - 1 from rfl, Nat.and_two_pow_sub_one_eq_mod]
def dig16 : ByteArray := ⟨#[48, 49, 50, 51, 52, 53, 54, 55, 56, 57, 97, 98, 99, 100, 101, 102]⟩
theorem dig16_size : dig16.size = 16 := by decide +kernel
theorem dig16_at : ∀ d : Fin 16, dig16.extract d.val (d.val + 1) = ⟨#[hexDig d.val]⟩ := by decide +kernel
theorem slice16 (d : Nat) (h : d < 16) (w : World) :
    (Instr.slice 9 (.string dig16) (some (.int .u32 (d : Int))) (some (.int .u32 ((d : Int) + 1))) none).run Tryd.prog w = .ok (.string ⟨#[hexDig d]⟩) w := by
  rw [run_slice_string w 9 dig16 .u32 .u32 _ _ Tryd.underlying9 (by omega) (by omega) (by rw [dig16_size]; omega), show ((d : Int)).toNat = d by omega, show ((d : Int) + 1).toNat = d + 1 by omega, dig16_at ⟨d, h⟩]
theorem cons_str (b : UInt8) (l : List UInt8) : (⟨#[b]⟩ : ByteArray) ++ ⟨l.toArray⟩ = ⟨(b :: l).toArray⟩ := by
  apply ByteArray.ext
  simp [ByteArray.data_append]
theorem textRef_any (n : Nat) (w : World) (h1 : n < 4294967296) :
    Calls Tryd.prog 45 #[.int .u32 n] w fun e w' => e = .returned (.string (textOf n)) ∧ w = w' := by
  go_enter Tryd.func45, Tryd.ntmps45
  go_wp2
  go_loop [0, 3, 4] (fun v s i => ∃ k : Nat, k ≤ 8 ∧ v = .int .u32 ((n / 16 ^ k : Nat) : Int) ∧ s = .string ⟨(hexLow k n).toArray⟩ ∧ i = .int .i64 (k : Int)) (fun _ _ i => 8 - (intOf i).toNat)
  case atStart => exact ⟨0, by omega, by simp, rfl, rfl⟩
  case round =>
    obtain ⟨k, hk, rfl, rfl, rfl⟩ := hrel
    have hlt : n / 16 ^ k < 4294967296 := Nat.lt_of_le_of_lt (Nat.div_le_self _ _) h1
    have HD : Hid (n / 16 ^ (k + 1) = n / 16 ^ k / 16) := Lib.hid (by rw [Nat.pow_succ, Nat.div_div_eq_div_mul])
    have HL : Hid (hexDig (n / 16 ^ k % 16) :: hexLow k n = hexLow (k + 1) n) := Lib.hid rfl
    obtain ⟨m, hm⟩ : ∃ m, m = n / 16 ^ k := ⟨_, rfl⟩
    rw [← hm] at HD HL hlt ⊢
    clear hm
    obtain ⟨d, hd⟩ : ∃ d, d = m % 16 := ⟨_, rfl⟩
    have ha := and15u m hlt
    rw [← hd] at ha HL
    have hd16 : d < 16 := by omega
    have hs := slice16 d hd16
    unfold dig16 at hs
    have hll : (hexLow k n).length ≤ 8 := by rw [hexLow_length]; exact hk
    clear hd
    by_cases hc : k < 8
    · go_wp2
      go_round
      case rel => exact ⟨k + 1, by omega, by rw [HD.out]; go_num, by rw [← HL.out]; exact congrArg Value.string (cons_str _ _), by go_num⟩
      case measure => simp [intOf]; omega
    · have h8 : k = 8 := by omega
      subst h8
      go_wp2
      go_ret
      exact ⟨by rw [textOf]; exact congrArg (fun s => Ending.returned (Value.string s)) (by apply ByteArray.ext; simp [ByteArray.data_append]), rfl⟩
end Go.Proofs.YtbeeomdpdmmllaaDoor
