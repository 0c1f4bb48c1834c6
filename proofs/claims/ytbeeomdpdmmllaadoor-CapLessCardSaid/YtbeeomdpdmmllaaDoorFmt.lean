/- strconv.FormatUint at base 16 of a number of 32 bits: its hexadecimal digits; what was in memory stays. -/
import Derived.Test.YtbeeomdpdmmllaaDoorChecked
import Derived.Test.YtbeeomdpdmmllaaDoorHex
import Derived.WalkKit
import Derived.Lib.Hide
namespace Go.Proofs.YtbeeomdpdmmllaaDoor
set_option linter.unusedVariables false
set_option linter.unusedSimpArgs false
open Go.RowKit

def zeros65 : Array Value := (List.replicate 65 (Value.int .u8 0)).toArray
theorem zero65 (w : World) : (zeroValue 71).run Tryd.prog w = .ok (.agg zeros65) w := by kernel_rfl
theorem and16 : bits .and .u64 16 (IntKind.u64.wrap (-16)) = 16 := by kernel_rfl
theorem mul16 : IntKind.u64.wrap (16 * 285870213051353865) / 288230376151711744 = 15 := by kernel_rfl
theorem pow16 : (bits .and .i64 16 15 == 0) = true := by kernel_rfl
theorem tz_16 (w : World) (hT : w.cell? ⟨2, 15, none⟩ = some (.int .u8 4)) :
    Calls Tryd.prog 59 #[.int .u64 16] w fun e w' => e = .returned (.int .i64 4) ∧ w = w' := by
  have e1 := and16
  have e2 := mul16
  go_enter Tryd.func59, Tryd.ntmps59
  go_wp2
  go_ret
  exact ⟨rfl, rfl⟩
theorem and15 (m : Nat) (h : m < 4294967296) : bits .and .u64 (m : Int) 15 = ((m % 16 : Nat) : Int) := by
  rw [u64_and _ 15 (by omega) (by omega) (by decide) (by decide), Int.toNat_natCast, show (15 : Int).toNat = 2 ^ 4 - 1 from rfl, Nat.and_two_pow_sub_one_eq_mod]
def dig36 : ByteArray := ⟨[48, 49, 50, 51, 52, 53, 54, 55, 56, 57, 97, 98, 99, 100, 101, 102, 103, 104, 105, 106, 107, 108, 109, 110, 111, 112, 113, 114, 115, 116, 117, 118, 119, 120, 121, 122].toArray⟩
theorem dig36_size : dig36.size = 36 := by decide +kernel
theorem dig36_at : ∀ i : Fin 16, dig36.data.toList.getD i.val 0 = hexDig i.val := by decide +kernel
theorem dig36_get (d : Nat) (h : d < 16) (h' : d < dig36.size) : dig36[d] = hexDig d := by
  have hl : dig36.data.toList.length = 36 := by decide +kernel
  have h2 : d < dig36.data.toList.length := by omega
  have e2 : dig36[d] = dig36.data.toList.getD d 0 := by
    rw [List.getD, List.getElem?_eq_getElem h2]; rfl
  rw [e2, dig36_at ⟨d, h⟩]

/-- The digits, and a world with one block more. -/
def FmtPost (w : World) (n : Nat) (e : Ending) (w' : World) : Prop :=
  ∃ (K : Nat) (o : Array Value), 1 ≤ K ∧ K ≤ 8 ∧ n < 16 ^ K ∧ e = .returned (.tuple #[.slice none 0 0, .string ⟨(hexLow K n).toArray⟩]) ∧ w' = w.alloc (.cells o 71)

set_option maxRecDepth 100000 in
theorem formatBits_16 (n : Nat) (w : World) (h1 : n < 4294967296) (hT : w.cell? ⟨2, 15, none⟩ = some (.int .u8 4)) (hw : 2 < w.heap.size) :
    Calls Tryd.prog 54 #[.slice none 0 0, .int .u64 n, .int .i64 16, .bool false, .bool false] w (FmtPost w n) := by
  have hz := zero65
  have hp := pow16
  go_enter Tryd.func54, Tryd.ntmps54
  go_wp2_with (first | (go_at_call 59; refine (tz_16 _ ?_).mono ?_; (· go_simp); rintro e w' ⟨rfl, rfl⟩) | go_in)
  clear hz hp hT
  go_loopw [1, 13] (fun u i wr => ∃ k : Nat, k ≤ 7 ∧ u = .int .u64 ((n / 16 ^ k : Nat) : Int) ∧ i = .int .i64 ((65 - k : Nat) : Int) ∧ wr = w.alloc (.cells (hexArr n k) 71))
    (fun _ i _ => (intOf i).toNat)
  case atStart => exact ⟨0, by omega, by simp, rfl, by rw [hexArr_zero]; rfl⟩
  case round =>
    obtain ⟨k, hk, rfl, rfl, rfl⟩ := hrel
    have hlt : n / 16 ^ k < 4294967296 := Nat.lt_of_le_of_lt (Nat.div_le_self _ _) h1
    have HD : Hid (n / 16 ^ (k + 1) = n / 16 ^ k / 16) := Lib.hid (by rw [Nat.pow_succ, Nat.div_div_eq_div_mul])
    have HC := Lib.hid (hexArr_cell n k (by omega))
    have HS := Lib.hid (hexArr_set n k (by omega))
    have HL : Hid (k = 7 → n / 16 ^ k < 16) := Lib.hid (by rintro rfl; omega)
    obtain ⟨m, hm⟩ : ∃ m, m = n / 16 ^ k := ⟨_, rfl⟩
    rw [← hm] at HD HS HL hlt ⊢
    have HM := Lib.hid hm
    clear hm
    obtain ⟨c, hc⟩ : ∃ c, c = 65 - k := ⟨_, rfl⟩
    rw [← hc] at HC HS ⊢
    have hc0 : 58 ≤ c := by omega
    have hc1 : c ≤ 65 := by omega
    have HK : Hid (k = 65 - c) := Lib.hid (by omega)
    clear hc
    have ha := and15 m hlt
    have hi := dig36_get (m % 16) (by omega)
    have hcell : (w.alloc (.cells (hexArr n k) 71)).cell? ⟨w.heap.size, c - 1, none⟩ = some (.int .u8 0) := by
      rw [World.cell?_alloc_at _ _ _ _ rfl]; exact HC.out
    unfold dig36 at hi
    by_cases hu : 16 ≤ m
    · have hk6 : k ≤ 6 := by
        by_cases h : k = 7
        · have := HL.out h; omega
        · omega
      go_wp2
      go_roundw
      case rel => exact ⟨k + 1, by omega, by rw [HD.out]; go_num, by have := HK.out; go_num, by rw [HS.out]⟩
      case measure => simp [intOf]; omega
    · have hm16 : m < 16 := by omega
      have e16 : m % 16 = m := Nat.mod_eq_of_lt hm16
      have hi2 := dig36_get m hm16
      unfold dig36 at hi2
      rw [e16] at HS
      have hal : Tryd.prog.arrayLen 71 = 65 := by simp [Program.arrayLen, Tryd.underlying71]
      have hsl : ∀ W, (Instr.sliceAt 71 (.pointer (some ⟨w.heap.size, 0, none⟩)) (some (.int .i64 ((c : Int) - 1))) none none).run Tryd.prog W = .ok (.slice (some ⟨w.heap.size, c - 1, none⟩) (66 - c) (66 - c)) W := fun W => by
        rw [run_sliceAt_array_l W 71 ⟨w.heap.size, 0, none⟩ (by simp [Program.arrayLen, Program.elem, Tryd.underlying71]) .i64 ((c : Int) - 1) (by omega) (by rw [hal]; omega)]
        go_simp
        constructor <;> omega
      have hcv : (convert 61 9 (.slice (some ⟨w.heap.size, c - 1, none⟩) (66 - c) (66 - c))).run Tryd.prog (w.alloc (.cells ((hexArr n k).setIfInBounds (c - 1) (.int .u8 ((hexDig m).toNat : Int))) 71))
          = .ok (.string ⟨(hexLow (k + 1) n).toArray⟩) (w.alloc (.cells ((hexArr n k).setIfInBounds (c - 1) (.int .u8 ((hexDig m).toNat : Int))) 71)) := by
        rw [HS.out]
        have e1 : 66 - c = k + 1 := by have := HK.out; omega
        have e2 : c - 1 = 65 - (k + 1) := by have := HK.out; omega
        rw [e1, e2, run_convert_bytes_arg _ 61 5 Tryd.underlying61 Tryd.underlying5 w.heap.size (65 - (k + 1)) (k + 1) (k + 1) ((hexLow (k + 1) n).map fun b => (b.toNat : Int)) (by simp [hexLow_length])
          (fun i hi => by rw [World.cell?_alloc_at _ _ _ _ rfl]; exact hexArr_at n (k + 1) i (by omega) hi) 9 Tryd.underlying9, hexStr]
      have hn : n < 16 ^ (k + 1) := by
        have h := HM.out
        rw [h] at hm16
        rw [Nat.pow_succ, Nat.mul_comm]
        exact (Nat.div_lt_iff_lt_mul (Nat.pow_pos (by decide))).1 hm16
      have HN := Lib.hid hn
      clear hi ha e16 hn
      go_wp2
      go_ret2
      exact ⟨k + 1, _, by omega, by omega, HN.out, rfl, rfl⟩

/-- As FmtPost, the text alone. -/
def FmtU (w : World) (n : Nat) (e : Ending) (w' : World) : Prop :=
  ∃ (K : Nat) (o : Array Value), 1 ≤ K ∧ K ≤ 8 ∧ n < 16 ^ K ∧ e = .returned (.string ⟨(hexLow K n).toArray⟩) ∧ w' = w.alloc (.cells o 71)
theorem formatUint_in (n : Nat) (w : World) (h1 : n < 4294967296) (hT : w.cell? ⟨2, 15, none⟩ = some (.int .u8 4)) (hw : 2 < w.heap.size) :
    Calls Tryd.prog 49 #[.int .u64 n, .int .i64 16] w (FmtU w n) := by
  go_enter Tryd.func49, Tryd.ntmps49
  go_wp2_with (go_at_call 54; refine (formatBits_16 n _ h1 hT hw).mono ?_; rintro e w' ⟨K, o, hK1, hK2, hK3, rfl, rfl⟩)
  go_ret
  exact ⟨K, o, hK1, hK2, hK3, rfl, rfl⟩
theorem formatUint_16 (n : Nat) (w : World) (h1 : n < 4294967296) (hT : w.cell? ⟨2, 15, none⟩ = some (.int .u8 4)) (hw : 2 < w.heap.size) :
    Calls Tryd.prog 47 #[.int .u64 n, .int .i64 16] w (FmtU w n) := by
  go_enter Tryd.func47, Tryd.ntmps47
  go_wp2_with (go_at_call 49; refine (formatUint_in n _ h1 hT hw).mono ?_; rintro e w' ⟨K, o, hK1, hK2, hK3, rfl, rfl⟩)
  go_ret
  exact ⟨K, o, hK1, hK2, hK3, rfl, rfl⟩
end Go.Proofs.YtbeeomdpdmmllaaDoor
