/- The reference's Decimal: a number's decimal digits. -/
import Derived.Test.YteddflbidafebaaGreatDoorGBase
import Derived.Test.YteddflbidafebaaGreatDoorHex
import Derived.Test.YteddflbidafebaaGreatDoorChecked
import Derived.WalkSmall
import Derived.Lib.ItoaLen
namespace Go.Proofs.YteddflbidafebaaGreatDoor
set_option linter.unusedVariables false
set_option linter.unusedSimpArgs false
open Go.RowKit
def digB (n : Nat) : UInt8 := UInt8.ofNat (48 + n)
theorem digB_val (n : Nat) (h : n < 10) : (digB n).toNat = 48 + n := by unfold digB; rw [UInt8.toNat_ofNat']; omega
theorem dec_step (n : Nat) (h : 10 ≤ n) : Lib.decDigits n = Lib.decDigits (n / 10) ++ [digB (n % 10)] := by
  rw [Lib.decDigits, dif_neg (by omega)]; rfl
theorem dec_last (n : Nat) (h : n < 10) : Lib.decDigits n = [digB n] := by rw [Lib.decDigits, dif_pos h]; rfl
/-- Where the loop of Decimal stands: v is left, the bytes told are those of v's last digit and of all that has gone. -/
def DecAt (N : Nat) (w : World) (u s : Value) (wr : World) : Prop :=
  ∃ (v : Nat) (rest : List UInt8), v ≤ N ∧ u = .int .i64 (v : Int) ∧ s = .string ⟨(digB (v % 10) :: rest).toArray⟩ ∧ Lib.decDigits N = Lib.decDigits v ++ rest ∧ Keep w wr
theorem conv_one (d : Nat) (h : d < 10) (wr : World) :
    (convert 25 9 (.slice (some ⟨wr.heap.size, 0, none⟩) 1 1)).run Tryz.prog (wr.alloc (.cells #[.int .u8 (48 + (d : Int))] 5)) = .ok (.string ⟨[digB d].toArray⟩) (wr.alloc (.cells #[.int .u8 (48 + (d : Int))] 5)) := by
  rw [run_convert_bytes_arg _ 25 5 Tryz.underlying25 Tryz.underlying5 wr.heap.size 0 1 1 [48 + (d : Int)] rfl
    (fun i hi => by
      have : i = 0 := by omega
      subst this
      rw [World.cell?_alloc_at _ _ _ _ rfl]; rfl) 9 Tryz.underlying9]
  have e : strOfNums [48 + (d : Int)] = ⟨[digB d].toArray⟩ := by
    have := hexStr [digB d]
    rw [List.map_cons, List.map_nil, digB_val d h] at this
    rw [← this]
    congr 2
  rw [e]
theorem decimal_any (N : Nat) (w : World) (hN : N < 4294967296) :
    Calls Tryz.prog 5 #[.int .i64 (N : Int)] w fun e w' => e = .returned (.string ⟨(Lib.decDigits N).toArray⟩) ∧ Keep w w' := by
  have hd0 : decide ((N : Int) < 0) = false := by simp
  obtain ⟨d, hd⟩ : ∃ d : Nat, (N : Int) % 10 = (d : Int) := ⟨N % 10, by omega⟩
  have hd10 : d < 10 := by omega
  have hdN : d = N % 10 := by omega
  have HD := Lib.hid hdN
  clear hdN
  have hc := conv_one d hd10
  go_enter Tryz.func5, Tryz.ntmps5
  go_wp2
  clear hc hd
  go_loopw [0, 3] (fun u s wr => DecAt N w u s wr) (fun u _ _ => (intOf u).toNat)
  case atStart => exact ⟨N, [], Nat.le_refl _, rfl, by rw [HD.out], by simp, (Keep.refl _).alloc _⟩
  case round =>
    obtain ⟨v, rest, hv, rfl, rfl, hrest, hk⟩ := hrel
    have HR := Lib.hid hrest
    have hlen : rest.length ≤ 20 := by
      have h1 := congrArg List.length hrest
      rw [Lib.decDigits_length, List.length_append] at h1
      have := Lib.nDigits_le20 N (by omega)
      omega
    clear hrest
    obtain ⟨q, hq⟩ : ∃ q : Nat, (v : Int) / 10 = (q : Int) := ⟨v / 10, by omega⟩
    have HQ : Hid (q = v / 10) := Lib.hid (by omega)
    obtain ⟨f, hf⟩ : ∃ f : Nat, (q : Int) % 10 = (f : Int) := ⟨q % 10, by omega⟩
    have HF : Hid (f = q % 10) := Lib.hid (by omega)
    have hf10 : f < 10 := by omega
    have hq0 : (0 : Int) ≤ (q : Int) := by omega
    have hq1 : (q : Int) ≤ 4294967295 := by omega
    have hc := conv_one f hf10
    by_cases h : 10 ≤ v
    · have hdec : decide (10 ≤ (v : Int)) = true := by simp; omega
      go_wp2
      go_roundw
      case rel => 
        refine ⟨q, digB (v % 10) :: rest, ?_, rfl, ?_, ?_, hk.alloc _⟩
        · have := HQ.out; omega
        · rw [HF.out]; exact congrArg Value.string (by apply ByteArray.ext; simp [ByteArray.data_append])
        · rw [HR.out, dec_step v h, ← HQ.out, List.append_assoc]; rfl
      case measure => have := HQ.out; simp [intOf]; omega
    · have hdec : decide (10 ≤ (v : Int)) = false := by simp; omega
      go_wp2
      go_ret
      refine ⟨?_, hk⟩
      rw [HR.out, dec_last v (by omega), Nat.mod_eq_of_lt (by omega)]
      rfl
end Go.Proofs.YteddflbidafebaaGreatDoor
