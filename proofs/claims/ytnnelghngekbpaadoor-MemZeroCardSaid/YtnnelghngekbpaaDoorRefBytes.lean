/- The reference's word, Word: numbers in bytes and back. -/
import Derived.Test.YtnnelghngekbpaaDoorChecked
import Derived.Test.YtnnelghngekbpaaDoorBytes
import Derived.WalkKit
namespace Go.Proofs.YtnnelghngekbpaaDoor
set_option linter.unusedVariables false
set_option linter.unusedSimpArgs false
open Go.RowKit

def u8s (l : List Int) : Array Value := (l.map (Value.int .u8)).toArray
theorem rword_any (v : Int) (hv : 0 ≤ v ∧ v ≤ 4294967295) (w : World) :
    Calls Tryd.prog 52 #[.int .u32 v] w fun e w' => e = .returned (.slice (some ⟨w.heap.size, 0, none⟩) 4 4) ∧ w.alloc (.cells (u8s (b4 v)) 5) = w' := by
  obtain ⟨v0, v1⟩ := hv
  have E := Lib.hid (show v / 16777216 % 256 = v / 16777216 by omega)
  go_enter Tryd.func52, Tryd.ntmps52
  go_wp2
  go_ret
  exact ⟨rfl, by rw [u8s, b4, E.out]; rfl⟩
/-- Of a slice whose bytes are zs. -/
theorem rWord_any (b off cap : Nat) (zs : List Int) (hz : ∀ z ∈ zs, IsByte z) (hn : zs.length ≤ 16) (hb : zs.length ≤ cap) (hcap : cap ≤ 9223372036854775807) (w : World)
    (hc : ∀ j, j < zs.length → w.cell? ⟨b, off + j, none⟩ = some (.int .u8 (zs.getD j 0))) :
    Calls Tryd.prog 54 #[.slice (some ⟨b, off, none⟩) zs.length cap] w fun e w' => e = .returned (.int .u32 (leW zs)) ∧ w = w' := by
  obtain ⟨n, hnn⟩ : ∃ n, n = zs.length := ⟨_, rfl⟩
  rw [← hnn] at hc hn hb ⊢
  have HN := Lib.hid hnn
  clear hnn
  have HZ := Lib.hid hz
  have HC := Lib.hid hc
  clear hz hc
  go_enter Tryd.func54, Tryd.ntmps54
  go_wp2
  go_loop [3, 4] (fun v i => ∃ k : Nat, k ≤ n ∧ v = .int .u32 (leW (zs.drop k)) ∧ i = .int .i64 ((k : Int) - 1)) (fun _ i => (intOf i + 1).toNat)
  case atStart => exact ⟨n, Nat.le_refl _, by rw [HN.out, List.drop_length]; rfl, by go_num⟩
  case round =>
    obtain ⟨k, hk, rfl, rfl⟩ := hrel
    obtain ⟨x, hx⟩ : ∃ x, x = leW (zs.drop k) := ⟨_, rfl⟩
    rw [← hx]
    have hxb : 0 ≤ x ∧ x ≤ 4294967295 := by rw [hx]; exact leW_in _ (fun z hz => HZ.out z (List.mem_of_mem_drop hz))
    have HX := Lib.hid hx
    clear hx
    obtain ⟨x0, x1⟩ := hxb
    by_cases h : 1 ≤ k
    · obtain ⟨j, rfl⟩ : ∃ j, k = j + 1 := ⟨k - 1, by omega⟩
      obtain ⟨z, hz⟩ : ∃ z, z = zs.getD j 0 := ⟨_, rfl⟩
      have hcell := HC.out j (by omega)
      rw [← hz] at hcell
      have hj : j < zs.length := by have := HN.out; omega
      have hmem : z = zs[j] := by rw [hz, List.getD_eq_getElem?_getD, List.getElem?_eq_getElem hj]; rfl
      have hbz : IsByte z := by rw [hmem]; exact HZ.out _ (List.getElem_mem hj)
      have hor := or_byte x z ⟨x0, x1⟩ hbz
      have hstep : Hid (leW (zs.drop j) = x * 256 % 4294967296 + z) := Lib.hid (by rw [List.drop_eq_getElem_cons hj, leW, ← hmem, HX.out])
      have HB := hbz
      unfold IsByte at HB
      obtain ⟨z0, z1⟩ := HB
      have e1 : ((j + 1 : Nat) : Int) - 1 = (j : Int) := by omega
      rw [e1]
      clear hz hmem hbz e1
      go_wp2
      go_round
      case rel => exact ⟨j, by omega, congrArg (Value.int .u32) hstep.out.symm, rfl⟩
      case measure => simp [intOf]
    · obtain rfl : k = 0 := by omega
      go_wp2
      go_ret
      exact ⟨by rw [HX.out, List.drop_zero]; rfl, rfl⟩
end Go.Proofs.YtnnelghngekbpaaDoor
