/- word.Signed and the reference's Signed: both answer sgnVal. -/
import Derived.Test.YtcmmdeenkfeofaaDoorSmall
namespace Go.Proofs.YtcmmdeenkfeofaaDoor
set_option linter.unusedVariables false
set_option linter.unusedSimpArgs false
open Go.RowKit

/-- The lowest n bits of v (n cut to 1 to 32), the highest of them put to all above. -/
def sgnVal (v n : Int) : Int :=
  if n < 1 then wrap32 (v * 2147483648 % 4294967296) / 2147483648 % 4294967296
  else if 32 < n then wrap32 v % 4294967296
  else wrap32 (v * 2 ^ (32 - n).toNat % 4294967296) / 2 ^ (32 - n).toNat % 4294967296
theorem signed_any (v n : Int) (w : World) (h0 : 0 ≤ v) (h1 : v < 4294967296) (h2 : -9223372036854775808 ≤ n) (h3 : n ≤ 9223372036854775807) :
    Calls Tryd.prog 14 #[.int .u32 v, .int .i64 n] w fun e w' => e = .returned (.int .u32 (sgnVal v n)) ∧ w = w' := by
  by_cases c1 : n < 1
  · have hv : sgnVal v n = wrap32 (v * 2147483648 % 4294967296) / 2147483648 % 4294967296 := if_pos c1
    rw [hv]
    clear hv
    go_enter Tryd.func14, Tryd.ntmps14
    go_wp2
    go_ret
    exact ⟨rfl, rfl⟩
  · by_cases c2 : 32 < n
    · have hv : sgnVal v n = wrap32 v % 4294967296 := by rw [sgnVal, if_neg c1, if_pos c2]
      rw [hv]
      clear hv
      go_enter Tryd.func14, Tryd.ntmps14
      go_wp2
      go_ret
      exact ⟨rfl, rfl⟩
    · have hv : sgnVal v n = wrap32 (v * 2 ^ (32 - n).toNat % 4294967296) / 2 ^ (32 - n).toNat % 4294967296 := by rw [sgnVal, if_neg c1, if_neg c2]
      rw [hv]
      clear hv
      go_enter Tryd.func14, Tryd.ntmps14
      go_wp2
      go_ret
      exact ⟨rfl, rfl⟩
theorem refSigned_any (v n : Int) (w : World) (h0 : 0 ≤ v) (h1 : v < 4294967296) (h2 : -9223372036854775808 ≤ n) (h3 : n ≤ 9223372036854775807) :
    Calls Tryd.prog 15 #[.int .u32 v, .int .i64 n] w fun e w' => e = .returned (.int .u32 (sgnVal v n)) ∧ w = w' := by
  by_cases c1 : n < 1
  · have hv : sgnVal v n = wrap32 (v * 2147483648 % 4294967296) / 2147483648 % 4294967296 := if_pos c1
    rw [hv]
    clear hv
    go_enter Tryd.func15, Tryd.ntmps15
    go_wp2
    go_ret
    exact ⟨rfl, rfl⟩
  · by_cases c2 : 32 < n
    · have hv : sgnVal v n = wrap32 v % 4294967296 := by rw [sgnVal, if_neg c1, if_pos c2]
      rw [hv]
      clear hv
      go_enter Tryd.func15, Tryd.ntmps15
      go_wp2
      go_ret
      exact ⟨rfl, rfl⟩
    · have hv : sgnVal v n = wrap32 (v * 2 ^ (32 - n).toNat % 4294967296) / 2 ^ (32 - n).toNat % 4294967296 := by rw [sgnVal, if_neg c1, if_neg c2]
      rw [hv]
      clear hv
      go_enter Tryd.func15, Tryd.ntmps15
      go_wp2
      go_ret
      exact ⟨rfl, rfl⟩
end Go.Proofs.YtcmmdeenkfeofaaDoor
