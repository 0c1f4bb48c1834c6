/- The small functions of package word: raised, bit, quotient, remainder; each by its contract. -/
import Derived.Test.YtcmmdeenkfeofaaDoorChecked
import Derived.Test.YtcmmdeenkfeofaaDoorNum
import Derived.WalkKit
namespace Go.Proofs.YtcmmdeenkfeofaaDoor
set_option linter.unusedVariables false
set_option linter.unusedSimpArgs false
open Go.RowKit

theorem raised_any (a : Int) (w : World) (h0 : 0 ≤ a) (h1 : a < 4294967296) :
    Calls Tryd.prog 18 #[.int .u32 a] w fun e w' => e = .returned (.int .u32 ((a + 2147483648) % 4294967296)) ∧ w = w' := by
  have hx := xorTop a h0 h1
  go_enter Tryd.func18, Tryd.ntmps18
  go_wp2
  go_ret
  exact ⟨rfl, rfl⟩
theorem bit_any (c : Bool) (w : World) :
    Calls Tryd.prog 19 #[.bool c] w fun e w' => e = .returned (.int .u32 (if c then 1 else 0)) ∧ w = w' := by
  cases c
  all_goals
    go_enter Tryd.func19, Tryd.ntmps19
    go_wp2
    go_ret
    exact ⟨rfl, rfl⟩
def quoU (a b : Int) : Int := if b = 0 then 4294967295 else a / b
def remU (a b : Int) : Int := if b = 0 then a else a % b
theorem quotient_any (a b : Int) (w : World) (h0 : 0 ≤ a) (h1 : a < 4294967296) (h2 : 0 ≤ b) (h3 : b < 4294967296) :
    Calls Tryd.prog 20 #[.int .u32 a, .int .u32 b] w fun e w' => e = .returned (.int .u32 (quoU a b)) ∧ w = w' := by
  by_cases hb : b = 0
  · subst hb
    go_enter Tryd.func20, Tryd.ntmps20
    go_wp2
    go_ret
    exact ⟨rfl, rfl⟩
  · have hq : quoU a b = a / b := if_neg hb
    have h4 : 1 ≤ b := by omega
    have hb' : (b == 0) = false := by simp [hb]
    rw [hq]
    go_enter Tryd.func20, Tryd.ntmps20
    go_wp2
    go_ret
    exact ⟨rfl, rfl⟩
theorem remainder_any (a b : Int) (w : World) (h0 : 0 ≤ a) (h1 : a < 4294967296) (h2 : 0 ≤ b) (h3 : b < 4294967296) :
    Calls Tryd.prog 21 #[.int .u32 a, .int .u32 b] w fun e w' => e = .returned (.int .u32 (remU a b)) ∧ w = w' := by
  by_cases hb : b = 0
  · subst hb
    go_enter Tryd.func21, Tryd.ntmps21
    go_wp2
    go_ret
    exact ⟨rfl, rfl⟩
  · have hq : remU a b = a % b := if_neg hb
    have h4 : 1 ≤ b := by omega
    have hb' : (b == 0) = false := by simp [hb]
    rw [hq]
    go_enter Tryd.func21, Tryd.ntmps21
    go_wp2
    go_ret
    exact ⟨rfl, rfl⟩
end Go.Proofs.YtcmmdeenkfeofaaDoor
