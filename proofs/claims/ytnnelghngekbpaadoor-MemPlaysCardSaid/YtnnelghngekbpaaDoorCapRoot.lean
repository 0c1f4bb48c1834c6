/- cap.Int, cap.Root. -/
import Derived.Test.YtnnelghngekbpaaDoorChecked
import Derived.Test.YtnnelghngekbpaaDoorCapDef
import Derived.WalkKit
namespace Go.Proofs.YtnnelghngekbpaaDoor
set_option linter.unusedVariables false
set_option linter.unusedSimpArgs false
open Go.RowKit
theorem croot_any (x : Int) (w : World) : Calls Tryd.prog 25 #[.int .u32 x] w fun e w' => e = .returned (.agg #[.bool true, .int .u32 0, .int .u32 x, .int .u32 0, .int .u16 127, .int .u16 0]) ∧ Keep w w' := by
  go_enter Tryd.func25, Tryd.ntmps25
  go_wp2_with fail
  refine bodyPost_ret (v := .agg #[.bool true, .int .u32 0, .int .u32 x, .int .u32 0, .int .u16 127, .int .u16 0]) (by simp [results, Tryd.results25, go_sem]) rfl ⟨rfl, ?_⟩
  exact ((Keep.refl _).alloc _)
theorem cint_any (x : Int) (w : World) : Calls Tryd.prog 27 #[.int .u32 x] w fun e w' => e = .returned (.agg #[.bool false, .int .u32 0, .int .u32 0, .int .u32 x, .int .u16 0, .int .u16 0]) ∧ Keep w w' := by
  go_enter Tryd.func27, Tryd.ntmps27
  go_wp2_with fail
  refine bodyPost_ret (v := .agg #[.bool false, .int .u32 0, .int .u32 0, .int .u32 x, .int .u16 0, .int .u16 0]) (by simp [results, Tryd.results27, go_sem]) rfl ⟨rfl, ?_⟩
  exact ((Keep.refl _).alloc _)
end Go.Proofs.YtnnelghngekbpaaDoor
