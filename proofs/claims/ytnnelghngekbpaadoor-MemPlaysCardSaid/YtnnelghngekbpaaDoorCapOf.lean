/- hasplaw2.Of; a capability's fields out of a slot. -/
import Derived.Test.YtnnelghngekbpaaDoorChecked
import Derived.Test.YtnnelghngekbpaaDoorCapDef
import Derived.WalkKit
namespace Go.Proofs.YtnnelghngekbpaaDoor
set_option linter.unusedVariables false
set_option linter.unusedSimpArgs false
open Go.RowKit

theorem fld0 (t : Bool) (b p a m y : Int) (w : World) : (Instr.field 39 (.agg #[.bool t, .int .u32 b, .int .u32 p, .int .u32 a, .int .u16 m, .int .u16 y]) 0).run Tryd.prog w = .ok (.bool t) w := by kernel_rfl
theorem fld1 (t : Bool) (b p a m y : Int) (w : World) : (Instr.field 39 (.agg #[.bool t, .int .u32 b, .int .u32 p, .int .u32 a, .int .u16 m, .int .u16 y]) 1).run Tryd.prog w = .ok (.int .u32 b) w := by kernel_rfl
theorem fld2 (t : Bool) (b p a m y : Int) (w : World) : (Instr.field 39 (.agg #[.bool t, .int .u32 b, .int .u32 p, .int .u32 a, .int .u16 m, .int .u16 y]) 2).run Tryd.prog w = .ok (.int .u32 p) w := by kernel_rfl
theorem fld3 (t : Bool) (b p a m y : Int) (w : World) : (Instr.field 39 (.agg #[.bool t, .int .u32 b, .int .u32 p, .int .u32 a, .int .u16 m, .int .u16 y]) 3).run Tryd.prog w = .ok (.int .u32 a) w := by kernel_rfl
theorem fld4 (t : Bool) (b p a m y : Int) (w : World) : (Instr.field 39 (.agg #[.bool t, .int .u32 b, .int .u32 p, .int .u32 a, .int .u16 m, .int .u16 y]) 4).run Tryd.prog w = .ok (.int .u16 m) w := by kernel_rfl
theorem fld5 (t : Bool) (b p a m y : Int) (w : World) : (Instr.field 39 (.agg #[.bool t, .int .u32 b, .int .u32 p, .int .u32 a, .int .u16 m, .int .u16 y]) 5).run Tryd.prog w = .ok (.int .u16 y) w := by kernel_rfl
theorem of_any (t : Bool) (b p a m y : Int) (w : World) :
    Calls Tryd.prog 15 #[.agg #[.bool t, .int .u32 b, .int .u32 p, .int .u32 a, .int .u16 m, .int .u16 y]] w fun e w' => e = .returned (.agg #[.bool t, .int .u32 b, .int .u32 p, .int .u32 a, .int .u16 m, .int .u16 y]) ∧ Keep w w' := by
  go_enter Tryd.func15, Tryd.ntmps15
  go_wp2_with fail
  refine bodyPost_ret (v := .agg #[.bool t, .int .u32 b, .int .u32 p, .int .u32 a, .int .u16 m, .int .u16 y]) (by simp [results, Tryd.results15, go_sem]) rfl ⟨rfl, ?_⟩
  exact (((Keep.refl _).alloc _).alloc _)

end Go.Proofs.YtnnelghngekbpaaDoor
