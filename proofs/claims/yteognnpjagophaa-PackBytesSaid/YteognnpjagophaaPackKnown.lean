/- The law's one known pair. -/
import Derived.Test.YteognnpjagophaaPackPair
import Derived.Test.YteognnpjagophaaCapEq
import Derived.Test.YteognnpjagophaaCapOf
namespace Go.Proofs.Yteognnpjagophaa
set_option linter.unusedVariables false
set_option linter.unusedSimpArgs false
open Go.RowKit

set_option maxRecDepth 100000 in
set_option maxHeartbeats 1000000 in
theorem pknown_any (w : World) : Calls Try.prog 6 #[] w fun e w' => e = .returned (.bool true) ∧ Keep w w' := by
  have C1 := Lib.hid (fun w => put_at true 1 512 3 4 5 1 0 0 0 0 2 0 0 3 0 0 0 4 0 5 0 (by decide) (by decide) (by decide) (by decide) (by decide) (by decide) w)
  have C2 := Lib.hid (fun w => get_at true 1 0 0 0 0 2 0 0 3 0 0 0 4 0 5 0 (by decide) (by decide) (by decide) (by decide) (by decide) (by decide) (by decide) (by decide) (by decide) (by decide) (by decide) (by decide) (by decide) (by decide) (by decide) (by decide) 1 512 3 4 5 (by decide) (by decide) (by decide) (by decide) (by decide) w)
  have C3 := Lib.hid (fun w => get_at false 1 0 0 0 0 2 0 0 3 0 0 0 4 0 5 0 (by decide) (by decide) (by decide) (by decide) (by decide) (by decide) (by decide) (by decide) (by decide) (by decide) (by decide) (by decide) (by decide) (by decide) (by decide) (by decide) 1 512 3 4 5 (by decide) (by decide) (by decide) (by decide) (by decide) w)
  have hE : ∀ W, (Op.equalIn 10000 25 (.agg #[.bool true, .int .u32 1, .int .u32 512, .int .u32 3, .int .u16 4, .int .u16 5]) (.agg #[.bool true, .int .u32 1, .int .u32 512, .int .u32 3, .int .u16 4, .int .u16 5])).run Try.prog W = .ok true W := fun W => by
    rw [eqin_cap]
    rfl
  have hF : ∀ W, (Instr.field 25 (.agg #[.bool false, .int .u32 1, .int .u32 512, .int .u32 3, .int .u16 4, .int .u16 5]) 0).run Try.prog W = .ok (.bool false) W := fun W => fld0 false 1 512 3 4 5 W
  go_enter Try.func6, Try.ntmps6
  go_wp2_with (go_at_call 7; refine (C1.out _).mono ?_; rintro e w1 ⟨rfl, hk1⟩)
  have B0 : Box w1 w.heap.size #[.bool true, .int .u32 1, .int .u32 512, .int .u32 3, .int .u16 4, .int .u16 5] := (Box.new _ _ _).keep hk1
  refine region_grows (Keep _) (by kernel_rfl) (by kernel_rfl) (Keep.refl _).drew ?_
  repeat (first
    | (apply text_pass (by rfl)
       go_simp)
    | (apply text_step (by rfl)
       · intro W hW
         have c0 := ((B0.alloc _).keep hW).cells
         have c1 := ((Box.new _ _ _).keep hW).cells
         go_simp
         first
          | exact ⟨rfl, hW⟩
          | (rw [if_neg (by omega)]; exact ⟨rfl, hW⟩)
          | (apply yes_enter; go_at_call 10; with_reducible refine (C2.out _).mono ?_;  rintro e w' ⟨rfl, hk⟩; exact ⟨rfl, hW.trans hk⟩)
          | (apply yes_enter; go_at_call 10; with_reducible refine (C3.out _).mono ?_;  rintro e w' ⟨rfl, hk⟩; exact ⟨rfl, hW.trans hk⟩)
       go_simp))
  apply text_end
  intro W hW
  go_wp2_with fail
  go_ret
  exact ⟨rfl, ((((Keep.refl _).alloc _).trans hk1).alloc _).trans hW⟩

end Go.Proofs.Yteognnpjagophaa
