/- hasplaw2's small functions: Of, less; and known, call by call. -/
import Derived.Test.YtbeeomdpdmmllaaDoorCapText
namespace Go.Proofs.YtbeeomdpdmmllaaDoor
set_option linter.unusedVariables false
set_option linter.unusedSimpArgs false
open Go.RowKit

theorem fld0 (t : Bool) (b p a m y : Int) (w : World) : (Instr.field 25 (.agg #[.bool t, .int .u32 b, .int .u32 p, .int .u32 a, .int .u16 m, .int .u16 y]) 0).run Tryd.prog w = .ok (.bool t) w := by kernel_rfl
theorem fld1 (t : Bool) (b p a m y : Int) (w : World) : (Instr.field 25 (.agg #[.bool t, .int .u32 b, .int .u32 p, .int .u32 a, .int .u16 m, .int .u16 y]) 1).run Tryd.prog w = .ok (.int .u32 b) w := by kernel_rfl
theorem fld2 (t : Bool) (b p a m y : Int) (w : World) : (Instr.field 25 (.agg #[.bool t, .int .u32 b, .int .u32 p, .int .u32 a, .int .u16 m, .int .u16 y]) 2).run Tryd.prog w = .ok (.int .u32 p) w := by kernel_rfl
theorem fld3 (t : Bool) (b p a m y : Int) (w : World) : (Instr.field 25 (.agg #[.bool t, .int .u32 b, .int .u32 p, .int .u32 a, .int .u16 m, .int .u16 y]) 3).run Tryd.prog w = .ok (.int .u32 a) w := by kernel_rfl
theorem fld4 (t : Bool) (b p a m y : Int) (w : World) : (Instr.field 25 (.agg #[.bool t, .int .u32 b, .int .u32 p, .int .u32 a, .int .u16 m, .int .u16 y]) 4).run Tryd.prog w = .ok (.int .u16 m) w := by kernel_rfl
theorem fld5 (t : Bool) (b p a m y : Int) (w : World) : (Instr.field 25 (.agg #[.bool t, .int .u32 b, .int .u32 p, .int .u32 a, .int .u16 m, .int .u16 y]) 5).run Tryd.prog w = .ok (.int .u16 y) w := by kernel_rfl
theorem of_any (t : Bool) (b p a m y : Int) (w : World) :
    Calls Tryd.prog 14 #[.agg #[.bool t, .int .u32 b, .int .u32 p, .int .u32 a, .int .u16 m, .int .u16 y]] w fun e w' => e = .returned (.agg #[.bool t, .int .u32 b, .int .u32 p, .int .u32 a, .int .u16 m, .int .u16 y]) ∧ Keep w w' := by
  go_enter Tryd.func14, Tryd.ntmps14
  go_wp2_with fail
  refine bodyPost_ret (v := .agg #[.bool t, .int .u32 b, .int .u32 p, .int .u32 a, .int .u16 m, .int .u16 y]) (by simp [results, Tryd.results14, go_sem]) rfl ⟨rfl, ?_⟩
  exact (((Keep.refl _).alloc _).alloc _)

theorem less_yes (t : Bool) (b p a m y : Int) (t1 : Bool) (b1 p1 a1 m1 y1 : Int) (h : t = true → t1 = true ∧ subB b p m b1 p1 m1 = true) (w : World) :
    Calls Tryd.prog 39 #[.agg #[.bool t, .int .u32 b, .int .u32 p, .int .u32 a, .int .u16 m, .int .u16 y], .agg #[.bool t1, .int .u32 b1, .int .u32 p1, .int .u32 a1, .int .u16 m1, .int .u16 y1]] w fun e w' => e = .returned (.bool true) ∧ Keep w w' := by
  cases t
  · clear h
    go_enter Tryd.func39, Tryd.ntmps39
    go_wp2_with fail
    refine region_grows (Keep _) (by kernel_rfl) (by kernel_rfl) (Keep.refl _).drew ?_
    repeat (first
      | (apply text_pass (by rfl)
         go_simp)
      | (apply text_step (by rfl)
         · intro W hW
           have c0 := (((Box.new _ _ _).alloc _).keep hW).cells
           have c1 := ((Box.new1 _ _ _ _).keep hW).cells
           go_simp
           first
            | exact ⟨rfl, hW⟩
            | (rw [if_neg (by omega)]; exact ⟨rfl, hW⟩)
            | (apply yes_enter; go_at_call 14; refine (of_any _ _ _ _ _ _ _).mono ?_;  rintro e w' ⟨rfl, hk⟩; exact ⟨rfl, hW.trans hk⟩)
            | (apply yes_enter; go_at_call 36; refine (rsub_any _ _ _ _ _ _ _ _ _ _ _ _ _).mono ?_;  rintro e w' ⟨rfl, hk⟩; exact ⟨rfl, hW.trans hk⟩)
         go_simp))
    apply text_end
    intro W hW
    go_wp2_with fail
    go_ret
    exact ⟨rfl, (((Keep.refl _).alloc _).alloc _).trans hW⟩
  · obtain ⟨rfl, hs⟩ := h rfl
    go_enter Tryd.func39, Tryd.ntmps39
    go_wp2_with fail
    refine region_grows (Keep _) (by kernel_rfl) (by kernel_rfl) (Keep.refl _).drew ?_
    repeat (first
      | (apply text_pass (by rfl)
         go_simp)
      | (apply text_step (by rfl)
         · intro W hW
           have c0 := (((Box.new _ _ _).alloc _).keep hW).cells
           have c1 := ((Box.new1 _ _ _ _).keep hW).cells
           go_simp
           first
            | exact ⟨rfl, hW⟩
            | (rw [if_neg (by omega)]; exact ⟨rfl, hW⟩)
            | (apply yes_enter; go_at_call 14; refine (of_any _ _ _ _ _ _ _).mono ?_;  rintro e w' ⟨rfl, hk⟩; exact ⟨rfl, hW.trans hk⟩)
            | (apply yes_enter; go_at_call 36; refine (rsub_any _ _ _ _ _ _ _ _ _ _ _ _ _).mono ?_;  rintro e w' ⟨rfl, hk⟩; exact ⟨rfl, hW.trans hk⟩)
         go_simp))
    apply text_end
    intro W hW
    go_wp2_with fail
    go_ret
    exact ⟨rfl, (((Keep.refl _).alloc _).alloc _).trans hW⟩

end Go.Proofs.YtbeeomdpdmmllaaDoor
