/- The walks of layer 2's laws: CapWalkDerive. -/
import Derived.Test.YtbeeomdpdmmllaaDoorCapKnown
namespace Go.Proofs.YtbeeomdpdmmllaaDoor
set_option linter.unusedVariables false
set_option linter.unusedSimpArgs false
open Go.RowKit
set_option maxHeartbeats 1000000 in
theorem capDerive_walk (t : Bool) (b p a m y : Int) (x q : Int) (hb : 0 ≤ b ∧ b ≤ 4294967295) (hp : 0 ≤ p ∧ p ≤ 4294967295) (ha : 0 ≤ a ∧ a ≤ 4294967295) (hm : 0 ≤ m ∧ m ≤ 65535) (hy : 0 ≤ y ∧ y ≤ 65535) (hx : 0 ≤ x ∧ x ≤ 4294967295) (hq : 0 ≤ q ∧ q ≤ 65535) (w : World) (hT : Tabs w) :
    Calls Tryd.prog 3 #[.agg #[.bool t, .int .u32 b, .int .u32 p, .int .u32 a, .int .u16 m, .int .u16 y], .int .u32 x, .int .u16 q] w fun e w' => e = .returned (.bool true) ∧ Keep w w' := by
  have HT := Lib.hid hT
  clear hT
  go_enter Tryd.func3, Tryd.ntmps3
  go_wp2_with fail
  refine (known_any _ (HT.out.keep ((Keep.refl _).alloc _))).mono ?_
  rintro e w1 ⟨rfl, hk1⟩
  have B0_1 : Box w1 w.heap.size #[.bool t, .int .u32 b, .int .u32 p, .int .u32 a, .int .u16 m, .int .u16 y] := (Box.new _ _ _).keep hk1
  have c0 := B0_1.cells
  have f0 := B0_1.thawed
  go_wp2_with fail
  refine (of_any _ _ _ _ _ _ _).mono ?_
  rintro e w2 ⟨rfl, hk2⟩
  have B0_2 : Box w2 w.heap.size #[.bool t, .int .u32 b, .int .u32 p, .int .u32 a, .int .u16 m, .int .u16 y] := B0_1.keep hk2
  clear c0 f0
  have c0 := B0_2.cells
  have f0 := B0_2.thawed
  go_wp2_with fail
  refine region_grows (Keep _) (by kernel_rfl) (by kernel_rfl) (Keep.refl _).drew ?_
  repeat (first
    | (apply text_pass (by rfl)
       go_simp)
    | (apply text_step (by rfl)
       · intro W hW
         have c0 := ((B0_2.alloc _).keep hW).cells
         have c1 := ((Box.new _ _ _).keep hW).cells
         go_simp
         first
          | exact ⟨rfl, hW⟩
          | (rw [if_neg (by omega)]; exact ⟨rfl, hW⟩)
          | (apply yes_enter; go_at_call 14; refine (of_any _ _ _ _ _ _ _).mono ?_;  rintro e w' ⟨rfl, hk⟩; exact ⟨rfl, hW.trans hk⟩)
          | (apply yes_enter; go_at_call 15; refine (setAddr_any _ _ _ _ _ _ _ ?_ ?_ ?_ ?_ _).mono ?_; (· first | assumption | omega); (· first | assumption | omega); (· first | assumption | omega); (· first | assumption | omega); rintro e w' ⟨rfl, hk⟩; exact ⟨rfl, hW.trans hk⟩)
          | (apply yes_enter; go_at_call 16; refine (rsetAddr_any _ _ _ _ _ _ _ ?_ ?_ ?_ ?_ ?_ _).mono ?_; (· first | assumption | omega); (· first | assumption | omega); (· first | assumption | omega); (· first | assumption | omega); (· first | assumption | omega); rintro e w' ⟨rfl, hk⟩; exact ⟨rfl, hW.trans hk⟩)
          | (apply yes_enter; go_at_call 17; refine (bounds_any _ _ _ _ _ _ _ ?_ ?_ ?_ ?_ ?_ _).mono ?_; (· first | assumption | omega); (· first | assumption | omega); (· first | assumption | omega); (· first | assumption | omega); (· first | assumption | omega); rintro e w' ⟨rfl, hk⟩; exact ⟨rfl, hW.trans hk⟩)
          | (apply yes_enter; go_at_call 18; refine (rbounds_any _ _ _ _ _ _ _ ?_ ?_ ?_ ?_ ?_ ?_ _).mono ?_; (· first | assumption | omega); (· first | assumption | omega); (· first | assumption | omega); (· first | assumption | omega); (· first | assumption | omega); (· first | assumption | omega); rintro e w' ⟨rfl, hk⟩; exact ⟨rfl, hW.trans hk⟩)
          | (apply yes_enter; go_at_call 19; refine (andPerm_any _ _ _ _ _ _ _ ?_ ?_ ?_ ?_ ?_ _).mono ?_; (· first | assumption | omega); (· first | assumption | omega); (· first | assumption | omega); (· first | assumption | omega); (· first | assumption | omega); rintro e w' ⟨rfl, hk⟩; exact ⟨rfl, hW.trans hk⟩)
          | (apply yes_enter; go_at_call 20; refine (randPerm_any _ _ _ _ _ _ _ ?_ ?_ ?_ ?_ ?_ ?_ _).mono ?_; (· first | assumption | omega); (· first | assumption | omega); (· first | assumption | omega); (· first | assumption | omega); (· first | assumption | omega); (· first | assumption | omega); rintro e w' ⟨rfl, hk⟩; exact ⟨rfl, hW.trans hk⟩)
          | (apply yes_enter; go_at_call 21; refine (clear_any _ _ _ _ _ _ _).mono ?_;  rintro e w' ⟨rfl, hk⟩; exact ⟨rfl, hW.trans hk⟩)
          | (apply yes_enter; go_at_call 22; refine (rclear_any _ _ _ _ _ _ _).mono ?_;  rintro e w' ⟨rfl, hk⟩; exact ⟨rfl, hW.trans hk⟩)
          | (apply yes_enter; go_at_call 23; refine (enter_any _ _ _ _ _ _ ?_ ?_ ?_ ?_ _).mono ?_; (· first | assumption | omega); (· first | assumption | omega); (· first | assumption | omega); (· first | assumption | omega); rintro e w' ⟨rfl, hk⟩; exact ⟨rfl, hW.trans hk⟩)
          | (apply yes_enter; go_at_call 24; refine (renter_any _ _ _ _ _ _ ?_ ?_ ?_ ?_ ?_ _).mono ?_; (· first | assumption | omega); (· first | assumption | omega); (· first | assumption | omega); (· first | assumption | omega); (· first | assumption | omega); rintro e w' ⟨rfl, hk⟩; exact ⟨rfl, hW.trans hk⟩)
          | (apply yes_enter; go_at_call 25; refine (int_any _ _).mono ?_;  rintro e w' ⟨rfl, hk⟩; exact ⟨rfl, hW.trans hk⟩)
          | (apply yes_enter; go_at_call 26; refine (rint_any _ _).mono ?_;  rintro e w' ⟨rfl, hk⟩; exact ⟨rfl, hW.trans hk⟩)
          | (apply yes_enter; go_at_call 27; refine (root_any _ _).mono ?_;  rintro e w' ⟨rfl, hk⟩; exact ⟨rfl, hW.trans hk⟩)
          | (apply yes_enter; go_at_call 28; refine (rroot_any _ _).mono ?_;  rintro e w' ⟨rfl, hk⟩; exact ⟨rfl, hW.trans hk⟩)
       go_simp))
  apply text_end
  intro W hW
  go_wp2_with fail
  go_ret
  exact ⟨rfl, (((((Keep.refl _).alloc _).trans hk1).trans hk2).alloc _).trans hW⟩
end Go.Proofs.YtbeeomdpdmmllaaDoor
