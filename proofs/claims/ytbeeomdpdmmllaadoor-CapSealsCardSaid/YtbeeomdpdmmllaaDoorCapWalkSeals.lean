/- The walks of layer 2's laws: CapWalkSeals. -/
import Derived.Test.YtbeeomdpdmmllaaDoorCapKnown
namespace Go.Proofs.YtbeeomdpdmmllaaDoor
set_option linter.unusedVariables false
set_option linter.unusedSimpArgs false
open Go.RowKit
set_option maxHeartbeats 1000000 in
theorem capSeals_walk (t : Bool) (b p a m y : Int) (tk : Bool) (bk pk ak mk yk : Int) (hb : 0 ≤ b ∧ b ≤ 4294967295) (hp : 0 ≤ p ∧ p ≤ 4294967295) (ha : 0 ≤ a ∧ a ≤ 4294967295) (hm : 0 ≤ m ∧ m ≤ 65535) (hy : 0 ≤ y ∧ y ≤ 65535) (hbk : 0 ≤ bk ∧ bk ≤ 4294967295) (hpk : 0 ≤ pk ∧ pk ≤ 4294967295) (hak : 0 ≤ ak ∧ ak ≤ 4294967295) (hmk : 0 ≤ mk ∧ mk ≤ 65535) (hyk : 0 ≤ yk ∧ yk ≤ 65535)  (w : World) (hT : Tabs w) :
    Calls Tryd.prog 4 #[.agg #[.bool t, .int .u32 b, .int .u32 p, .int .u32 a, .int .u16 m, .int .u16 y], .agg #[.bool tk, .int .u32 bk, .int .u32 pk, .int .u32 ak, .int .u16 mk, .int .u16 yk]] w fun e w' => e = .returned (.bool true) ∧ Keep w w' := by
  have HT := Lib.hid hT
  clear hT
  go_enter Tryd.func4, Tryd.ntmps4
  go_wp2_with fail
  refine (known_any _ (HT.out.keep (((Keep.refl _).alloc _).alloc _))).mono ?_
  rintro e w1 ⟨rfl, hk1⟩
  have B0_1 : Box w1 w.heap.size #[.bool t, .int .u32 b, .int .u32 p, .int .u32 a, .int .u16 m, .int .u16 y] := ((Box.new _ _ _).alloc _).keep hk1
  have B1_1 : Box w1 (w.heap.size + 1) #[.bool tk, .int .u32 bk, .int .u32 pk, .int .u32 ak, .int .u16 mk, .int .u16 yk] := (Box.new1 _ _ _ _).keep hk1
  have c0 := B0_1.cells
  have f0 := B0_1.thawed
  have c1 := B1_1.cells
  have f1 := B1_1.thawed
  go_wp2_with fail
  refine region_grows (Keep _) (by kernel_rfl) (by kernel_rfl) (Keep.refl _).drew ?_
  repeat (first
    | (apply text_pass (by rfl)
       go_simp)
    | (apply text_step (by rfl)
       · intro W hW
         have c0 := ((B0_1).keep hW).cells
         have c1 := ((B1_1).keep hW).cells
         go_simp
         first
          | exact ⟨rfl, hW⟩
          | (rw [if_neg (by omega)]; exact ⟨rfl, hW⟩)
          | (apply yes_enter; go_at_call 14; refine (of_any _ _ _ _ _ _ _).mono ?_;  rintro e w' ⟨rfl, hk⟩; exact ⟨rfl, hW.trans hk⟩)
          | (apply yes_enter; go_at_call 29; refine (seal_any _ _ _ _ _ _ _ _ _ _ _ _ ?_ ?_ ?_ ?_ ?_ ?_ ?_ ?_ _).mono ?_; (· first | assumption | omega); (· first | assumption | omega); (· first | assumption | omega); (· first | assumption | omega); (· first | assumption | omega); (· first | assumption | omega); (· first | assumption | omega); (· first | assumption | omega); rintro e w' ⟨rfl, hk⟩; exact ⟨rfl, hW.trans hk⟩)
          | (apply yes_enter; go_at_call 30; refine (rseal_any _ _ _ _ _ _ _ _ _ _ _ _ ?_ ?_ ?_ ?_ ?_ ?_ ?_ ?_ _).mono ?_; (· first | assumption | omega); (· first | assumption | omega); (· first | assumption | omega); (· first | assumption | omega); (· first | assumption | omega); (· first | assumption | omega); (· first | assumption | omega); (· first | assumption | omega); rintro e w' ⟨rfl, hk⟩; exact ⟨rfl, hW.trans hk⟩)
          | (apply yes_enter; go_at_call 31; refine (unseal_any _ _ _ _ _ _ _ _ _ _ _ _ ?_ ?_ ?_ ?_ ?_ ?_ ?_ ?_ _).mono ?_; (· first | assumption | omega); (· first | assumption | omega); (· first | assumption | omega); (· first | assumption | omega); (· first | assumption | omega); (· first | assumption | omega); (· first | assumption | omega); (· first | assumption | omega); rintro e w' ⟨rfl, hk⟩; exact ⟨rfl, hW.trans hk⟩)
          | (apply yes_enter; go_at_call 32; refine (runseal_any _ _ _ _ _ _ _ _ _ _ _ _ ?_ ?_ ?_ ?_ ?_ ?_ ?_ ?_ _).mono ?_; (· first | assumption | omega); (· first | assumption | omega); (· first | assumption | omega); (· first | assumption | omega); (· first | assumption | omega); (· first | assumption | omega); (· first | assumption | omega); (· first | assumption | omega); rintro e w' ⟨rfl, hk⟩; exact ⟨rfl, hW.trans hk⟩)
       go_simp))
  apply text_end
  intro W hW
  go_wp2_with fail
  go_ret
  exact ⟨rfl, ((((Keep.refl _).alloc _).alloc _).trans hk1).trans hW⟩
end Go.Proofs.YtbeeomdpdmmllaaDoor
