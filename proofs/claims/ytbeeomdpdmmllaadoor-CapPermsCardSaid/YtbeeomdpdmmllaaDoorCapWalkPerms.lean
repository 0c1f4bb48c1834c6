/- The walks of layer 2's laws: CapWalkPerms. -/
import Derived.Test.YtbeeomdpdmmllaaDoorCapKnown
import Derived.Test.YtbeeomdpdmmllaaDoorCapMath
namespace Go.Proofs.YtbeeomdpdmmllaaDoor
set_option linter.unusedVariables false
set_option linter.unusedSimpArgs false
open Go.RowKit
set_option maxHeartbeats 1000000 in
theorem capPerms_walk (t : Bool) (b p a m y : Int) (x z : Int) (hb : 0 ≤ b ∧ b ≤ 4294967295) (hp : 0 ≤ p ∧ p ≤ 4294967295) (ha : 0 ≤ a ∧ a ≤ 4294967295) (hm : 0 ≤ m ∧ m ≤ 65535) (hy : 0 ≤ y ∧ y ≤ 65535) (hx : 0 ≤ x ∧ x ≤ 65535) (hz : 0 ≤ z ∧ z ≤ 65535) (w : World) (hT : Tabs w) :
    Calls Tryd.prog 10 #[.agg #[.bool t, .int .u32 b, .int .u32 p, .int .u32 a, .int .u16 m, .int .u16 y], .int .u16 x, .int .u16 z] w fun e w' => e = .returned (.bool true) ∧ Keep w w' := by
  have HT := Lib.hid hT
  clear hT
  have h1 := and_in m x hm hx
  have h2 := and_in m z hm hz
  have h3 := and_in x z hx hz
  have h4 := and_in _ z h1 hz
  have E1 := and_swap m x z hm hx hz
  have E2 := and_both m x z hm hx hz
  have E3 := and_all _ h4
  have T1 := tagOpen_twice t y
  have r4 := fld4
  go_enter Tryd.func10, Tryd.ntmps10
  go_wp2_with fail
  refine (known_any _ (HT.out.keep ((Keep.refl _).alloc _))).mono ?_
  rintro e w1 ⟨rfl, hk1⟩
  have B0_1 : Box w1 w.heap.size #[.bool t, .int .u32 b, .int .u32 p, .int .u32 a, .int .u16 m, .int .u16 y] := (Box.new _ _ _).keep hk1
  have c0 := B0_1.cells
  have f0 := B0_1.thawed
  go_wp2_with fail
  refine (andPerm_any _ _ _ _ _ _ _ hb hp ha hm hx _).mono ?_
  rintro e w2 ⟨rfl, hk2⟩
  have B0_2 : Box w2 w.heap.size #[.bool t, .int .u32 b, .int .u32 p, .int .u32 a, .int .u16 m, .int .u16 y] := B0_1.keep hk2
  clear c0 f0
  have c0 := B0_2.cells
  have f0 := B0_2.thawed
  go_wp2_with fail
  refine (andPerm_any _ _ _ _ _ _ _ hb hp ha h1 hz _).mono ?_
  rintro e w3 ⟨rfl, hk3⟩
  have B0_3 : Box w3 w.heap.size #[.bool t, .int .u32 b, .int .u32 p, .int .u32 a, .int .u16 m, .int .u16 y] := B0_2.keep hk3
  clear c0 f0
  have c0 := B0_3.cells
  have f0 := B0_3.thawed
  have l0 := B0_3.lt
  go_wp2_with fail
  refine (andPerm_any _ _ _ _ _ _ _ hb hp ha hm hz _).mono ?_
  rintro e w4 ⟨rfl, hk4⟩
  have B0_4 : Box w4 w.heap.size #[.bool t, .int .u32 b, .int .u32 p, .int .u32 a, .int .u16 m, .int .u16 y] := (B0_3.alloc _).keep hk4
  have BX_4 : Box w4 w3.heap.size #[.bool (tagOpen t y), .int .u32 b, .int .u32 p, .int .u32 a, .int .u16 (bits .and .u16 (bits .and .u16 m x) z), .int .u16 y] := (Box.new _ _ _).keep hk4
  clear c0 f0
  have c0 := B0_4.cells
  have cx := BX_4.cells
  go_wp2_with fail
  refine (andPerm_any _ _ _ _ _ _ _ hb hp ha h2 hx _).mono ?_
  rintro e w5 ⟨rfl, hk5⟩
  have B0_5 := B0_4.keep hk5
  have BX_5 := BX_4.keep hk5
  clear c0 cx
  have c0 := B0_5.cells
  have cx := BX_5.cells
  have lx := BX_5.lt
  clear l0
  have l0 := B0_5.lt
  go_wp2_with fail
  refine region_grows (Keep _) (by kernel_rfl) (by kernel_rfl) (Keep.refl _).drew ?_
  repeat (first
    | (apply text_pass (by rfl)
       go_simp)
    | (apply text_step (by rfl)
       · intro W hW
         have c0 := ((B0_5.alloc _).keep hW).cells
         have c1 := ((BX_5.alloc _).keep hW).cells
         have c2 := ((Box.new _ _ _).keep hW).cells
         go_simp
         first
          | exact ⟨rfl, hW⟩
          | (rw [if_neg (by omega)]; exact ⟨rfl, hW⟩)
          | (apply yes_enter; go_at_call 19; refine (andPerm_any _ _ _ _ _ _ _ ?_ ?_ ?_ ?_ ?_ _).mono ?_; (· first | assumption | omega); (· first | assumption | omega); (· first | assumption | omega); (· first | assumption | omega); (· first | assumption | omega); rintro e w' ⟨rfl, hk⟩; exact ⟨rfl, hW.trans hk⟩)
       go_simp))
  apply text_end
  intro W hW
  go_wp2_with fail
  go_ret
  exact ⟨rfl, ((((((Keep.refl _).alloc _).trans hk1).trans hk2).trans hk3).alloc _).trans hk4 |>.trans hk5 |>.alloc _ |>.trans hW⟩
end Go.Proofs.YtbeeomdpdmmllaaDoor
