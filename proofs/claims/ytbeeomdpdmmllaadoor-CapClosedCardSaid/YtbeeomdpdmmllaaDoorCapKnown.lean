/- hasplaw2.known: its closed calls, one by one; it answers true. -/
import Derived.Test.YtbeeomdpdmmllaaDoorCapLaw
namespace Go.Proofs.YtbeeomdpdmmllaaDoor
set_option linter.unusedVariables false
set_option linter.unusedSimpArgs false
open Go.RowKit

theorem kn1 (w : World) : Calls Tryd.prog 27 #[.int .u32 64] w fun e w' => e = .returned (.agg #[.bool true, .int .u32 0, .int .u32 64, .int .u32 0, .int .u16 127, .int .u16 0]) ∧ Keep w w' := root_any 64 w
theorem kn2 (w : World) : Calls Tryd.prog 15 #[.agg #[.bool true, .int .u32 0, .int .u32 64, .int .u32 0, .int .u16 127, .int .u16 0], .int .u32 16] w fun e w' => e = .returned (.agg #[.bool true, .int .u32 0, .int .u32 64, .int .u32 16, .int .u16 127, .int .u16 0]) ∧ Keep w w' := setAddr_any true 0 64 0 127 0 16 (by decide) (by decide) (by decide) (by decide) w
theorem kn3 (w : World) : Calls Tryd.prog 17 #[.agg #[.bool true, .int .u32 0, .int .u32 64, .int .u32 16, .int .u16 127, .int .u16 0], .int .u32 32] w fun e w' => e = .returned (.agg #[.bool true, .int .u32 16, .int .u32 48, .int .u32 16, .int .u16 127, .int .u16 0]) ∧ Keep w w' := bounds_any true 0 64 16 127 0 32 (by decide) (by decide) (by decide) (by decide) (by decide) w
theorem kn4 (w : World) : Calls Tryd.prog 15 #[.agg #[.bool true, .int .u32 16, .int .u32 48, .int .u32 16, .int .u16 127, .int .u16 0], .int .u32 20] w fun e w' => e = .returned (.agg #[.bool true, .int .u32 16, .int .u32 48, .int .u32 20, .int .u16 127, .int .u16 0]) ∧ Keep w w' := setAddr_any true 16 48 16 127 0 20 (by decide) (by decide) (by decide) (by decide) w
theorem kn5 (w : World) : Calls Tryd.prog 27 #[.int .u32 1024] w fun e w' => e = .returned (.agg #[.bool true, .int .u32 0, .int .u32 1024, .int .u32 0, .int .u16 127, .int .u16 0]) ∧ Keep w w' := root_any 1024 w
theorem kn6 (w : World) : Calls Tryd.prog 15 #[.agg #[.bool true, .int .u32 0, .int .u32 1024, .int .u32 0, .int .u16 127, .int .u16 0], .int .u32 7] w fun e w' => e = .returned (.agg #[.bool true, .int .u32 0, .int .u32 1024, .int .u32 7, .int .u16 127, .int .u16 0]) ∧ Keep w w' := setAddr_any true 0 1024 0 127 0 7 (by decide) (by decide) (by decide) (by decide) w
theorem kn7 (w : World) : Calls Tryd.prog 29 #[.agg #[.bool true, .int .u32 16, .int .u32 48, .int .u32 20, .int .u16 127, .int .u16 0], .agg #[.bool true, .int .u32 0, .int .u32 1024, .int .u32 7, .int .u16 127, .int .u16 0]] w fun e w' => e = .returned (.agg #[.bool true, .int .u32 16, .int .u32 48, .int .u32 20, .int .u16 127, .int .u16 7]) ∧ Keep w w' := seal_any true 16 48 20 127 0 true 0 1024 7 127 0 (by decide) (by decide) (by decide) (by decide) (by decide) (by decide) (by decide) (by decide) w
theorem kn8 (w : World) : Calls Tryd.prog 31 #[.agg #[.bool true, .int .u32 16, .int .u32 48, .int .u32 20, .int .u16 127, .int .u16 7], .agg #[.bool true, .int .u32 0, .int .u32 1024, .int .u32 7, .int .u16 127, .int .u16 0]] w fun e w' => e = .returned (.agg #[.bool true, .int .u32 16, .int .u32 48, .int .u32 20, .int .u16 127, .int .u16 0]) ∧ Keep w w' := unseal_any true 16 48 20 127 7 true 0 1024 7 127 0 (by decide) (by decide) (by decide) (by decide) (by decide) (by decide) (by decide) (by decide) w
theorem kn9 (w : World) : Calls Tryd.prog 23 #[.agg #[.bool true, .int .u32 16, .int .u32 48, .int .u32 20, .int .u16 127, .int .u16 0]] w fun e w' => e = .returned (.agg #[.bool true, .int .u32 16, .int .u32 48, .int .u32 20, .int .u16 127, .int .u16 1]) ∧ Keep w w' := enter_any true 16 48 20 127 0 (by decide) (by decide) (by decide) (by decide) w
theorem kn10 (w : World) : Calls Tryd.prog 15 #[.agg #[.bool true, .int .u32 16, .int .u32 48, .int .u32 20, .int .u16 127, .int .u16 7], .int .u32 0] w fun e w' => e = .returned (.agg #[.bool false, .int .u32 16, .int .u32 48, .int .u32 0, .int .u16 127, .int .u16 7]) ∧ Keep w w' := setAddr_any true 16 48 20 127 7 0 (by decide) (by decide) (by decide) (by decide) w
theorem kn11 (w : World) : Calls Tryd.prog 17 #[.agg #[.bool true, .int .u32 16, .int .u32 48, .int .u32 16, .int .u16 127, .int .u16 0], .int .u32 100] w fun e w' => e = .returned (.agg #[.bool false, .int .u32 16, .int .u32 116, .int .u32 16, .int .u16 127, .int .u16 0]) ∧ Keep w w' := bounds_any true 16 48 16 127 0 100 (by decide) (by decide) (by decide) (by decide) (by decide) w
theorem kn12 (w : World) : Calls Tryd.prog 19 #[.agg #[.bool true, .int .u32 16, .int .u32 48, .int .u32 16, .int .u16 127, .int .u16 0], .int .u16 1] w fun e w' => e = .returned (.agg #[.bool true, .int .u32 16, .int .u32 48, .int .u32 16, .int .u16 1, .int .u16 0]) ∧ Keep w w' := andPerm_any true 16 48 16 127 0 1 (by decide) (by decide) (by decide) (by decide) (by decide) w
theorem kn13 (w : World) : Calls Tryd.prog 21 #[.agg #[.bool true, .int .u32 16, .int .u32 48, .int .u32 16, .int .u16 127, .int .u16 0]] w fun e w' => e = .returned (.agg #[.bool false, .int .u32 16, .int .u32 48, .int .u32 16, .int .u16 127, .int .u16 0]) ∧ Keep w w' := clear_any true 16 48 16 127 0 w
theorem kn14 (w : World) : Calls Tryd.prog 35 #[.agg #[.bool true, .int .u32 16, .int .u32 48, .int .u32 16, .int .u16 127, .int .u16 0], .agg #[.bool true, .int .u32 0, .int .u32 64, .int .u32 0, .int .u16 127, .int .u16 0]] w fun e w' => e = .returned (.bool true) ∧ Keep w w' := sub_any true 16 48 16 127 0 true 0 64 0 127 0 w
theorem kn15 (w : World) : Calls Tryd.prog 35 #[.agg #[.bool true, .int .u32 0, .int .u32 64, .int .u32 0, .int .u16 127, .int .u16 0], .agg #[.bool true, .int .u32 16, .int .u32 48, .int .u32 16, .int .u16 127, .int .u16 0]] w fun e w' => e = .returned (.bool false) ∧ Keep w w' := sub_any true 0 64 0 127 0 true 16 48 16 127 0 w
theorem kn16 (w : World) : Calls Tryd.prog 33 #[.agg #[.bool true, .int .u32 16, .int .u32 48, .int .u32 16, .int .u16 127, .int .u16 0], .int .u32 16, .int .u32 32] w fun e w' => e = .returned (.bool true) ∧ Keep w w' := has_any true 16 48 16 127 0 16 32 (by decide) (by decide) (by decide) (by decide) w
theorem kn17 (w : World) : Calls Tryd.prog 33 #[.agg #[.bool true, .int .u32 16, .int .u32 48, .int .u32 16, .int .u16 127, .int .u16 0], .int .u32 16, .int .u32 33] w fun e w' => e = .returned (.bool false) ∧ Keep w w' := has_any true 16 48 16 127 0 16 33 (by decide) (by decide) (by decide) (by decide) w
theorem kn18 (w : World) : Calls Tryd.prog 25 #[.int .u32 5] w fun e w' => e = .returned (.agg #[.bool false, .int .u32 0, .int .u32 0, .int .u32 5, .int .u16 0, .int .u16 0]) ∧ Keep w w' := int_any 5 w
theorem dec127 : decB 127 = ⟨#[49, 50, 55]⟩ := by
  unfold decB
  rw [dec_step 127 (by decide), dec_step (127 / 10) (by decide), dec_last (127 / 10 / 10) (by decide)]
  rfl
theorem dec1 : decB 1 = ⟨#[49]⟩ := by
  unfold decB
  rw [dec_last 1 (by decide)]
  rfl
theorem knText : capText true 16 48 20 127 1 = ⟨#[33, 91, 48, 120, 48, 48, 48, 48, 48, 48, 49, 48, 44, 48, 120, 48, 48, 48, 48, 48, 48, 51, 48, 41, 32, 48, 120, 48, 48, 48, 48, 48, 48, 49, 52, 32, 112, 49, 50, 55, 32, 116, 49]⟩ := by
  unfold capText
  rw [dec127, dec1]
  decide +kernel
theorem knt (w : World) (hT : Tabs w) : Calls Tryd.prog 37 #[.agg #[.bool true, .int .u32 16, .int .u32 48, .int .u32 20, .int .u16 127, .int .u16 1]] w fun e w' => e = .returned (.string ⟨#[33, 91, 48, 120, 48, 48, 48, 48, 48, 48, 49, 48, 44, 48, 120, 48, 48, 48, 48, 48, 48, 51, 48, 41, 32, 48, 120, 48, 48, 48, 48, 48, 48, 49, 52, 32, 112, 49, 50, 55, 32, 116, 49]⟩) ∧ Keep w w' := by
  rw [← knText]
  exact capText_any true 16 48 20 127 1 (by decide) (by decide) (by decide) (by decide) (by decide) w hT

set_option maxHeartbeats 1000000 in
theorem known_any (w : World) (hT : Tabs w) :
    Calls Tryd.prog 13 #[] w fun e w' => e = .returned (.bool true) ∧ Keep w w' := by
  have r0 := fld0
  have r3 := fld3
  have r4 := fld4
  have HT := Lib.hid hT
  clear hT
  go_enter Tryd.func13, Tryd.ntmps13
  have K0 : Keep w w := Keep.refl _
  go_wp2_with fail
  refine (kn1 _).mono ?_
  rintro e w1 ⟨rfl, hk⟩
  have K1 : Keep w w1 := K0.trans hk
  clear K0
  clear hk
  go_wp2_with fail
  refine (kn2 _).mono ?_
  rintro e w2 ⟨rfl, hk⟩
  have K2 : Keep w w2 := (K1.alloc _).trans hk
  clear K1
  have B0 : Box w2 w1.heap.size #[.bool true, .int .u32 0, .int .u32 64, .int .u32 0, .int .u16 127, .int .u16 0] := (Box.new _ _ _).keep hk
  clear hk
  try clear c0 l0
  try clear c0
  try clear l0
  have c0 := B0.cells
  have l0 := B0.lt
  go_wp2_with fail
  refine (kn3 _).mono ?_
  rintro e w3 ⟨rfl, hk⟩
  have K3 : Keep w w3 := (K2).trans hk
  clear K2
  replace B0 : Box w3 w1.heap.size #[.bool true, .int .u32 0, .int .u32 64, .int .u32 0, .int .u16 127, .int .u16 0] := (B0).keep hk
  clear hk
  try clear c0 l0
  try clear c0
  try clear l0
  have c0 := B0.cells
  have l0 := B0.lt
  go_wp2_with fail
  refine (kn4 _).mono ?_
  rintro e w4 ⟨rfl, hk⟩
  have K4 : Keep w w4 := (K3.alloc _).trans hk
  clear K3
  replace B0 : Box w4 w1.heap.size #[.bool true, .int .u32 0, .int .u32 64, .int .u32 0, .int .u16 127, .int .u16 0] := (B0.alloc _).keep hk
  have B1 : Box w4 w3.heap.size #[.bool true, .int .u32 16, .int .u32 48, .int .u32 16, .int .u16 127, .int .u16 0] := (Box.new _ _ _).keep hk
  clear hk
  try clear c0 l0 c1 l1
  try clear c0
  try clear l0
  have c0 := B0.cells
  have l0 := B0.lt
  try clear c1
  try clear l1
  have c1 := B1.cells
  have l1 := B1.lt
  go_wp2_with fail
  refine (kn5 _).mono ?_
  rintro e w5 ⟨rfl, hk⟩
  have K5 : Keep w w5 := (K4.alloc _).trans hk
  clear K4
  replace B0 : Box w5 w1.heap.size #[.bool true, .int .u32 0, .int .u32 64, .int .u32 0, .int .u16 127, .int .u16 0] := (B0.alloc _).keep hk
  replace B1 : Box w5 w3.heap.size #[.bool true, .int .u32 16, .int .u32 48, .int .u32 16, .int .u16 127, .int .u16 0] := (B1.alloc _).keep hk
  have B2 : Box w5 w4.heap.size #[.bool true, .int .u32 16, .int .u32 48, .int .u32 20, .int .u16 127, .int .u16 0] := (Box.new _ _ _).keep hk
  clear hk
  try clear c0 l0 c1 l1 c2 l2
  try clear c0
  try clear l0
  have c0 := B0.cells
  have l0 := B0.lt
  try clear c1
  try clear l1
  have c1 := B1.cells
  have l1 := B1.lt
  try clear c2
  try clear l2
  have c2 := B2.cells
  have l2 := B2.lt
  go_wp2_with fail
  refine (kn6 _).mono ?_
  rintro e w6 ⟨rfl, hk⟩
  have K6 : Keep w w6 := (K5).trans hk
  clear K5
  replace B0 : Box w6 w1.heap.size #[.bool true, .int .u32 0, .int .u32 64, .int .u32 0, .int .u16 127, .int .u16 0] := (B0).keep hk
  replace B1 : Box w6 w3.heap.size #[.bool true, .int .u32 16, .int .u32 48, .int .u32 16, .int .u16 127, .int .u16 0] := (B1).keep hk
  replace B2 : Box w6 w4.heap.size #[.bool true, .int .u32 16, .int .u32 48, .int .u32 20, .int .u16 127, .int .u16 0] := (B2).keep hk
  clear hk
  try clear c0 l0 c1 l1 c2 l2
  try clear c0
  try clear l0
  have c0 := B0.cells
  have l0 := B0.lt
  try clear c1
  try clear l1
  have c1 := B1.cells
  have l1 := B1.lt
  try clear c2
  try clear l2
  have c2 := B2.cells
  have l2 := B2.lt
  go_wp2_with fail
  refine (kn7 _).mono ?_
  rintro e w7 ⟨rfl, hk⟩
  have K7 : Keep w w7 := (K6.alloc _).trans hk
  clear K6
  replace B0 : Box w7 w1.heap.size #[.bool true, .int .u32 0, .int .u32 64, .int .u32 0, .int .u16 127, .int .u16 0] := (B0.alloc _).keep hk
  replace B1 : Box w7 w3.heap.size #[.bool true, .int .u32 16, .int .u32 48, .int .u32 16, .int .u16 127, .int .u16 0] := (B1.alloc _).keep hk
  replace B2 : Box w7 w4.heap.size #[.bool true, .int .u32 16, .int .u32 48, .int .u32 20, .int .u16 127, .int .u16 0] := (B2.alloc _).keep hk
  have B3 : Box w7 w6.heap.size #[.bool true, .int .u32 0, .int .u32 1024, .int .u32 7, .int .u16 127, .int .u16 0] := (Box.new _ _ _).keep hk
  clear hk
  try clear c0 l0 c1 l1 c2 l2 c3 l3
  try clear c0
  try clear l0
  have c0 := B0.cells
  have l0 := B0.lt
  try clear c1
  try clear l1
  have c1 := B1.cells
  have l1 := B1.lt
  try clear c2
  try clear l2
  have c2 := B2.cells
  have l2 := B2.lt
  try clear c3
  try clear l3
  have c3 := B3.cells
  have l3 := B3.lt
  go_wp2_with fail
  refine (kn8 _).mono ?_
  rintro e w8 ⟨rfl, hk⟩
  have K8 : Keep w w8 := (K7.alloc _).trans hk
  clear K7
  replace B0 : Box w8 w1.heap.size #[.bool true, .int .u32 0, .int .u32 64, .int .u32 0, .int .u16 127, .int .u16 0] := (B0.alloc _).keep hk
  replace B1 : Box w8 w3.heap.size #[.bool true, .int .u32 16, .int .u32 48, .int .u32 16, .int .u16 127, .int .u16 0] := (B1.alloc _).keep hk
  replace B2 : Box w8 w4.heap.size #[.bool true, .int .u32 16, .int .u32 48, .int .u32 20, .int .u16 127, .int .u16 0] := (B2.alloc _).keep hk
  replace B3 : Box w8 w6.heap.size #[.bool true, .int .u32 0, .int .u32 1024, .int .u32 7, .int .u16 127, .int .u16 0] := (B3.alloc _).keep hk
  have B4 : Box w8 w7.heap.size #[.bool true, .int .u32 16, .int .u32 48, .int .u32 20, .int .u16 127, .int .u16 7] := (Box.new _ _ _).keep hk
  clear hk
  try clear c0 l0 c1 l1 c2 l2 c3 l3 c4 l4
  try clear c0
  try clear l0
  have c0 := B0.cells
  have l0 := B0.lt
  try clear c1
  try clear l1
  have c1 := B1.cells
  have l1 := B1.lt
  try clear c2
  try clear l2
  have c2 := B2.cells
  have l2 := B2.lt
  try clear c3
  try clear l3
  have c3 := B3.cells
  have l3 := B3.lt
  try clear c4
  try clear l4
  have c4 := B4.cells
  have l4 := B4.lt
  go_wp2_with fail
  refine (kn9 _).mono ?_
  rintro e w9 ⟨rfl, hk⟩
  have K9 : Keep w w9 := (K8.alloc _).trans hk
  clear K8
  replace B0 : Box w9 w1.heap.size #[.bool true, .int .u32 0, .int .u32 64, .int .u32 0, .int .u16 127, .int .u16 0] := (B0.alloc _).keep hk
  replace B1 : Box w9 w3.heap.size #[.bool true, .int .u32 16, .int .u32 48, .int .u32 16, .int .u16 127, .int .u16 0] := (B1.alloc _).keep hk
  replace B2 : Box w9 w4.heap.size #[.bool true, .int .u32 16, .int .u32 48, .int .u32 20, .int .u16 127, .int .u16 0] := (B2.alloc _).keep hk
  replace B3 : Box w9 w6.heap.size #[.bool true, .int .u32 0, .int .u32 1024, .int .u32 7, .int .u16 127, .int .u16 0] := (B3.alloc _).keep hk
  replace B4 : Box w9 w7.heap.size #[.bool true, .int .u32 16, .int .u32 48, .int .u32 20, .int .u16 127, .int .u16 7] := (B4.alloc _).keep hk
  have B5 : Box w9 w8.heap.size #[.bool true, .int .u32 16, .int .u32 48, .int .u32 20, .int .u16 127, .int .u16 0] := (Box.new _ _ _).keep hk
  clear hk
  try clear c0 l0 c1 l1 c2 l2 c3 l3 c4 l4 c5 l5
  try clear c0
  try clear l0
  have c0 := B0.cells
  have l0 := B0.lt
  try clear c1
  try clear l1
  have c1 := B1.cells
  have l1 := B1.lt
  try clear c2
  try clear l2
  have c2 := B2.cells
  have l2 := B2.lt
  try clear c3
  try clear l3
  have c3 := B3.cells
  have l3 := B3.lt
  try clear c4
  try clear l4
  have c4 := B4.cells
  have l4 := B4.lt
  try clear c5
  try clear l5
  have c5 := B5.cells
  have l5 := B5.lt
  go_wp2_with fail
  refine (kn10 _).mono ?_
  rintro e w10 ⟨rfl, hk⟩
  have K10 : Keep w w10 := (K9.alloc _).trans hk
  clear K9
  replace B0 : Box w10 w1.heap.size #[.bool true, .int .u32 0, .int .u32 64, .int .u32 0, .int .u16 127, .int .u16 0] := (B0.alloc _).keep hk
  replace B1 : Box w10 w3.heap.size #[.bool true, .int .u32 16, .int .u32 48, .int .u32 16, .int .u16 127, .int .u16 0] := (B1.alloc _).keep hk
  replace B2 : Box w10 w4.heap.size #[.bool true, .int .u32 16, .int .u32 48, .int .u32 20, .int .u16 127, .int .u16 0] := (B2.alloc _).keep hk
  replace B3 : Box w10 w6.heap.size #[.bool true, .int .u32 0, .int .u32 1024, .int .u32 7, .int .u16 127, .int .u16 0] := (B3.alloc _).keep hk
  replace B4 : Box w10 w7.heap.size #[.bool true, .int .u32 16, .int .u32 48, .int .u32 20, .int .u16 127, .int .u16 7] := (B4.alloc _).keep hk
  replace B5 : Box w10 w8.heap.size #[.bool true, .int .u32 16, .int .u32 48, .int .u32 20, .int .u16 127, .int .u16 0] := (B5.alloc _).keep hk
  have B6 : Box w10 w9.heap.size #[.bool true, .int .u32 16, .int .u32 48, .int .u32 20, .int .u16 127, .int .u16 1] := (Box.new _ _ _).keep hk
  clear hk
  try clear c0 l0 c1 l1 c2 l2 c3 l3 c4 l4 c5 l5 c6 l6
  try clear c0
  try clear l0
  have c0 := B0.cells
  have l0 := B0.lt
  try clear c1
  try clear l1
  have c1 := B1.cells
  have l1 := B1.lt
  try clear c2
  try clear l2
  have c2 := B2.cells
  have l2 := B2.lt
  try clear c3
  try clear l3
  have c3 := B3.cells
  have l3 := B3.lt
  try clear c4
  try clear l4
  have c4 := B4.cells
  have l4 := B4.lt
  try clear c5
  try clear l5
  have c5 := B5.cells
  have l5 := B5.lt
  try clear c6
  try clear l6
  have c6 := B6.cells
  have l6 := B6.lt
  go_wp2_with fail
  refine (kn11 _).mono ?_
  rintro e w11 ⟨rfl, hk⟩
  have K11 : Keep w w11 := (K10).trans hk
  clear K10
  replace B0 : Box w11 w1.heap.size #[.bool true, .int .u32 0, .int .u32 64, .int .u32 0, .int .u16 127, .int .u16 0] := (B0).keep hk
  replace B1 : Box w11 w3.heap.size #[.bool true, .int .u32 16, .int .u32 48, .int .u32 16, .int .u16 127, .int .u16 0] := (B1).keep hk
  replace B2 : Box w11 w4.heap.size #[.bool true, .int .u32 16, .int .u32 48, .int .u32 20, .int .u16 127, .int .u16 0] := (B2).keep hk
  replace B3 : Box w11 w6.heap.size #[.bool true, .int .u32 0, .int .u32 1024, .int .u32 7, .int .u16 127, .int .u16 0] := (B3).keep hk
  replace B4 : Box w11 w7.heap.size #[.bool true, .int .u32 16, .int .u32 48, .int .u32 20, .int .u16 127, .int .u16 7] := (B4).keep hk
  replace B5 : Box w11 w8.heap.size #[.bool true, .int .u32 16, .int .u32 48, .int .u32 20, .int .u16 127, .int .u16 0] := (B5).keep hk
  replace B6 : Box w11 w9.heap.size #[.bool true, .int .u32 16, .int .u32 48, .int .u32 20, .int .u16 127, .int .u16 1] := (B6).keep hk
  clear hk
  try clear c0 l0 c1 l1 c2 l2 c3 l3 c4 l4 c5 l5 c6 l6
  try clear c0
  try clear l0
  have c0 := B0.cells
  have l0 := B0.lt
  try clear c1
  try clear l1
  have c1 := B1.cells
  have l1 := B1.lt
  try clear c2
  try clear l2
  have c2 := B2.cells
  have l2 := B2.lt
  try clear c3
  try clear l3
  have c3 := B3.cells
  have l3 := B3.lt
  try clear c4
  try clear l4
  have c4 := B4.cells
  have l4 := B4.lt
  try clear c5
  try clear l5
  have c5 := B5.cells
  have l5 := B5.lt
  try clear c6
  try clear l6
  have c6 := B6.cells
  have l6 := B6.lt
  go_wp2_with fail
  refine (kn12 _).mono ?_
  rintro e w12 ⟨rfl, hk⟩
  have K12 : Keep w w12 := (K11).trans hk
  clear K11
  replace B0 : Box w12 w1.heap.size #[.bool true, .int .u32 0, .int .u32 64, .int .u32 0, .int .u16 127, .int .u16 0] := (B0).keep hk
  replace B1 : Box w12 w3.heap.size #[.bool true, .int .u32 16, .int .u32 48, .int .u32 16, .int .u16 127, .int .u16 0] := (B1).keep hk
  replace B2 : Box w12 w4.heap.size #[.bool true, .int .u32 16, .int .u32 48, .int .u32 20, .int .u16 127, .int .u16 0] := (B2).keep hk
  replace B3 : Box w12 w6.heap.size #[.bool true, .int .u32 0, .int .u32 1024, .int .u32 7, .int .u16 127, .int .u16 0] := (B3).keep hk
  replace B4 : Box w12 w7.heap.size #[.bool true, .int .u32 16, .int .u32 48, .int .u32 20, .int .u16 127, .int .u16 7] := (B4).keep hk
  replace B5 : Box w12 w8.heap.size #[.bool true, .int .u32 16, .int .u32 48, .int .u32 20, .int .u16 127, .int .u16 0] := (B5).keep hk
  replace B6 : Box w12 w9.heap.size #[.bool true, .int .u32 16, .int .u32 48, .int .u32 20, .int .u16 127, .int .u16 1] := (B6).keep hk
  clear hk
  try clear c0 l0 c1 l1 c2 l2 c3 l3 c4 l4 c5 l5 c6 l6
  try clear c0
  try clear l0
  have c0 := B0.cells
  have l0 := B0.lt
  try clear c1
  try clear l1
  have c1 := B1.cells
  have l1 := B1.lt
  try clear c2
  try clear l2
  have c2 := B2.cells
  have l2 := B2.lt
  try clear c3
  try clear l3
  have c3 := B3.cells
  have l3 := B3.lt
  try clear c4
  try clear l4
  have c4 := B4.cells
  have l4 := B4.lt
  try clear c5
  try clear l5
  have c5 := B5.cells
  have l5 := B5.lt
  try clear c6
  try clear l6
  have c6 := B6.cells
  have l6 := B6.lt
  go_wp2_with fail
  refine (kn13 _).mono ?_
  rintro e w13 ⟨rfl, hk⟩
  have K13 : Keep w w13 := (K12).trans hk
  clear K12
  replace B0 : Box w13 w1.heap.size #[.bool true, .int .u32 0, .int .u32 64, .int .u32 0, .int .u16 127, .int .u16 0] := (B0).keep hk
  replace B1 : Box w13 w3.heap.size #[.bool true, .int .u32 16, .int .u32 48, .int .u32 16, .int .u16 127, .int .u16 0] := (B1).keep hk
  replace B2 : Box w13 w4.heap.size #[.bool true, .int .u32 16, .int .u32 48, .int .u32 20, .int .u16 127, .int .u16 0] := (B2).keep hk
  replace B3 : Box w13 w6.heap.size #[.bool true, .int .u32 0, .int .u32 1024, .int .u32 7, .int .u16 127, .int .u16 0] := (B3).keep hk
  replace B4 : Box w13 w7.heap.size #[.bool true, .int .u32 16, .int .u32 48, .int .u32 20, .int .u16 127, .int .u16 7] := (B4).keep hk
  replace B5 : Box w13 w8.heap.size #[.bool true, .int .u32 16, .int .u32 48, .int .u32 20, .int .u16 127, .int .u16 0] := (B5).keep hk
  replace B6 : Box w13 w9.heap.size #[.bool true, .int .u32 16, .int .u32 48, .int .u32 20, .int .u16 127, .int .u16 1] := (B6).keep hk
  clear hk
  try clear c0 l0 c1 l1 c2 l2 c3 l3 c4 l4 c5 l5 c6 l6
  try clear c0
  try clear l0
  have c0 := B0.cells
  have l0 := B0.lt
  try clear c1
  try clear l1
  have c1 := B1.cells
  have l1 := B1.lt
  try clear c2
  try clear l2
  have c2 := B2.cells
  have l2 := B2.lt
  try clear c3
  try clear l3
  have c3 := B3.cells
  have l3 := B3.lt
  try clear c4
  try clear l4
  have c4 := B4.cells
  have l4 := B4.lt
  try clear c5
  try clear l5
  have c5 := B5.cells
  have l5 := B5.lt
  try clear c6
  try clear l6
  have c6 := B6.cells
  have l6 := B6.lt
  go_wp2_with fail
  refine (kn14 _).mono ?_
  rintro e w14 ⟨rfl, hk⟩
  have K14 : Keep w w14 := (K13).trans hk
  clear K13
  replace B0 : Box w14 w1.heap.size #[.bool true, .int .u32 0, .int .u32 64, .int .u32 0, .int .u16 127, .int .u16 0] := (B0).keep hk
  replace B1 : Box w14 w3.heap.size #[.bool true, .int .u32 16, .int .u32 48, .int .u32 16, .int .u16 127, .int .u16 0] := (B1).keep hk
  replace B2 : Box w14 w4.heap.size #[.bool true, .int .u32 16, .int .u32 48, .int .u32 20, .int .u16 127, .int .u16 0] := (B2).keep hk
  replace B3 : Box w14 w6.heap.size #[.bool true, .int .u32 0, .int .u32 1024, .int .u32 7, .int .u16 127, .int .u16 0] := (B3).keep hk
  replace B4 : Box w14 w7.heap.size #[.bool true, .int .u32 16, .int .u32 48, .int .u32 20, .int .u16 127, .int .u16 7] := (B4).keep hk
  replace B5 : Box w14 w8.heap.size #[.bool true, .int .u32 16, .int .u32 48, .int .u32 20, .int .u16 127, .int .u16 0] := (B5).keep hk
  replace B6 : Box w14 w9.heap.size #[.bool true, .int .u32 16, .int .u32 48, .int .u32 20, .int .u16 127, .int .u16 1] := (B6).keep hk
  clear hk
  try clear c0 l0 c1 l1 c2 l2 c3 l3 c4 l4 c5 l5 c6 l6
  try clear c0
  try clear l0
  have c0 := B0.cells
  have l0 := B0.lt
  try clear c1
  try clear l1
  have c1 := B1.cells
  have l1 := B1.lt
  try clear c2
  try clear l2
  have c2 := B2.cells
  have l2 := B2.lt
  try clear c3
  try clear l3
  have c3 := B3.cells
  have l3 := B3.lt
  try clear c4
  try clear l4
  have c4 := B4.cells
  have l4 := B4.lt
  try clear c5
  try clear l5
  have c5 := B5.cells
  have l5 := B5.lt
  try clear c6
  try clear l6
  have c6 := B6.cells
  have l6 := B6.lt
  go_wp2_with fail
  refine (kn15 _).mono ?_
  rintro e w15 ⟨rfl, hk⟩
  have K15 : Keep w w15 := (K14).trans hk
  clear K14
  replace B0 : Box w15 w1.heap.size #[.bool true, .int .u32 0, .int .u32 64, .int .u32 0, .int .u16 127, .int .u16 0] := (B0).keep hk
  replace B1 : Box w15 w3.heap.size #[.bool true, .int .u32 16, .int .u32 48, .int .u32 16, .int .u16 127, .int .u16 0] := (B1).keep hk
  replace B2 : Box w15 w4.heap.size #[.bool true, .int .u32 16, .int .u32 48, .int .u32 20, .int .u16 127, .int .u16 0] := (B2).keep hk
  replace B3 : Box w15 w6.heap.size #[.bool true, .int .u32 0, .int .u32 1024, .int .u32 7, .int .u16 127, .int .u16 0] := (B3).keep hk
  replace B4 : Box w15 w7.heap.size #[.bool true, .int .u32 16, .int .u32 48, .int .u32 20, .int .u16 127, .int .u16 7] := (B4).keep hk
  replace B5 : Box w15 w8.heap.size #[.bool true, .int .u32 16, .int .u32 48, .int .u32 20, .int .u16 127, .int .u16 0] := (B5).keep hk
  replace B6 : Box w15 w9.heap.size #[.bool true, .int .u32 16, .int .u32 48, .int .u32 20, .int .u16 127, .int .u16 1] := (B6).keep hk
  clear hk
  try clear c0 l0 c1 l1 c2 l2 c3 l3 c4 l4 c5 l5 c6 l6
  try clear c0
  try clear l0
  have c0 := B0.cells
  have l0 := B0.lt
  try clear c1
  try clear l1
  have c1 := B1.cells
  have l1 := B1.lt
  try clear c2
  try clear l2
  have c2 := B2.cells
  have l2 := B2.lt
  try clear c3
  try clear l3
  have c3 := B3.cells
  have l3 := B3.lt
  try clear c4
  try clear l4
  have c4 := B4.cells
  have l4 := B4.lt
  try clear c5
  try clear l5
  have c5 := B5.cells
  have l5 := B5.lt
  try clear c6
  try clear l6
  have c6 := B6.cells
  have l6 := B6.lt
  go_wp2_with fail
  refine (kn16 _).mono ?_
  rintro e w16 ⟨rfl, hk⟩
  have K16 : Keep w w16 := (K15).trans hk
  clear K15
  replace B0 : Box w16 w1.heap.size #[.bool true, .int .u32 0, .int .u32 64, .int .u32 0, .int .u16 127, .int .u16 0] := (B0).keep hk
  replace B1 : Box w16 w3.heap.size #[.bool true, .int .u32 16, .int .u32 48, .int .u32 16, .int .u16 127, .int .u16 0] := (B1).keep hk
  replace B2 : Box w16 w4.heap.size #[.bool true, .int .u32 16, .int .u32 48, .int .u32 20, .int .u16 127, .int .u16 0] := (B2).keep hk
  replace B3 : Box w16 w6.heap.size #[.bool true, .int .u32 0, .int .u32 1024, .int .u32 7, .int .u16 127, .int .u16 0] := (B3).keep hk
  replace B4 : Box w16 w7.heap.size #[.bool true, .int .u32 16, .int .u32 48, .int .u32 20, .int .u16 127, .int .u16 7] := (B4).keep hk
  replace B5 : Box w16 w8.heap.size #[.bool true, .int .u32 16, .int .u32 48, .int .u32 20, .int .u16 127, .int .u16 0] := (B5).keep hk
  replace B6 : Box w16 w9.heap.size #[.bool true, .int .u32 16, .int .u32 48, .int .u32 20, .int .u16 127, .int .u16 1] := (B6).keep hk
  clear hk
  try clear c0 l0 c1 l1 c2 l2 c3 l3 c4 l4 c5 l5 c6 l6
  try clear c0
  try clear l0
  have c0 := B0.cells
  have l0 := B0.lt
  try clear c1
  try clear l1
  have c1 := B1.cells
  have l1 := B1.lt
  try clear c2
  try clear l2
  have c2 := B2.cells
  have l2 := B2.lt
  try clear c3
  try clear l3
  have c3 := B3.cells
  have l3 := B3.lt
  try clear c4
  try clear l4
  have c4 := B4.cells
  have l4 := B4.lt
  try clear c5
  try clear l5
  have c5 := B5.cells
  have l5 := B5.lt
  try clear c6
  try clear l6
  have c6 := B6.cells
  have l6 := B6.lt
  go_wp2_with fail
  refine (kn17 _).mono ?_
  rintro e w17 ⟨rfl, hk⟩
  have K17 : Keep w w17 := (K16).trans hk
  clear K16
  replace B0 : Box w17 w1.heap.size #[.bool true, .int .u32 0, .int .u32 64, .int .u32 0, .int .u16 127, .int .u16 0] := (B0).keep hk
  replace B1 : Box w17 w3.heap.size #[.bool true, .int .u32 16, .int .u32 48, .int .u32 16, .int .u16 127, .int .u16 0] := (B1).keep hk
  replace B2 : Box w17 w4.heap.size #[.bool true, .int .u32 16, .int .u32 48, .int .u32 20, .int .u16 127, .int .u16 0] := (B2).keep hk
  replace B3 : Box w17 w6.heap.size #[.bool true, .int .u32 0, .int .u32 1024, .int .u32 7, .int .u16 127, .int .u16 0] := (B3).keep hk
  replace B4 : Box w17 w7.heap.size #[.bool true, .int .u32 16, .int .u32 48, .int .u32 20, .int .u16 127, .int .u16 7] := (B4).keep hk
  replace B5 : Box w17 w8.heap.size #[.bool true, .int .u32 16, .int .u32 48, .int .u32 20, .int .u16 127, .int .u16 0] := (B5).keep hk
  replace B6 : Box w17 w9.heap.size #[.bool true, .int .u32 16, .int .u32 48, .int .u32 20, .int .u16 127, .int .u16 1] := (B6).keep hk
  clear hk
  try clear c0 l0 c1 l1 c2 l2 c3 l3 c4 l4 c5 l5 c6 l6
  try clear c0
  try clear l0
  have c0 := B0.cells
  have l0 := B0.lt
  try clear c1
  try clear l1
  have c1 := B1.cells
  have l1 := B1.lt
  try clear c2
  try clear l2
  have c2 := B2.cells
  have l2 := B2.lt
  try clear c3
  try clear l3
  have c3 := B3.cells
  have l3 := B3.lt
  try clear c4
  try clear l4
  have c4 := B4.cells
  have l4 := B4.lt
  try clear c5
  try clear l5
  have c5 := B5.cells
  have l5 := B5.lt
  try clear c6
  try clear l6
  have c6 := B6.cells
  have l6 := B6.lt
  go_wp2_with fail
  refine (kn18 _).mono ?_
  rintro e w18 ⟨rfl, hk⟩
  have K18 : Keep w w18 := (K17).trans hk
  clear K17
  replace B0 : Box w18 w1.heap.size #[.bool true, .int .u32 0, .int .u32 64, .int .u32 0, .int .u16 127, .int .u16 0] := (B0).keep hk
  replace B1 : Box w18 w3.heap.size #[.bool true, .int .u32 16, .int .u32 48, .int .u32 16, .int .u16 127, .int .u16 0] := (B1).keep hk
  replace B2 : Box w18 w4.heap.size #[.bool true, .int .u32 16, .int .u32 48, .int .u32 20, .int .u16 127, .int .u16 0] := (B2).keep hk
  replace B3 : Box w18 w6.heap.size #[.bool true, .int .u32 0, .int .u32 1024, .int .u32 7, .int .u16 127, .int .u16 0] := (B3).keep hk
  replace B4 : Box w18 w7.heap.size #[.bool true, .int .u32 16, .int .u32 48, .int .u32 20, .int .u16 127, .int .u16 7] := (B4).keep hk
  replace B5 : Box w18 w8.heap.size #[.bool true, .int .u32 16, .int .u32 48, .int .u32 20, .int .u16 127, .int .u16 0] := (B5).keep hk
  replace B6 : Box w18 w9.heap.size #[.bool true, .int .u32 16, .int .u32 48, .int .u32 20, .int .u16 127, .int .u16 1] := (B6).keep hk
  clear hk
  try clear c0 l0 c1 l1 c2 l2 c3 l3 c4 l4 c5 l5 c6 l6
  try clear c0
  try clear l0
  have c0 := B0.cells
  have l0 := B0.lt
  try clear c1
  try clear l1
  have c1 := B1.cells
  have l1 := B1.lt
  try clear c2
  try clear l2
  have c2 := B2.cells
  have l2 := B2.lt
  try clear c3
  try clear l3
  have c3 := B3.cells
  have l3 := B3.lt
  try clear c4
  try clear l4
  have c4 := B4.cells
  have l4 := B4.lt
  try clear c5
  try clear l5
  have c5 := B5.cells
  have l5 := B5.lt
  try clear c6
  try clear l6
  have c6 := B6.cells
  have l6 := B6.lt
  go_wp2_with fail
  refine (knt _ (HT.out.keep K18)).mono ?_
  rintro e w19 ⟨rfl, hk⟩
  have K19 : Keep w w19 := (K18).trans hk
  clear K18
  replace B0 : Box w19 w1.heap.size #[.bool true, .int .u32 0, .int .u32 64, .int .u32 0, .int .u16 127, .int .u16 0] := (B0).keep hk
  replace B1 : Box w19 w3.heap.size #[.bool true, .int .u32 16, .int .u32 48, .int .u32 16, .int .u16 127, .int .u16 0] := (B1).keep hk
  replace B2 : Box w19 w4.heap.size #[.bool true, .int .u32 16, .int .u32 48, .int .u32 20, .int .u16 127, .int .u16 0] := (B2).keep hk
  replace B3 : Box w19 w6.heap.size #[.bool true, .int .u32 0, .int .u32 1024, .int .u32 7, .int .u16 127, .int .u16 0] := (B3).keep hk
  replace B4 : Box w19 w7.heap.size #[.bool true, .int .u32 16, .int .u32 48, .int .u32 20, .int .u16 127, .int .u16 7] := (B4).keep hk
  replace B5 : Box w19 w8.heap.size #[.bool true, .int .u32 16, .int .u32 48, .int .u32 20, .int .u16 127, .int .u16 0] := (B5).keep hk
  replace B6 : Box w19 w9.heap.size #[.bool true, .int .u32 16, .int .u32 48, .int .u32 20, .int .u16 127, .int .u16 1] := (B6).keep hk
  clear hk
  try clear c0 l0 c1 l1 c2 l2 c3 l3 c4 l4 c5 l5 c6 l6
  try clear c0
  try clear l0
  have c0 := B0.cells
  have l0 := B0.lt
  try clear c1
  try clear l1
  have c1 := B1.cells
  have l1 := B1.lt
  try clear c2
  try clear l2
  have c2 := B2.cells
  have l2 := B2.lt
  try clear c3
  try clear l3
  have c3 := B3.cells
  have l3 := B3.lt
  try clear c4
  try clear l4
  have c4 := B4.cells
  have l4 := B4.lt
  try clear c5
  try clear l5
  have c5 := B5.cells
  have l5 := B5.lt
  try clear c6
  try clear l6
  have c6 := B6.cells
  have l6 := B6.lt
  go_wp2_with fail
  go_ret
  exact ⟨rfl, K19⟩

end Go.Proofs.YtbeeomdpdmmllaaDoor
