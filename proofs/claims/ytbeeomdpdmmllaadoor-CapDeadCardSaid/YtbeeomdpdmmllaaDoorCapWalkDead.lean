/- The walks of layer 2's laws: CapWalkDead. -/
import Derived.Test.YtbeeomdpdmmllaaDoorCapKnown
namespace Go.Proofs.YtbeeomdpdmmllaaDoor
set_option linter.unusedVariables false
set_option linter.unusedSimpArgs false
open Go.RowKit
set_option maxHeartbeats 1000000 in
theorem capDead_walk (t : Bool) (b p a m y : Int) (tk : Bool) (bk pk ak mk yk : Int) (x q : Int) (hb : 0 ≤ b ∧ b ≤ 4294967295) (hp : 0 ≤ p ∧ p ≤ 4294967295) (ha : 0 ≤ a ∧ a ≤ 4294967295) (hm : 0 ≤ m ∧ m ≤ 65535) (hy : 0 ≤ y ∧ y ≤ 65535) (hbk : 0 ≤ bk ∧ bk ≤ 4294967295) (hpk : 0 ≤ pk ∧ pk ≤ 4294967295) (hak : 0 ≤ ak ∧ ak ≤ 4294967295) (hmk : 0 ≤ mk ∧ mk ≤ 65535) (hyk : 0 ≤ yk ∧ yk ≤ 65535) (hx : 0 ≤ x ∧ x ≤ 4294967295) (hq : 0 ≤ q ∧ q ≤ 65535) (w : World) (hT : Tabs w) :
    Calls Tryd.prog 11 #[.agg #[.bool t, .int .u32 b, .int .u32 p, .int .u32 a, .int .u16 m, .int .u16 y], .agg #[.bool tk, .int .u32 bk, .int .u32 pk, .int .u32 ak, .int .u16 mk, .int .u16 yk], .int .u32 x, .int .u16 q] w fun e w' => e = .returned (.bool true) ∧ Keep w w' := by
  have HT := Lib.hid hT
  clear hT
  have r0 := fld0
  have e1 : tagOpen false y = false := rfl
  have e2 : tagBounds false b p a y x = false := rfl
  have e3 : tagEnter false m y = false := rfl
  have e4 : sealTag false y tk bk pk ak mk yk = false := rfl
  have e5 : openTag false y tk bk pk ak mk yk = false := rfl
  go_enter Tryd.func11, Tryd.ntmps11
  go_wp2_with fail
  refine (known_any _ (HT.out.keep (((Keep.refl _).alloc _).alloc _))).mono ?_
  rintro e w1 ⟨rfl, hk1⟩
  have B0_1 : Box w1 w.heap.size #[.bool t, .int .u32 b, .int .u32 p, .int .u32 a, .int .u16 m, .int .u16 y] := ((Box.new _ _ _).alloc _).keep hk1
  have B1_1 : Box w1 (w.heap.size + 1) #[.bool tk, .int .u32 bk, .int .u32 pk, .int .u32 ak, .int .u16 mk, .int .u16 yk] := (Box.new1 _ _ _ _).keep hk1
  have c0 := B0_1.cells
  have f0 := B0_1.thawed
  have c1 := B1_1.cells
  have f1 := B1_1.thawed
  go_wp2_with fail
  refine (clear_any _ _ _ _ _ _ _).mono ?_
  rintro e w2 ⟨rfl, hk2⟩
  have B0_2 : Box w2 w.heap.size #[.bool t, .int .u32 b, .int .u32 p, .int .u32 a, .int .u16 m, .int .u16 y] := B0_1.keep hk2
  have B1_2 : Box w2 (w.heap.size + 1) #[.bool tk, .int .u32 bk, .int .u32 pk, .int .u32 ak, .int .u16 mk, .int .u16 yk] := B1_1.keep hk2
  clear c0 f0 c1 f1
  have c0 := B0_2.cells
  have f0 := B0_2.thawed
  have c1 := B1_2.cells
  have f1 := B1_2.thawed
  go_wp2_with fail
  refine (setAddr_any _ _ _ _ _ _ x hb hp ha hm _).mono ?_
  rintro e w3 ⟨rfl, hk3⟩
  have B1_3 : Box w3 (w.heap.size + 1) #[.bool tk, .int .u32 bk, .int .u32 pk, .int .u32 ak, .int .u16 mk, .int .u16 yk] := (B1_2.alloc _).keep hk3
  have BD_3 : Box w3 w2.heap.size #[.bool false, .int .u32 b, .int .u32 p, .int .u32 a, .int .u16 m, .int .u16 y] := (Box.new _ _ _).keep hk3
  clear c0 f0 c1 f1
  have c1 := B1_3.cells
  have cD := BD_3.cells
  go_wp2_with fail
  refine (bounds_any _ _ _ _ _ _ x hb hp ha hm hx _).mono ?_
  rintro e w4 ⟨rfl, hk4⟩
  have B1_4 := B1_3.keep hk4
  have BD_4 := BD_3.keep hk4
  clear c1 cD
  have c1 := B1_4.cells
  have cD := BD_4.cells
  go_wp2_with fail
  refine (andPerm_any _ _ _ _ _ _ q hb hp ha hm hq _).mono ?_
  rintro e w5 ⟨rfl, hk5⟩
  have B1_5 := B1_4.keep hk5
  have BD_5 := BD_4.keep hk5
  clear c1 cD
  have c1 := B1_5.cells
  have cD := BD_5.cells
  go_wp2_with fail
  refine (enter_any _ _ _ _ _ _ hb hp ha hm _).mono ?_
  rintro e w6 ⟨rfl, hk6⟩
  have B1_6 := B1_5.keep hk6
  have BD_6 := BD_5.keep hk6
  clear c1 cD
  have c1 := B1_6.cells
  have cD := BD_6.cells
  go_wp2_with fail
  refine (seal_any _ _ _ _ _ _ _ _ _ _ _ _ hb hp ha hm hy hbk hpk hak _).mono ?_
  rintro e w7 ⟨rfl, hk7⟩
  have B1_7 := B1_6.keep hk7
  have BD_7 := BD_6.keep hk7
  clear c1 cD
  have c1 := B1_7.cells
  have cD := BD_7.cells
  go_wp2_with fail
  refine (unseal_any _ _ _ _ _ _ _ _ _ _ _ _ hb hp ha hm hy hbk hpk hak _).mono ?_
  rintro e w8 ⟨rfl, hk8⟩
  have B1_8 := B1_7.keep hk8
  have BD_8 := BD_7.keep hk8
  clear c1 cD
  have c1 := B1_8.cells
  have cD := BD_8.cells
  go_wp2_with fail
  refine (int_any x _).mono ?_
  rintro e w9 ⟨rfl, hk9⟩
  have B1_9 := B1_8.keep hk9
  have BD_9 := BD_8.keep hk9
  clear c1 cD
  have c1 := B1_9.cells
  have cD := BD_9.cells
  go_wp2_with fail
  go_ret
  exact ⟨rfl, (((((((((((((Keep.refl _).alloc _).alloc _).trans hk1).trans hk2).alloc _).trans hk3).trans hk4).trans hk5).trans hk6).trans hk7).trans hk8).trans hk9)⟩
end Go.Proofs.YtbeeomdpdmmllaaDoor
