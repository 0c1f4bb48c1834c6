/- The walks of layer 2's laws: CapWalkOrder. -/
import Derived.Test.YtbeeomdpdmmllaaDoorCapKnown
import Derived.Test.YtbeeomdpdmmllaaDoorCapMath
namespace Go.Proofs.YtbeeomdpdmmllaaDoor
set_option linter.unusedVariables false
set_option linter.unusedSimpArgs false
open Go.RowKit
set_option maxHeartbeats 1000000 in
theorem capOrder_walk (t : Bool) (b p a m y : Int) (t1 : Bool) (b1 p1 a1 m1 y1 : Int) (t2 : Bool) (b2 p2 a2 m2 y2 : Int) (hb : 0 ≤ b ∧ b ≤ 4294967295) (hp : 0 ≤ p ∧ p ≤ 4294967295) (ha : 0 ≤ a ∧ a ≤ 4294967295) (hm : 0 ≤ m ∧ m ≤ 65535) (hy : 0 ≤ y ∧ y ≤ 65535) (hb1 : 0 ≤ b1 ∧ b1 ≤ 4294967295) (hp1 : 0 ≤ p1 ∧ p1 ≤ 4294967295) (ha1 : 0 ≤ a1 ∧ a1 ≤ 4294967295) (hm1 : 0 ≤ m1 ∧ m1 ≤ 65535) (hy1 : 0 ≤ y1 ∧ y1 ≤ 65535) (hb2 : 0 ≤ b2 ∧ b2 ≤ 4294967295) (hp2 : 0 ≤ p2 ∧ p2 ≤ 4294967295) (ha2 : 0 ≤ a2 ∧ a2 ≤ 4294967295) (hm2 : 0 ≤ m2 ∧ m2 ≤ 65535) (hy2 : 0 ≤ y2 ∧ y2 ≤ 65535)  (w : World) (hT : Tabs w) :
    Calls Tryd.prog 7 #[.agg #[.bool t, .int .u32 b, .int .u32 p, .int .u32 a, .int .u16 m, .int .u16 y], .agg #[.bool t1, .int .u32 b1, .int .u32 p1, .int .u32 a1, .int .u16 m1, .int .u16 y1], .agg #[.bool t2, .int .u32 b2, .int .u32 p2, .int .u32 a2, .int .u16 m2, .int .u16 y2]] w fun e w' => e = .returned (.bool true) ∧ Keep w w' := by
  have HT := Lib.hid hT
  clear hT
  have saa := sub_same b p m hm
  have i01 := sub_iff b p m b1 p1 m1 hm hm1
  have i12 := sub_iff b1 p1 m1 b2 p2 m2 hm1 hm2
  have i02 := sub_iff b p m b2 p2 m2 hm hm2
  have i10 := sub_iff b1 p1 m1 b p m hm1 hm
  have HI := Lib.hid (And.intro i01 (And.intro i12 (And.intro i02 i10)))
  clear i01 i12 i02 i10
  rcases Bool.eq_false_or_eq_true (subB b p m b1 p1 m1) with d01 | d01
  · rcases Bool.eq_false_or_eq_true (subB b1 p1 m1 b2 p2 m2) with d12 | d12
    · have d02 : subB b p m b2 p2 m2 = true := by
        have h1 := HI.out.1.1 d01
        have h2 := HI.out.2.1.1 d12
        exact HI.out.2.2.1.2 ⟨by omega, by omega, h1.2.2.trans h2.2.2⟩
      rcases Bool.eq_false_or_eq_true (b == b1) with e0 | e0
      · skip
        rcases Bool.eq_false_or_eq_true (p == p1) with e1 | e1
        · skip
          rcases Bool.eq_false_or_eq_true (m == m1) with e2 | e2
          · skip
            have d10 : subB b1 p1 m1 b p m = true := HI.out.2.2.2.2 ⟨by rw [eq_of_beq e0]; exact Int.le_refl _, by rw [eq_of_beq e1]; exact Int.le_refl _, by rw [eq_of_beq e2]; exact Within.refl _⟩
            clear HI
            go_enter Tryd.func7, Tryd.ntmps7
            go_wp2_with fail
            refine (known_any _ (HT.out.keep ((((Keep.refl _).alloc _).alloc _).alloc _))).mono ?_
            rintro e w1 ⟨rfl, hk1⟩
            have B0_1 : Box w1 w.heap.size #[.bool t, .int .u32 b, .int .u32 p, .int .u32 a, .int .u16 m, .int .u16 y] := (((Box.new _ _ _).alloc _).alloc _).keep hk1
            have B1_1 : Box w1 (w.heap.size + 1) #[.bool t1, .int .u32 b1, .int .u32 p1, .int .u32 a1, .int .u16 m1, .int .u16 y1] := ((Box.new1 _ _ _ _).alloc _).keep hk1
            have B2_1 : Box w1 (w.heap.size + 2) #[.bool t2, .int .u32 b2, .int .u32 p2, .int .u32 a2, .int .u16 m2, .int .u16 y2] := (Box.new2 _ _ _ _ _).keep hk1
            have c0 := B0_1.cells
            have f0 := B0_1.thawed
            have c1 := B1_1.cells
            have f1 := B1_1.thawed
            have c2 := B2_1.cells
            have f2 := B2_1.thawed
            go_wp2_with fail
            refine (sub_any _ _ _ _ _ _ _ _ _ _ _ _ _).mono ?_
            rintro e w2 ⟨rfl, hk2⟩
            have B0_2 : Box w2 w.heap.size #[.bool t, .int .u32 b, .int .u32 p, .int .u32 a, .int .u16 m, .int .u16 y] := B0_1.keep hk2
            have B1_2 : Box w2 (w.heap.size + 1) #[.bool t1, .int .u32 b1, .int .u32 p1, .int .u32 a1, .int .u16 m1, .int .u16 y1] := B1_1.keep hk2
            have B2_2 : Box w2 (w.heap.size + 2) #[.bool t2, .int .u32 b2, .int .u32 p2, .int .u32 a2, .int .u16 m2, .int .u16 y2] := B2_1.keep hk2
            clear c0 f0 c1 f1 c2 f2
            have c0 := B0_2.cells
            have f0 := B0_2.thawed
            have c1 := B1_2.cells
            have f1 := B1_2.thawed
            have c2 := B2_2.cells
            have f2 := B2_2.thawed
            go_wp2_with fail
            refine (sub_any _ _ _ _ _ _ _ _ _ _ _ _ _).mono ?_
            rintro e w3 ⟨rfl, hk3⟩
            have B0_3 : Box w3 w.heap.size #[.bool t, .int .u32 b, .int .u32 p, .int .u32 a, .int .u16 m, .int .u16 y] := B0_2.keep hk3
            have B1_3 : Box w3 (w.heap.size + 1) #[.bool t1, .int .u32 b1, .int .u32 p1, .int .u32 a1, .int .u16 m1, .int .u16 y1] := B1_2.keep hk3
            have B2_3 : Box w3 (w.heap.size + 2) #[.bool t2, .int .u32 b2, .int .u32 p2, .int .u32 a2, .int .u16 m2, .int .u16 y2] := B2_2.keep hk3
            clear c0 f0 c1 f1 c2 f2
            have c0 := B0_3.cells
            have f0 := B0_3.thawed
            have c1 := B1_3.cells
            have f1 := B1_3.thawed
            have c2 := B2_3.cells
            have f2 := B2_3.thawed
            go_wp2_with fail
            refine (sub_any _ _ _ _ _ _ _ _ _ _ _ _ _).mono ?_
            rintro e w4 ⟨rfl, hk4⟩
            have B0_4 : Box w4 w.heap.size #[.bool t, .int .u32 b, .int .u32 p, .int .u32 a, .int .u16 m, .int .u16 y] := B0_3.keep hk4
            have B1_4 : Box w4 (w.heap.size + 1) #[.bool t1, .int .u32 b1, .int .u32 p1, .int .u32 a1, .int .u16 m1, .int .u16 y1] := B1_3.keep hk4
            have B2_4 : Box w4 (w.heap.size + 2) #[.bool t2, .int .u32 b2, .int .u32 p2, .int .u32 a2, .int .u16 m2, .int .u16 y2] := B2_3.keep hk4
            clear c0 f0 c1 f1 c2 f2
            have c0 := B0_4.cells
            have f0 := B0_4.thawed
            have c1 := B1_4.cells
            have f1 := B1_4.thawed
            have c2 := B2_4.cells
            have f2 := B2_4.thawed
            go_wp2_with fail
            refine (sub_any _ _ _ _ _ _ _ _ _ _ _ _ _).mono ?_
            rintro e w5 ⟨rfl, hk5⟩
            have B0_5 : Box w5 w.heap.size #[.bool t, .int .u32 b, .int .u32 p, .int .u32 a, .int .u16 m, .int .u16 y] := B0_4.keep hk5
            have B1_5 : Box w5 (w.heap.size + 1) #[.bool t1, .int .u32 b1, .int .u32 p1, .int .u32 a1, .int .u16 m1, .int .u16 y1] := B1_4.keep hk5
            have B2_5 : Box w5 (w.heap.size + 2) #[.bool t2, .int .u32 b2, .int .u32 p2, .int .u32 a2, .int .u16 m2, .int .u16 y2] := B2_4.keep hk5
            clear c0 f0 c1 f1 c2 f2
            have c0 := B0_5.cells
            have f0 := B0_5.thawed
            have c1 := B1_5.cells
            have f1 := B1_5.thawed
            have c2 := B2_5.cells
            have f2 := B2_5.thawed
            go_wp2_with fail
            refine (sub_any _ _ _ _ _ _ _ _ _ _ _ _ _).mono ?_
            rintro e w6 ⟨rfl, hk6⟩
            have B0_6 : Box w6 w.heap.size #[.bool t, .int .u32 b, .int .u32 p, .int .u32 a, .int .u16 m, .int .u16 y] := B0_5.keep hk6
            have B1_6 : Box w6 (w.heap.size + 1) #[.bool t1, .int .u32 b1, .int .u32 p1, .int .u32 a1, .int .u16 m1, .int .u16 y1] := B1_5.keep hk6
            have B2_6 : Box w6 (w.heap.size + 2) #[.bool t2, .int .u32 b2, .int .u32 p2, .int .u32 a2, .int .u16 m2, .int .u16 y2] := B2_5.keep hk6
            clear c0 f0 c1 f1 c2 f2
            have c0 := B0_6.cells
            have f0 := B0_6.thawed
            have c1 := B1_6.cells
            have f1 := B1_6.thawed
            have c2 := B2_6.cells
            have f2 := B2_6.thawed
            go_wp2_with fail
            refine (sub_any _ _ _ _ _ _ _ _ _ _ _ _ _).mono ?_
            rintro e w7 ⟨rfl, hk7⟩
            have B0_7 : Box w7 w.heap.size #[.bool t, .int .u32 b, .int .u32 p, .int .u32 a, .int .u16 m, .int .u16 y] := B0_6.keep hk7
            have B1_7 : Box w7 (w.heap.size + 1) #[.bool t1, .int .u32 b1, .int .u32 p1, .int .u32 a1, .int .u16 m1, .int .u16 y1] := B1_6.keep hk7
            have B2_7 : Box w7 (w.heap.size + 2) #[.bool t2, .int .u32 b2, .int .u32 p2, .int .u32 a2, .int .u16 m2, .int .u16 y2] := B2_6.keep hk7
            clear c0 f0 c1 f1 c2 f2
            have c0 := B0_7.cells
            have f0 := B0_7.thawed
            have c1 := B1_7.cells
            have f1 := B1_7.thawed
            have c2 := B2_7.cells
            have f2 := B2_7.thawed
            go_wp2_with fail
            go_ret
            exact ⟨rfl, (((((((((((Keep.refl _).alloc _).alloc _).alloc _).trans hk1).trans hk2).trans hk3).trans hk4).trans hk5).trans hk6).trans hk7)⟩
          · skip
            have d10 : subB b1 p1 m1 b p m = false := by
              apply Bool.eq_false_iff.2
              intro h
              have h1 := HI.out.1.1 d01
              have h2 := HI.out.2.2.2.1 h
              have g0 : b = b1 := by omega
              have g1 : p = p1 := by omega
              have g2 : m = m1 := Within.antisymm hm.1 hm1.1 h1.2.2 h2.2.2
              simp [g0, g1, g2] at e2
            clear HI
            go_enter Tryd.func7, Tryd.ntmps7
            go_wp2_with fail
            refine (known_any _ (HT.out.keep ((((Keep.refl _).alloc _).alloc _).alloc _))).mono ?_
            rintro e w1 ⟨rfl, hk1⟩
            have B0_1 : Box w1 w.heap.size #[.bool t, .int .u32 b, .int .u32 p, .int .u32 a, .int .u16 m, .int .u16 y] := (((Box.new _ _ _).alloc _).alloc _).keep hk1
            have B1_1 : Box w1 (w.heap.size + 1) #[.bool t1, .int .u32 b1, .int .u32 p1, .int .u32 a1, .int .u16 m1, .int .u16 y1] := ((Box.new1 _ _ _ _).alloc _).keep hk1
            have B2_1 : Box w1 (w.heap.size + 2) #[.bool t2, .int .u32 b2, .int .u32 p2, .int .u32 a2, .int .u16 m2, .int .u16 y2] := (Box.new2 _ _ _ _ _).keep hk1
            have c0 := B0_1.cells
            have f0 := B0_1.thawed
            have c1 := B1_1.cells
            have f1 := B1_1.thawed
            have c2 := B2_1.cells
            have f2 := B2_1.thawed
            go_wp2_with fail
            refine (sub_any _ _ _ _ _ _ _ _ _ _ _ _ _).mono ?_
            rintro e w2 ⟨rfl, hk2⟩
            have B0_2 : Box w2 w.heap.size #[.bool t, .int .u32 b, .int .u32 p, .int .u32 a, .int .u16 m, .int .u16 y] := B0_1.keep hk2
            have B1_2 : Box w2 (w.heap.size + 1) #[.bool t1, .int .u32 b1, .int .u32 p1, .int .u32 a1, .int .u16 m1, .int .u16 y1] := B1_1.keep hk2
            have B2_2 : Box w2 (w.heap.size + 2) #[.bool t2, .int .u32 b2, .int .u32 p2, .int .u32 a2, .int .u16 m2, .int .u16 y2] := B2_1.keep hk2
            clear c0 f0 c1 f1 c2 f2
            have c0 := B0_2.cells
            have f0 := B0_2.thawed
            have c1 := B1_2.cells
            have f1 := B1_2.thawed
            have c2 := B2_2.cells
            have f2 := B2_2.thawed
            go_wp2_with fail
            refine (sub_any _ _ _ _ _ _ _ _ _ _ _ _ _).mono ?_
            rintro e w3 ⟨rfl, hk3⟩
            have B0_3 : Box w3 w.heap.size #[.bool t, .int .u32 b, .int .u32 p, .int .u32 a, .int .u16 m, .int .u16 y] := B0_2.keep hk3
            have B1_3 : Box w3 (w.heap.size + 1) #[.bool t1, .int .u32 b1, .int .u32 p1, .int .u32 a1, .int .u16 m1, .int .u16 y1] := B1_2.keep hk3
            have B2_3 : Box w3 (w.heap.size + 2) #[.bool t2, .int .u32 b2, .int .u32 p2, .int .u32 a2, .int .u16 m2, .int .u16 y2] := B2_2.keep hk3
            clear c0 f0 c1 f1 c2 f2
            have c0 := B0_3.cells
            have f0 := B0_3.thawed
            have c1 := B1_3.cells
            have f1 := B1_3.thawed
            have c2 := B2_3.cells
            have f2 := B2_3.thawed
            go_wp2_with fail
            refine (sub_any _ _ _ _ _ _ _ _ _ _ _ _ _).mono ?_
            rintro e w4 ⟨rfl, hk4⟩
            have B0_4 : Box w4 w.heap.size #[.bool t, .int .u32 b, .int .u32 p, .int .u32 a, .int .u16 m, .int .u16 y] := B0_3.keep hk4
            have B1_4 : Box w4 (w.heap.size + 1) #[.bool t1, .int .u32 b1, .int .u32 p1, .int .u32 a1, .int .u16 m1, .int .u16 y1] := B1_3.keep hk4
            have B2_4 : Box w4 (w.heap.size + 2) #[.bool t2, .int .u32 b2, .int .u32 p2, .int .u32 a2, .int .u16 m2, .int .u16 y2] := B2_3.keep hk4
            clear c0 f0 c1 f1 c2 f2
            have c0 := B0_4.cells
            have f0 := B0_4.thawed
            have c1 := B1_4.cells
            have f1 := B1_4.thawed
            have c2 := B2_4.cells
            have f2 := B2_4.thawed
            go_wp2_with fail
            refine (sub_any _ _ _ _ _ _ _ _ _ _ _ _ _).mono ?_
            rintro e w5 ⟨rfl, hk5⟩
            have B0_5 : Box w5 w.heap.size #[.bool t, .int .u32 b, .int .u32 p, .int .u32 a, .int .u16 m, .int .u16 y] := B0_4.keep hk5
            have B1_5 : Box w5 (w.heap.size + 1) #[.bool t1, .int .u32 b1, .int .u32 p1, .int .u32 a1, .int .u16 m1, .int .u16 y1] := B1_4.keep hk5
            have B2_5 : Box w5 (w.heap.size + 2) #[.bool t2, .int .u32 b2, .int .u32 p2, .int .u32 a2, .int .u16 m2, .int .u16 y2] := B2_4.keep hk5
            clear c0 f0 c1 f1 c2 f2
            have c0 := B0_5.cells
            have f0 := B0_5.thawed
            have c1 := B1_5.cells
            have f1 := B1_5.thawed
            have c2 := B2_5.cells
            have f2 := B2_5.thawed
            go_wp2_with fail
            refine (sub_any _ _ _ _ _ _ _ _ _ _ _ _ _).mono ?_
            rintro e w6 ⟨rfl, hk6⟩
            have B0_6 : Box w6 w.heap.size #[.bool t, .int .u32 b, .int .u32 p, .int .u32 a, .int .u16 m, .int .u16 y] := B0_5.keep hk6
            have B1_6 : Box w6 (w.heap.size + 1) #[.bool t1, .int .u32 b1, .int .u32 p1, .int .u32 a1, .int .u16 m1, .int .u16 y1] := B1_5.keep hk6
            have B2_6 : Box w6 (w.heap.size + 2) #[.bool t2, .int .u32 b2, .int .u32 p2, .int .u32 a2, .int .u16 m2, .int .u16 y2] := B2_5.keep hk6
            clear c0 f0 c1 f1 c2 f2
            have c0 := B0_6.cells
            have f0 := B0_6.thawed
            have c1 := B1_6.cells
            have f1 := B1_6.thawed
            have c2 := B2_6.cells
            have f2 := B2_6.thawed
            go_wp2_with fail
            refine (sub_any _ _ _ _ _ _ _ _ _ _ _ _ _).mono ?_
            rintro e w7 ⟨rfl, hk7⟩
            have B0_7 : Box w7 w.heap.size #[.bool t, .int .u32 b, .int .u32 p, .int .u32 a, .int .u16 m, .int .u16 y] := B0_6.keep hk7
            have B1_7 : Box w7 (w.heap.size + 1) #[.bool t1, .int .u32 b1, .int .u32 p1, .int .u32 a1, .int .u16 m1, .int .u16 y1] := B1_6.keep hk7
            have B2_7 : Box w7 (w.heap.size + 2) #[.bool t2, .int .u32 b2, .int .u32 p2, .int .u32 a2, .int .u16 m2, .int .u16 y2] := B2_6.keep hk7
            clear c0 f0 c1 f1 c2 f2
            have c0 := B0_7.cells
            have f0 := B0_7.thawed
            have c1 := B1_7.cells
            have f1 := B1_7.thawed
            have c2 := B2_7.cells
            have f2 := B2_7.thawed
            go_wp2_with fail
            go_ret
            exact ⟨rfl, (((((((((((Keep.refl _).alloc _).alloc _).alloc _).trans hk1).trans hk2).trans hk3).trans hk4).trans hk5).trans hk6).trans hk7)⟩
        · skip
          have d10 : subB b1 p1 m1 b p m = false := by
            apply Bool.eq_false_iff.2
            intro h
            have h1 := HI.out.1.1 d01
            have h2 := HI.out.2.2.2.1 h
            have g0 : b = b1 := by omega
            have g1 : p = p1 := by omega
            have g2 : m = m1 := Within.antisymm hm.1 hm1.1 h1.2.2 h2.2.2
            simp [g0, g1, g2] at e1
          clear HI
          go_enter Tryd.func7, Tryd.ntmps7
          go_wp2_with fail
          refine (known_any _ (HT.out.keep ((((Keep.refl _).alloc _).alloc _).alloc _))).mono ?_
          rintro e w1 ⟨rfl, hk1⟩
          have B0_1 : Box w1 w.heap.size #[.bool t, .int .u32 b, .int .u32 p, .int .u32 a, .int .u16 m, .int .u16 y] := (((Box.new _ _ _).alloc _).alloc _).keep hk1
          have B1_1 : Box w1 (w.heap.size + 1) #[.bool t1, .int .u32 b1, .int .u32 p1, .int .u32 a1, .int .u16 m1, .int .u16 y1] := ((Box.new1 _ _ _ _).alloc _).keep hk1
          have B2_1 : Box w1 (w.heap.size + 2) #[.bool t2, .int .u32 b2, .int .u32 p2, .int .u32 a2, .int .u16 m2, .int .u16 y2] := (Box.new2 _ _ _ _ _).keep hk1
          have c0 := B0_1.cells
          have f0 := B0_1.thawed
          have c1 := B1_1.cells
          have f1 := B1_1.thawed
          have c2 := B2_1.cells
          have f2 := B2_1.thawed
          go_wp2_with fail
          refine (sub_any _ _ _ _ _ _ _ _ _ _ _ _ _).mono ?_
          rintro e w2 ⟨rfl, hk2⟩
          have B0_2 : Box w2 w.heap.size #[.bool t, .int .u32 b, .int .u32 p, .int .u32 a, .int .u16 m, .int .u16 y] := B0_1.keep hk2
          have B1_2 : Box w2 (w.heap.size + 1) #[.bool t1, .int .u32 b1, .int .u32 p1, .int .u32 a1, .int .u16 m1, .int .u16 y1] := B1_1.keep hk2
          have B2_2 : Box w2 (w.heap.size + 2) #[.bool t2, .int .u32 b2, .int .u32 p2, .int .u32 a2, .int .u16 m2, .int .u16 y2] := B2_1.keep hk2
          clear c0 f0 c1 f1 c2 f2
          have c0 := B0_2.cells
          have f0 := B0_2.thawed
          have c1 := B1_2.cells
          have f1 := B1_2.thawed
          have c2 := B2_2.cells
          have f2 := B2_2.thawed
          go_wp2_with fail
          refine (sub_any _ _ _ _ _ _ _ _ _ _ _ _ _).mono ?_
          rintro e w3 ⟨rfl, hk3⟩
          have B0_3 : Box w3 w.heap.size #[.bool t, .int .u32 b, .int .u32 p, .int .u32 a, .int .u16 m, .int .u16 y] := B0_2.keep hk3
          have B1_3 : Box w3 (w.heap.size + 1) #[.bool t1, .int .u32 b1, .int .u32 p1, .int .u32 a1, .int .u16 m1, .int .u16 y1] := B1_2.keep hk3
          have B2_3 : Box w3 (w.heap.size + 2) #[.bool t2, .int .u32 b2, .int .u32 p2, .int .u32 a2, .int .u16 m2, .int .u16 y2] := B2_2.keep hk3
          clear c0 f0 c1 f1 c2 f2
          have c0 := B0_3.cells
          have f0 := B0_3.thawed
          have c1 := B1_3.cells
          have f1 := B1_3.thawed
          have c2 := B2_3.cells
          have f2 := B2_3.thawed
          go_wp2_with fail
          refine (sub_any _ _ _ _ _ _ _ _ _ _ _ _ _).mono ?_
          rintro e w4 ⟨rfl, hk4⟩
          have B0_4 : Box w4 w.heap.size #[.bool t, .int .u32 b, .int .u32 p, .int .u32 a, .int .u16 m, .int .u16 y] := B0_3.keep hk4
          have B1_4 : Box w4 (w.heap.size + 1) #[.bool t1, .int .u32 b1, .int .u32 p1, .int .u32 a1, .int .u16 m1, .int .u16 y1] := B1_3.keep hk4
          have B2_4 : Box w4 (w.heap.size + 2) #[.bool t2, .int .u32 b2, .int .u32 p2, .int .u32 a2, .int .u16 m2, .int .u16 y2] := B2_3.keep hk4
          clear c0 f0 c1 f1 c2 f2
          have c0 := B0_4.cells
          have f0 := B0_4.thawed
          have c1 := B1_4.cells
          have f1 := B1_4.thawed
          have c2 := B2_4.cells
          have f2 := B2_4.thawed
          go_wp2_with fail
          refine (sub_any _ _ _ _ _ _ _ _ _ _ _ _ _).mono ?_
          rintro e w5 ⟨rfl, hk5⟩
          have B0_5 : Box w5 w.heap.size #[.bool t, .int .u32 b, .int .u32 p, .int .u32 a, .int .u16 m, .int .u16 y] := B0_4.keep hk5
          have B1_5 : Box w5 (w.heap.size + 1) #[.bool t1, .int .u32 b1, .int .u32 p1, .int .u32 a1, .int .u16 m1, .int .u16 y1] := B1_4.keep hk5
          have B2_5 : Box w5 (w.heap.size + 2) #[.bool t2, .int .u32 b2, .int .u32 p2, .int .u32 a2, .int .u16 m2, .int .u16 y2] := B2_4.keep hk5
          clear c0 f0 c1 f1 c2 f2
          have c0 := B0_5.cells
          have f0 := B0_5.thawed
          have c1 := B1_5.cells
          have f1 := B1_5.thawed
          have c2 := B2_5.cells
          have f2 := B2_5.thawed
          go_wp2_with fail
          refine (sub_any _ _ _ _ _ _ _ _ _ _ _ _ _).mono ?_
          rintro e w6 ⟨rfl, hk6⟩
          have B0_6 : Box w6 w.heap.size #[.bool t, .int .u32 b, .int .u32 p, .int .u32 a, .int .u16 m, .int .u16 y] := B0_5.keep hk6
          have B1_6 : Box w6 (w.heap.size + 1) #[.bool t1, .int .u32 b1, .int .u32 p1, .int .u32 a1, .int .u16 m1, .int .u16 y1] := B1_5.keep hk6
          have B2_6 : Box w6 (w.heap.size + 2) #[.bool t2, .int .u32 b2, .int .u32 p2, .int .u32 a2, .int .u16 m2, .int .u16 y2] := B2_5.keep hk6
          clear c0 f0 c1 f1 c2 f2
          have c0 := B0_6.cells
          have f0 := B0_6.thawed
          have c1 := B1_6.cells
          have f1 := B1_6.thawed
          have c2 := B2_6.cells
          have f2 := B2_6.thawed
          go_wp2_with fail
          refine (sub_any _ _ _ _ _ _ _ _ _ _ _ _ _).mono ?_
          rintro e w7 ⟨rfl, hk7⟩
          have B0_7 : Box w7 w.heap.size #[.bool t, .int .u32 b, .int .u32 p, .int .u32 a, .int .u16 m, .int .u16 y] := B0_6.keep hk7
          have B1_7 : Box w7 (w.heap.size + 1) #[.bool t1, .int .u32 b1, .int .u32 p1, .int .u32 a1, .int .u16 m1, .int .u16 y1] := B1_6.keep hk7
          have B2_7 : Box w7 (w.heap.size + 2) #[.bool t2, .int .u32 b2, .int .u32 p2, .int .u32 a2, .int .u16 m2, .int .u16 y2] := B2_6.keep hk7
          clear c0 f0 c1 f1 c2 f2
          have c0 := B0_7.cells
          have f0 := B0_7.thawed
          have c1 := B1_7.cells
          have f1 := B1_7.thawed
          have c2 := B2_7.cells
          have f2 := B2_7.thawed
          go_wp2_with fail
          go_ret
          exact ⟨rfl, (((((((((((Keep.refl _).alloc _).alloc _).alloc _).trans hk1).trans hk2).trans hk3).trans hk4).trans hk5).trans hk6).trans hk7)⟩
      · skip
        have d10 : subB b1 p1 m1 b p m = false := by
          apply Bool.eq_false_iff.2
          intro h
          have h1 := HI.out.1.1 d01
          have h2 := HI.out.2.2.2.1 h
          have g0 : b = b1 := by omega
          have g1 : p = p1 := by omega
          have g2 : m = m1 := Within.antisymm hm.1 hm1.1 h1.2.2 h2.2.2
          simp [g0, g1, g2] at e0
        clear HI
        go_enter Tryd.func7, Tryd.ntmps7
        go_wp2_with fail
        refine (known_any _ (HT.out.keep ((((Keep.refl _).alloc _).alloc _).alloc _))).mono ?_
        rintro e w1 ⟨rfl, hk1⟩
        have B0_1 : Box w1 w.heap.size #[.bool t, .int .u32 b, .int .u32 p, .int .u32 a, .int .u16 m, .int .u16 y] := (((Box.new _ _ _).alloc _).alloc _).keep hk1
        have B1_1 : Box w1 (w.heap.size + 1) #[.bool t1, .int .u32 b1, .int .u32 p1, .int .u32 a1, .int .u16 m1, .int .u16 y1] := ((Box.new1 _ _ _ _).alloc _).keep hk1
        have B2_1 : Box w1 (w.heap.size + 2) #[.bool t2, .int .u32 b2, .int .u32 p2, .int .u32 a2, .int .u16 m2, .int .u16 y2] := (Box.new2 _ _ _ _ _).keep hk1
        have c0 := B0_1.cells
        have f0 := B0_1.thawed
        have c1 := B1_1.cells
        have f1 := B1_1.thawed
        have c2 := B2_1.cells
        have f2 := B2_1.thawed
        go_wp2_with fail
        refine (sub_any _ _ _ _ _ _ _ _ _ _ _ _ _).mono ?_
        rintro e w2 ⟨rfl, hk2⟩
        have B0_2 : Box w2 w.heap.size #[.bool t, .int .u32 b, .int .u32 p, .int .u32 a, .int .u16 m, .int .u16 y] := B0_1.keep hk2
        have B1_2 : Box w2 (w.heap.size + 1) #[.bool t1, .int .u32 b1, .int .u32 p1, .int .u32 a1, .int .u16 m1, .int .u16 y1] := B1_1.keep hk2
        have B2_2 : Box w2 (w.heap.size + 2) #[.bool t2, .int .u32 b2, .int .u32 p2, .int .u32 a2, .int .u16 m2, .int .u16 y2] := B2_1.keep hk2
        clear c0 f0 c1 f1 c2 f2
        have c0 := B0_2.cells
        have f0 := B0_2.thawed
        have c1 := B1_2.cells
        have f1 := B1_2.thawed
        have c2 := B2_2.cells
        have f2 := B2_2.thawed
        go_wp2_with fail
        refine (sub_any _ _ _ _ _ _ _ _ _ _ _ _ _).mono ?_
        rintro e w3 ⟨rfl, hk3⟩
        have B0_3 : Box w3 w.heap.size #[.bool t, .int .u32 b, .int .u32 p, .int .u32 a, .int .u16 m, .int .u16 y] := B0_2.keep hk3
        have B1_3 : Box w3 (w.heap.size + 1) #[.bool t1, .int .u32 b1, .int .u32 p1, .int .u32 a1, .int .u16 m1, .int .u16 y1] := B1_2.keep hk3
        have B2_3 : Box w3 (w.heap.size + 2) #[.bool t2, .int .u32 b2, .int .u32 p2, .int .u32 a2, .int .u16 m2, .int .u16 y2] := B2_2.keep hk3
        clear c0 f0 c1 f1 c2 f2
        have c0 := B0_3.cells
        have f0 := B0_3.thawed
        have c1 := B1_3.cells
        have f1 := B1_3.thawed
        have c2 := B2_3.cells
        have f2 := B2_3.thawed
        go_wp2_with fail
        refine (sub_any _ _ _ _ _ _ _ _ _ _ _ _ _).mono ?_
        rintro e w4 ⟨rfl, hk4⟩
        have B0_4 : Box w4 w.heap.size #[.bool t, .int .u32 b, .int .u32 p, .int .u32 a, .int .u16 m, .int .u16 y] := B0_3.keep hk4
        have B1_4 : Box w4 (w.heap.size + 1) #[.bool t1, .int .u32 b1, .int .u32 p1, .int .u32 a1, .int .u16 m1, .int .u16 y1] := B1_3.keep hk4
        have B2_4 : Box w4 (w.heap.size + 2) #[.bool t2, .int .u32 b2, .int .u32 p2, .int .u32 a2, .int .u16 m2, .int .u16 y2] := B2_3.keep hk4
        clear c0 f0 c1 f1 c2 f2
        have c0 := B0_4.cells
        have f0 := B0_4.thawed
        have c1 := B1_4.cells
        have f1 := B1_4.thawed
        have c2 := B2_4.cells
        have f2 := B2_4.thawed
        go_wp2_with fail
        refine (sub_any _ _ _ _ _ _ _ _ _ _ _ _ _).mono ?_
        rintro e w5 ⟨rfl, hk5⟩
        have B0_5 : Box w5 w.heap.size #[.bool t, .int .u32 b, .int .u32 p, .int .u32 a, .int .u16 m, .int .u16 y] := B0_4.keep hk5
        have B1_5 : Box w5 (w.heap.size + 1) #[.bool t1, .int .u32 b1, .int .u32 p1, .int .u32 a1, .int .u16 m1, .int .u16 y1] := B1_4.keep hk5
        have B2_5 : Box w5 (w.heap.size + 2) #[.bool t2, .int .u32 b2, .int .u32 p2, .int .u32 a2, .int .u16 m2, .int .u16 y2] := B2_4.keep hk5
        clear c0 f0 c1 f1 c2 f2
        have c0 := B0_5.cells
        have f0 := B0_5.thawed
        have c1 := B1_5.cells
        have f1 := B1_5.thawed
        have c2 := B2_5.cells
        have f2 := B2_5.thawed
        go_wp2_with fail
        refine (sub_any _ _ _ _ _ _ _ _ _ _ _ _ _).mono ?_
        rintro e w6 ⟨rfl, hk6⟩
        have B0_6 : Box w6 w.heap.size #[.bool t, .int .u32 b, .int .u32 p, .int .u32 a, .int .u16 m, .int .u16 y] := B0_5.keep hk6
        have B1_6 : Box w6 (w.heap.size + 1) #[.bool t1, .int .u32 b1, .int .u32 p1, .int .u32 a1, .int .u16 m1, .int .u16 y1] := B1_5.keep hk6
        have B2_6 : Box w6 (w.heap.size + 2) #[.bool t2, .int .u32 b2, .int .u32 p2, .int .u32 a2, .int .u16 m2, .int .u16 y2] := B2_5.keep hk6
        clear c0 f0 c1 f1 c2 f2
        have c0 := B0_6.cells
        have f0 := B0_6.thawed
        have c1 := B1_6.cells
        have f1 := B1_6.thawed
        have c2 := B2_6.cells
        have f2 := B2_6.thawed
        go_wp2_with fail
        refine (sub_any _ _ _ _ _ _ _ _ _ _ _ _ _).mono ?_
        rintro e w7 ⟨rfl, hk7⟩
        have B0_7 : Box w7 w.heap.size #[.bool t, .int .u32 b, .int .u32 p, .int .u32 a, .int .u16 m, .int .u16 y] := B0_6.keep hk7
        have B1_7 : Box w7 (w.heap.size + 1) #[.bool t1, .int .u32 b1, .int .u32 p1, .int .u32 a1, .int .u16 m1, .int .u16 y1] := B1_6.keep hk7
        have B2_7 : Box w7 (w.heap.size + 2) #[.bool t2, .int .u32 b2, .int .u32 p2, .int .u32 a2, .int .u16 m2, .int .u16 y2] := B2_6.keep hk7
        clear c0 f0 c1 f1 c2 f2
        have c0 := B0_7.cells
        have f0 := B0_7.thawed
        have c1 := B1_7.cells
        have f1 := B1_7.thawed
        have c2 := B2_7.cells
        have f2 := B2_7.thawed
        go_wp2_with fail
        go_ret
        exact ⟨rfl, (((((((((((Keep.refl _).alloc _).alloc _).alloc _).trans hk1).trans hk2).trans hk3).trans hk4).trans hk5).trans hk6).trans hk7)⟩
    · skip
      rcases Bool.eq_false_or_eq_true (b == b1) with e0 | e0
      · skip
        rcases Bool.eq_false_or_eq_true (p == p1) with e1 | e1
        · skip
          rcases Bool.eq_false_or_eq_true (m == m1) with e2 | e2
          · skip
            have d10 : subB b1 p1 m1 b p m = true := HI.out.2.2.2.2 ⟨by rw [eq_of_beq e0]; exact Int.le_refl _, by rw [eq_of_beq e1]; exact Int.le_refl _, by rw [eq_of_beq e2]; exact Within.refl _⟩
            clear HI
            go_enter Tryd.func7, Tryd.ntmps7
            go_wp2_with fail
            refine (known_any _ (HT.out.keep ((((Keep.refl _).alloc _).alloc _).alloc _))).mono ?_
            rintro e w1 ⟨rfl, hk1⟩
            have B0_1 : Box w1 w.heap.size #[.bool t, .int .u32 b, .int .u32 p, .int .u32 a, .int .u16 m, .int .u16 y] := (((Box.new _ _ _).alloc _).alloc _).keep hk1
            have B1_1 : Box w1 (w.heap.size + 1) #[.bool t1, .int .u32 b1, .int .u32 p1, .int .u32 a1, .int .u16 m1, .int .u16 y1] := ((Box.new1 _ _ _ _).alloc _).keep hk1
            have B2_1 : Box w1 (w.heap.size + 2) #[.bool t2, .int .u32 b2, .int .u32 p2, .int .u32 a2, .int .u16 m2, .int .u16 y2] := (Box.new2 _ _ _ _ _).keep hk1
            have c0 := B0_1.cells
            have f0 := B0_1.thawed
            have c1 := B1_1.cells
            have f1 := B1_1.thawed
            have c2 := B2_1.cells
            have f2 := B2_1.thawed
            go_wp2_with fail
            refine (sub_any _ _ _ _ _ _ _ _ _ _ _ _ _).mono ?_
            rintro e w2 ⟨rfl, hk2⟩
            have B0_2 : Box w2 w.heap.size #[.bool t, .int .u32 b, .int .u32 p, .int .u32 a, .int .u16 m, .int .u16 y] := B0_1.keep hk2
            have B1_2 : Box w2 (w.heap.size + 1) #[.bool t1, .int .u32 b1, .int .u32 p1, .int .u32 a1, .int .u16 m1, .int .u16 y1] := B1_1.keep hk2
            have B2_2 : Box w2 (w.heap.size + 2) #[.bool t2, .int .u32 b2, .int .u32 p2, .int .u32 a2, .int .u16 m2, .int .u16 y2] := B2_1.keep hk2
            clear c0 f0 c1 f1 c2 f2
            have c0 := B0_2.cells
            have f0 := B0_2.thawed
            have c1 := B1_2.cells
            have f1 := B1_2.thawed
            have c2 := B2_2.cells
            have f2 := B2_2.thawed
            go_wp2_with fail
            refine (sub_any _ _ _ _ _ _ _ _ _ _ _ _ _).mono ?_
            rintro e w3 ⟨rfl, hk3⟩
            have B0_3 : Box w3 w.heap.size #[.bool t, .int .u32 b, .int .u32 p, .int .u32 a, .int .u16 m, .int .u16 y] := B0_2.keep hk3
            have B1_3 : Box w3 (w.heap.size + 1) #[.bool t1, .int .u32 b1, .int .u32 p1, .int .u32 a1, .int .u16 m1, .int .u16 y1] := B1_2.keep hk3
            have B2_3 : Box w3 (w.heap.size + 2) #[.bool t2, .int .u32 b2, .int .u32 p2, .int .u32 a2, .int .u16 m2, .int .u16 y2] := B2_2.keep hk3
            clear c0 f0 c1 f1 c2 f2
            have c0 := B0_3.cells
            have f0 := B0_3.thawed
            have c1 := B1_3.cells
            have f1 := B1_3.thawed
            have c2 := B2_3.cells
            have f2 := B2_3.thawed
            go_wp2_with fail
            refine (sub_any _ _ _ _ _ _ _ _ _ _ _ _ _).mono ?_
            rintro e w4 ⟨rfl, hk4⟩
            have B0_4 : Box w4 w.heap.size #[.bool t, .int .u32 b, .int .u32 p, .int .u32 a, .int .u16 m, .int .u16 y] := B0_3.keep hk4
            have B1_4 : Box w4 (w.heap.size + 1) #[.bool t1, .int .u32 b1, .int .u32 p1, .int .u32 a1, .int .u16 m1, .int .u16 y1] := B1_3.keep hk4
            have B2_4 : Box w4 (w.heap.size + 2) #[.bool t2, .int .u32 b2, .int .u32 p2, .int .u32 a2, .int .u16 m2, .int .u16 y2] := B2_3.keep hk4
            clear c0 f0 c1 f1 c2 f2
            have c0 := B0_4.cells
            have f0 := B0_4.thawed
            have c1 := B1_4.cells
            have f1 := B1_4.thawed
            have c2 := B2_4.cells
            have f2 := B2_4.thawed
            go_wp2_with fail
            refine (sub_any _ _ _ _ _ _ _ _ _ _ _ _ _).mono ?_
            rintro e w5 ⟨rfl, hk5⟩
            have B0_5 : Box w5 w.heap.size #[.bool t, .int .u32 b, .int .u32 p, .int .u32 a, .int .u16 m, .int .u16 y] := B0_4.keep hk5
            have B1_5 : Box w5 (w.heap.size + 1) #[.bool t1, .int .u32 b1, .int .u32 p1, .int .u32 a1, .int .u16 m1, .int .u16 y1] := B1_4.keep hk5
            have B2_5 : Box w5 (w.heap.size + 2) #[.bool t2, .int .u32 b2, .int .u32 p2, .int .u32 a2, .int .u16 m2, .int .u16 y2] := B2_4.keep hk5
            clear c0 f0 c1 f1 c2 f2
            have c0 := B0_5.cells
            have f0 := B0_5.thawed
            have c1 := B1_5.cells
            have f1 := B1_5.thawed
            have c2 := B2_5.cells
            have f2 := B2_5.thawed
            go_wp2_with fail
            refine (sub_any _ _ _ _ _ _ _ _ _ _ _ _ _).mono ?_
            rintro e w6 ⟨rfl, hk6⟩
            have B0_6 : Box w6 w.heap.size #[.bool t, .int .u32 b, .int .u32 p, .int .u32 a, .int .u16 m, .int .u16 y] := B0_5.keep hk6
            have B1_6 : Box w6 (w.heap.size + 1) #[.bool t1, .int .u32 b1, .int .u32 p1, .int .u32 a1, .int .u16 m1, .int .u16 y1] := B1_5.keep hk6
            have B2_6 : Box w6 (w.heap.size + 2) #[.bool t2, .int .u32 b2, .int .u32 p2, .int .u32 a2, .int .u16 m2, .int .u16 y2] := B2_5.keep hk6
            clear c0 f0 c1 f1 c2 f2
            have c0 := B0_6.cells
            have f0 := B0_6.thawed
            have c1 := B1_6.cells
            have f1 := B1_6.thawed
            have c2 := B2_6.cells
            have f2 := B2_6.thawed
            go_wp2_with fail
            go_ret
            exact ⟨rfl, ((((((((((Keep.refl _).alloc _).alloc _).alloc _).trans hk1).trans hk2).trans hk3).trans hk4).trans hk5).trans hk6)⟩
          · skip
            have d10 : subB b1 p1 m1 b p m = false := by
              apply Bool.eq_false_iff.2
              intro h
              have h1 := HI.out.1.1 d01
              have h2 := HI.out.2.2.2.1 h
              have g0 : b = b1 := by omega
              have g1 : p = p1 := by omega
              have g2 : m = m1 := Within.antisymm hm.1 hm1.1 h1.2.2 h2.2.2
              simp [g0, g1, g2] at e2
            clear HI
            go_enter Tryd.func7, Tryd.ntmps7
            go_wp2_with fail
            refine (known_any _ (HT.out.keep ((((Keep.refl _).alloc _).alloc _).alloc _))).mono ?_
            rintro e w1 ⟨rfl, hk1⟩
            have B0_1 : Box w1 w.heap.size #[.bool t, .int .u32 b, .int .u32 p, .int .u32 a, .int .u16 m, .int .u16 y] := (((Box.new _ _ _).alloc _).alloc _).keep hk1
            have B1_1 : Box w1 (w.heap.size + 1) #[.bool t1, .int .u32 b1, .int .u32 p1, .int .u32 a1, .int .u16 m1, .int .u16 y1] := ((Box.new1 _ _ _ _).alloc _).keep hk1
            have B2_1 : Box w1 (w.heap.size + 2) #[.bool t2, .int .u32 b2, .int .u32 p2, .int .u32 a2, .int .u16 m2, .int .u16 y2] := (Box.new2 _ _ _ _ _).keep hk1
            have c0 := B0_1.cells
            have f0 := B0_1.thawed
            have c1 := B1_1.cells
            have f1 := B1_1.thawed
            have c2 := B2_1.cells
            have f2 := B2_1.thawed
            go_wp2_with fail
            refine (sub_any _ _ _ _ _ _ _ _ _ _ _ _ _).mono ?_
            rintro e w2 ⟨rfl, hk2⟩
            have B0_2 : Box w2 w.heap.size #[.bool t, .int .u32 b, .int .u32 p, .int .u32 a, .int .u16 m, .int .u16 y] := B0_1.keep hk2
            have B1_2 : Box w2 (w.heap.size + 1) #[.bool t1, .int .u32 b1, .int .u32 p1, .int .u32 a1, .int .u16 m1, .int .u16 y1] := B1_1.keep hk2
            have B2_2 : Box w2 (w.heap.size + 2) #[.bool t2, .int .u32 b2, .int .u32 p2, .int .u32 a2, .int .u16 m2, .int .u16 y2] := B2_1.keep hk2
            clear c0 f0 c1 f1 c2 f2
            have c0 := B0_2.cells
            have f0 := B0_2.thawed
            have c1 := B1_2.cells
            have f1 := B1_2.thawed
            have c2 := B2_2.cells
            have f2 := B2_2.thawed
            go_wp2_with fail
            refine (sub_any _ _ _ _ _ _ _ _ _ _ _ _ _).mono ?_
            rintro e w3 ⟨rfl, hk3⟩
            have B0_3 : Box w3 w.heap.size #[.bool t, .int .u32 b, .int .u32 p, .int .u32 a, .int .u16 m, .int .u16 y] := B0_2.keep hk3
            have B1_3 : Box w3 (w.heap.size + 1) #[.bool t1, .int .u32 b1, .int .u32 p1, .int .u32 a1, .int .u16 m1, .int .u16 y1] := B1_2.keep hk3
            have B2_3 : Box w3 (w.heap.size + 2) #[.bool t2, .int .u32 b2, .int .u32 p2, .int .u32 a2, .int .u16 m2, .int .u16 y2] := B2_2.keep hk3
            clear c0 f0 c1 f1 c2 f2
            have c0 := B0_3.cells
            have f0 := B0_3.thawed
            have c1 := B1_3.cells
            have f1 := B1_3.thawed
            have c2 := B2_3.cells
            have f2 := B2_3.thawed
            go_wp2_with fail
            refine (sub_any _ _ _ _ _ _ _ _ _ _ _ _ _).mono ?_
            rintro e w4 ⟨rfl, hk4⟩
            have B0_4 : Box w4 w.heap.size #[.bool t, .int .u32 b, .int .u32 p, .int .u32 a, .int .u16 m, .int .u16 y] := B0_3.keep hk4
            have B1_4 : Box w4 (w.heap.size + 1) #[.bool t1, .int .u32 b1, .int .u32 p1, .int .u32 a1, .int .u16 m1, .int .u16 y1] := B1_3.keep hk4
            have B2_4 : Box w4 (w.heap.size + 2) #[.bool t2, .int .u32 b2, .int .u32 p2, .int .u32 a2, .int .u16 m2, .int .u16 y2] := B2_3.keep hk4
            clear c0 f0 c1 f1 c2 f2
            have c0 := B0_4.cells
            have f0 := B0_4.thawed
            have c1 := B1_4.cells
            have f1 := B1_4.thawed
            have c2 := B2_4.cells
            have f2 := B2_4.thawed
            go_wp2_with fail
            refine (sub_any _ _ _ _ _ _ _ _ _ _ _ _ _).mono ?_
            rintro e w5 ⟨rfl, hk5⟩
            have B0_5 : Box w5 w.heap.size #[.bool t, .int .u32 b, .int .u32 p, .int .u32 a, .int .u16 m, .int .u16 y] := B0_4.keep hk5
            have B1_5 : Box w5 (w.heap.size + 1) #[.bool t1, .int .u32 b1, .int .u32 p1, .int .u32 a1, .int .u16 m1, .int .u16 y1] := B1_4.keep hk5
            have B2_5 : Box w5 (w.heap.size + 2) #[.bool t2, .int .u32 b2, .int .u32 p2, .int .u32 a2, .int .u16 m2, .int .u16 y2] := B2_4.keep hk5
            clear c0 f0 c1 f1 c2 f2
            have c0 := B0_5.cells
            have f0 := B0_5.thawed
            have c1 := B1_5.cells
            have f1 := B1_5.thawed
            have c2 := B2_5.cells
            have f2 := B2_5.thawed
            go_wp2_with fail
            refine (sub_any _ _ _ _ _ _ _ _ _ _ _ _ _).mono ?_
            rintro e w6 ⟨rfl, hk6⟩
            have B0_6 : Box w6 w.heap.size #[.bool t, .int .u32 b, .int .u32 p, .int .u32 a, .int .u16 m, .int .u16 y] := B0_5.keep hk6
            have B1_6 : Box w6 (w.heap.size + 1) #[.bool t1, .int .u32 b1, .int .u32 p1, .int .u32 a1, .int .u16 m1, .int .u16 y1] := B1_5.keep hk6
            have B2_6 : Box w6 (w.heap.size + 2) #[.bool t2, .int .u32 b2, .int .u32 p2, .int .u32 a2, .int .u16 m2, .int .u16 y2] := B2_5.keep hk6
            clear c0 f0 c1 f1 c2 f2
            have c0 := B0_6.cells
            have f0 := B0_6.thawed
            have c1 := B1_6.cells
            have f1 := B1_6.thawed
            have c2 := B2_6.cells
            have f2 := B2_6.thawed
            go_wp2_with fail
            go_ret
            exact ⟨rfl, ((((((((((Keep.refl _).alloc _).alloc _).alloc _).trans hk1).trans hk2).trans hk3).trans hk4).trans hk5).trans hk6)⟩
        · skip
          have d10 : subB b1 p1 m1 b p m = false := by
            apply Bool.eq_false_iff.2
            intro h
            have h1 := HI.out.1.1 d01
            have h2 := HI.out.2.2.2.1 h
            have g0 : b = b1 := by omega
            have g1 : p = p1 := by omega
            have g2 : m = m1 := Within.antisymm hm.1 hm1.1 h1.2.2 h2.2.2
            simp [g0, g1, g2] at e1
          clear HI
          go_enter Tryd.func7, Tryd.ntmps7
          go_wp2_with fail
          refine (known_any _ (HT.out.keep ((((Keep.refl _).alloc _).alloc _).alloc _))).mono ?_
          rintro e w1 ⟨rfl, hk1⟩
          have B0_1 : Box w1 w.heap.size #[.bool t, .int .u32 b, .int .u32 p, .int .u32 a, .int .u16 m, .int .u16 y] := (((Box.new _ _ _).alloc _).alloc _).keep hk1
          have B1_1 : Box w1 (w.heap.size + 1) #[.bool t1, .int .u32 b1, .int .u32 p1, .int .u32 a1, .int .u16 m1, .int .u16 y1] := ((Box.new1 _ _ _ _).alloc _).keep hk1
          have B2_1 : Box w1 (w.heap.size + 2) #[.bool t2, .int .u32 b2, .int .u32 p2, .int .u32 a2, .int .u16 m2, .int .u16 y2] := (Box.new2 _ _ _ _ _).keep hk1
          have c0 := B0_1.cells
          have f0 := B0_1.thawed
          have c1 := B1_1.cells
          have f1 := B1_1.thawed
          have c2 := B2_1.cells
          have f2 := B2_1.thawed
          go_wp2_with fail
          refine (sub_any _ _ _ _ _ _ _ _ _ _ _ _ _).mono ?_
          rintro e w2 ⟨rfl, hk2⟩
          have B0_2 : Box w2 w.heap.size #[.bool t, .int .u32 b, .int .u32 p, .int .u32 a, .int .u16 m, .int .u16 y] := B0_1.keep hk2
          have B1_2 : Box w2 (w.heap.size + 1) #[.bool t1, .int .u32 b1, .int .u32 p1, .int .u32 a1, .int .u16 m1, .int .u16 y1] := B1_1.keep hk2
          have B2_2 : Box w2 (w.heap.size + 2) #[.bool t2, .int .u32 b2, .int .u32 p2, .int .u32 a2, .int .u16 m2, .int .u16 y2] := B2_1.keep hk2
          clear c0 f0 c1 f1 c2 f2
          have c0 := B0_2.cells
          have f0 := B0_2.thawed
          have c1 := B1_2.cells
          have f1 := B1_2.thawed
          have c2 := B2_2.cells
          have f2 := B2_2.thawed
          go_wp2_with fail
          refine (sub_any _ _ _ _ _ _ _ _ _ _ _ _ _).mono ?_
          rintro e w3 ⟨rfl, hk3⟩
          have B0_3 : Box w3 w.heap.size #[.bool t, .int .u32 b, .int .u32 p, .int .u32 a, .int .u16 m, .int .u16 y] := B0_2.keep hk3
          have B1_3 : Box w3 (w.heap.size + 1) #[.bool t1, .int .u32 b1, .int .u32 p1, .int .u32 a1, .int .u16 m1, .int .u16 y1] := B1_2.keep hk3
          have B2_3 : Box w3 (w.heap.size + 2) #[.bool t2, .int .u32 b2, .int .u32 p2, .int .u32 a2, .int .u16 m2, .int .u16 y2] := B2_2.keep hk3
          clear c0 f0 c1 f1 c2 f2
          have c0 := B0_3.cells
          have f0 := B0_3.thawed
          have c1 := B1_3.cells
          have f1 := B1_3.thawed
          have c2 := B2_3.cells
          have f2 := B2_3.thawed
          go_wp2_with fail
          refine (sub_any _ _ _ _ _ _ _ _ _ _ _ _ _).mono ?_
          rintro e w4 ⟨rfl, hk4⟩
          have B0_4 : Box w4 w.heap.size #[.bool t, .int .u32 b, .int .u32 p, .int .u32 a, .int .u16 m, .int .u16 y] := B0_3.keep hk4
          have B1_4 : Box w4 (w.heap.size + 1) #[.bool t1, .int .u32 b1, .int .u32 p1, .int .u32 a1, .int .u16 m1, .int .u16 y1] := B1_3.keep hk4
          have B2_4 : Box w4 (w.heap.size + 2) #[.bool t2, .int .u32 b2, .int .u32 p2, .int .u32 a2, .int .u16 m2, .int .u16 y2] := B2_3.keep hk4
          clear c0 f0 c1 f1 c2 f2
          have c0 := B0_4.cells
          have f0 := B0_4.thawed
          have c1 := B1_4.cells
          have f1 := B1_4.thawed
          have c2 := B2_4.cells
          have f2 := B2_4.thawed
          go_wp2_with fail
          refine (sub_any _ _ _ _ _ _ _ _ _ _ _ _ _).mono ?_
          rintro e w5 ⟨rfl, hk5⟩
          have B0_5 : Box w5 w.heap.size #[.bool t, .int .u32 b, .int .u32 p, .int .u32 a, .int .u16 m, .int .u16 y] := B0_4.keep hk5
          have B1_5 : Box w5 (w.heap.size + 1) #[.bool t1, .int .u32 b1, .int .u32 p1, .int .u32 a1, .int .u16 m1, .int .u16 y1] := B1_4.keep hk5
          have B2_5 : Box w5 (w.heap.size + 2) #[.bool t2, .int .u32 b2, .int .u32 p2, .int .u32 a2, .int .u16 m2, .int .u16 y2] := B2_4.keep hk5
          clear c0 f0 c1 f1 c2 f2
          have c0 := B0_5.cells
          have f0 := B0_5.thawed
          have c1 := B1_5.cells
          have f1 := B1_5.thawed
          have c2 := B2_5.cells
          have f2 := B2_5.thawed
          go_wp2_with fail
          refine (sub_any _ _ _ _ _ _ _ _ _ _ _ _ _).mono ?_
          rintro e w6 ⟨rfl, hk6⟩
          have B0_6 : Box w6 w.heap.size #[.bool t, .int .u32 b, .int .u32 p, .int .u32 a, .int .u16 m, .int .u16 y] := B0_5.keep hk6
          have B1_6 : Box w6 (w.heap.size + 1) #[.bool t1, .int .u32 b1, .int .u32 p1, .int .u32 a1, .int .u16 m1, .int .u16 y1] := B1_5.keep hk6
          have B2_6 : Box w6 (w.heap.size + 2) #[.bool t2, .int .u32 b2, .int .u32 p2, .int .u32 a2, .int .u16 m2, .int .u16 y2] := B2_5.keep hk6
          clear c0 f0 c1 f1 c2 f2
          have c0 := B0_6.cells
          have f0 := B0_6.thawed
          have c1 := B1_6.cells
          have f1 := B1_6.thawed
          have c2 := B2_6.cells
          have f2 := B2_6.thawed
          go_wp2_with fail
          go_ret
          exact ⟨rfl, ((((((((((Keep.refl _).alloc _).alloc _).alloc _).trans hk1).trans hk2).trans hk3).trans hk4).trans hk5).trans hk6)⟩
      · skip
        have d10 : subB b1 p1 m1 b p m = false := by
          apply Bool.eq_false_iff.2
          intro h
          have h1 := HI.out.1.1 d01
          have h2 := HI.out.2.2.2.1 h
          have g0 : b = b1 := by omega
          have g1 : p = p1 := by omega
          have g2 : m = m1 := Within.antisymm hm.1 hm1.1 h1.2.2 h2.2.2
          simp [g0, g1, g2] at e0
        clear HI
        go_enter Tryd.func7, Tryd.ntmps7
        go_wp2_with fail
        refine (known_any _ (HT.out.keep ((((Keep.refl _).alloc _).alloc _).alloc _))).mono ?_
        rintro e w1 ⟨rfl, hk1⟩
        have B0_1 : Box w1 w.heap.size #[.bool t, .int .u32 b, .int .u32 p, .int .u32 a, .int .u16 m, .int .u16 y] := (((Box.new _ _ _).alloc _).alloc _).keep hk1
        have B1_1 : Box w1 (w.heap.size + 1) #[.bool t1, .int .u32 b1, .int .u32 p1, .int .u32 a1, .int .u16 m1, .int .u16 y1] := ((Box.new1 _ _ _ _).alloc _).keep hk1
        have B2_1 : Box w1 (w.heap.size + 2) #[.bool t2, .int .u32 b2, .int .u32 p2, .int .u32 a2, .int .u16 m2, .int .u16 y2] := (Box.new2 _ _ _ _ _).keep hk1
        have c0 := B0_1.cells
        have f0 := B0_1.thawed
        have c1 := B1_1.cells
        have f1 := B1_1.thawed
        have c2 := B2_1.cells
        have f2 := B2_1.thawed
        go_wp2_with fail
        refine (sub_any _ _ _ _ _ _ _ _ _ _ _ _ _).mono ?_
        rintro e w2 ⟨rfl, hk2⟩
        have B0_2 : Box w2 w.heap.size #[.bool t, .int .u32 b, .int .u32 p, .int .u32 a, .int .u16 m, .int .u16 y] := B0_1.keep hk2
        have B1_2 : Box w2 (w.heap.size + 1) #[.bool t1, .int .u32 b1, .int .u32 p1, .int .u32 a1, .int .u16 m1, .int .u16 y1] := B1_1.keep hk2
        have B2_2 : Box w2 (w.heap.size + 2) #[.bool t2, .int .u32 b2, .int .u32 p2, .int .u32 a2, .int .u16 m2, .int .u16 y2] := B2_1.keep hk2
        clear c0 f0 c1 f1 c2 f2
        have c0 := B0_2.cells
        have f0 := B0_2.thawed
        have c1 := B1_2.cells
        have f1 := B1_2.thawed
        have c2 := B2_2.cells
        have f2 := B2_2.thawed
        go_wp2_with fail
        refine (sub_any _ _ _ _ _ _ _ _ _ _ _ _ _).mono ?_
        rintro e w3 ⟨rfl, hk3⟩
        have B0_3 : Box w3 w.heap.size #[.bool t, .int .u32 b, .int .u32 p, .int .u32 a, .int .u16 m, .int .u16 y] := B0_2.keep hk3
        have B1_3 : Box w3 (w.heap.size + 1) #[.bool t1, .int .u32 b1, .int .u32 p1, .int .u32 a1, .int .u16 m1, .int .u16 y1] := B1_2.keep hk3
        have B2_3 : Box w3 (w.heap.size + 2) #[.bool t2, .int .u32 b2, .int .u32 p2, .int .u32 a2, .int .u16 m2, .int .u16 y2] := B2_2.keep hk3
        clear c0 f0 c1 f1 c2 f2
        have c0 := B0_3.cells
        have f0 := B0_3.thawed
        have c1 := B1_3.cells
        have f1 := B1_3.thawed
        have c2 := B2_3.cells
        have f2 := B2_3.thawed
        go_wp2_with fail
        refine (sub_any _ _ _ _ _ _ _ _ _ _ _ _ _).mono ?_
        rintro e w4 ⟨rfl, hk4⟩
        have B0_4 : Box w4 w.heap.size #[.bool t, .int .u32 b, .int .u32 p, .int .u32 a, .int .u16 m, .int .u16 y] := B0_3.keep hk4
        have B1_4 : Box w4 (w.heap.size + 1) #[.bool t1, .int .u32 b1, .int .u32 p1, .int .u32 a1, .int .u16 m1, .int .u16 y1] := B1_3.keep hk4
        have B2_4 : Box w4 (w.heap.size + 2) #[.bool t2, .int .u32 b2, .int .u32 p2, .int .u32 a2, .int .u16 m2, .int .u16 y2] := B2_3.keep hk4
        clear c0 f0 c1 f1 c2 f2
        have c0 := B0_4.cells
        have f0 := B0_4.thawed
        have c1 := B1_4.cells
        have f1 := B1_4.thawed
        have c2 := B2_4.cells
        have f2 := B2_4.thawed
        go_wp2_with fail
        refine (sub_any _ _ _ _ _ _ _ _ _ _ _ _ _).mono ?_
        rintro e w5 ⟨rfl, hk5⟩
        have B0_5 : Box w5 w.heap.size #[.bool t, .int .u32 b, .int .u32 p, .int .u32 a, .int .u16 m, .int .u16 y] := B0_4.keep hk5
        have B1_5 : Box w5 (w.heap.size + 1) #[.bool t1, .int .u32 b1, .int .u32 p1, .int .u32 a1, .int .u16 m1, .int .u16 y1] := B1_4.keep hk5
        have B2_5 : Box w5 (w.heap.size + 2) #[.bool t2, .int .u32 b2, .int .u32 p2, .int .u32 a2, .int .u16 m2, .int .u16 y2] := B2_4.keep hk5
        clear c0 f0 c1 f1 c2 f2
        have c0 := B0_5.cells
        have f0 := B0_5.thawed
        have c1 := B1_5.cells
        have f1 := B1_5.thawed
        have c2 := B2_5.cells
        have f2 := B2_5.thawed
        go_wp2_with fail
        refine (sub_any _ _ _ _ _ _ _ _ _ _ _ _ _).mono ?_
        rintro e w6 ⟨rfl, hk6⟩
        have B0_6 : Box w6 w.heap.size #[.bool t, .int .u32 b, .int .u32 p, .int .u32 a, .int .u16 m, .int .u16 y] := B0_5.keep hk6
        have B1_6 : Box w6 (w.heap.size + 1) #[.bool t1, .int .u32 b1, .int .u32 p1, .int .u32 a1, .int .u16 m1, .int .u16 y1] := B1_5.keep hk6
        have B2_6 : Box w6 (w.heap.size + 2) #[.bool t2, .int .u32 b2, .int .u32 p2, .int .u32 a2, .int .u16 m2, .int .u16 y2] := B2_5.keep hk6
        clear c0 f0 c1 f1 c2 f2
        have c0 := B0_6.cells
        have f0 := B0_6.thawed
        have c1 := B1_6.cells
        have f1 := B1_6.thawed
        have c2 := B2_6.cells
        have f2 := B2_6.thawed
        go_wp2_with fail
        go_ret
        exact ⟨rfl, ((((((((((Keep.refl _).alloc _).alloc _).alloc _).trans hk1).trans hk2).trans hk3).trans hk4).trans hk5).trans hk6)⟩
  · skip
    rcases Bool.eq_false_or_eq_true (b == b1) with e0 | e0
    · skip
      rcases Bool.eq_false_or_eq_true (p == p1) with e1 | e1
      · skip
        rcases Bool.eq_false_or_eq_true (m == m1) with e2 | e2
        · skip
          exact absurd (HI.out.1.2 ⟨by rw [eq_of_beq e0]; exact Int.le_refl _, by rw [eq_of_beq e1]; exact Int.le_refl _, by rw [eq_of_beq e2]; exact Within.refl _⟩) (by rw [d01]; decide)
        · skip
          clear HI
          go_enter Tryd.func7, Tryd.ntmps7
          go_wp2_with fail
          refine (known_any _ (HT.out.keep ((((Keep.refl _).alloc _).alloc _).alloc _))).mono ?_
          rintro e w1 ⟨rfl, hk1⟩
          have B0_1 : Box w1 w.heap.size #[.bool t, .int .u32 b, .int .u32 p, .int .u32 a, .int .u16 m, .int .u16 y] := (((Box.new _ _ _).alloc _).alloc _).keep hk1
          have B1_1 : Box w1 (w.heap.size + 1) #[.bool t1, .int .u32 b1, .int .u32 p1, .int .u32 a1, .int .u16 m1, .int .u16 y1] := ((Box.new1 _ _ _ _).alloc _).keep hk1
          have B2_1 : Box w1 (w.heap.size + 2) #[.bool t2, .int .u32 b2, .int .u32 p2, .int .u32 a2, .int .u16 m2, .int .u16 y2] := (Box.new2 _ _ _ _ _).keep hk1
          have c0 := B0_1.cells
          have f0 := B0_1.thawed
          have c1 := B1_1.cells
          have f1 := B1_1.thawed
          have c2 := B2_1.cells
          have f2 := B2_1.thawed
          go_wp2_with fail
          refine (sub_any _ _ _ _ _ _ _ _ _ _ _ _ _).mono ?_
          rintro e w2 ⟨rfl, hk2⟩
          have B0_2 : Box w2 w.heap.size #[.bool t, .int .u32 b, .int .u32 p, .int .u32 a, .int .u16 m, .int .u16 y] := B0_1.keep hk2
          have B1_2 : Box w2 (w.heap.size + 1) #[.bool t1, .int .u32 b1, .int .u32 p1, .int .u32 a1, .int .u16 m1, .int .u16 y1] := B1_1.keep hk2
          have B2_2 : Box w2 (w.heap.size + 2) #[.bool t2, .int .u32 b2, .int .u32 p2, .int .u32 a2, .int .u16 m2, .int .u16 y2] := B2_1.keep hk2
          clear c0 f0 c1 f1 c2 f2
          have c0 := B0_2.cells
          have f0 := B0_2.thawed
          have c1 := B1_2.cells
          have f1 := B1_2.thawed
          have c2 := B2_2.cells
          have f2 := B2_2.thawed
          go_wp2_with fail
          refine (sub_any _ _ _ _ _ _ _ _ _ _ _ _ _).mono ?_
          rintro e w3 ⟨rfl, hk3⟩
          have B0_3 : Box w3 w.heap.size #[.bool t, .int .u32 b, .int .u32 p, .int .u32 a, .int .u16 m, .int .u16 y] := B0_2.keep hk3
          have B1_3 : Box w3 (w.heap.size + 1) #[.bool t1, .int .u32 b1, .int .u32 p1, .int .u32 a1, .int .u16 m1, .int .u16 y1] := B1_2.keep hk3
          have B2_3 : Box w3 (w.heap.size + 2) #[.bool t2, .int .u32 b2, .int .u32 p2, .int .u32 a2, .int .u16 m2, .int .u16 y2] := B2_2.keep hk3
          clear c0 f0 c1 f1 c2 f2
          have c0 := B0_3.cells
          have f0 := B0_3.thawed
          have c1 := B1_3.cells
          have f1 := B1_3.thawed
          have c2 := B2_3.cells
          have f2 := B2_3.thawed
          go_wp2_with fail
          refine (sub_any _ _ _ _ _ _ _ _ _ _ _ _ _).mono ?_
          rintro e w4 ⟨rfl, hk4⟩
          have B0_4 : Box w4 w.heap.size #[.bool t, .int .u32 b, .int .u32 p, .int .u32 a, .int .u16 m, .int .u16 y] := B0_3.keep hk4
          have B1_4 : Box w4 (w.heap.size + 1) #[.bool t1, .int .u32 b1, .int .u32 p1, .int .u32 a1, .int .u16 m1, .int .u16 y1] := B1_3.keep hk4
          have B2_4 : Box w4 (w.heap.size + 2) #[.bool t2, .int .u32 b2, .int .u32 p2, .int .u32 a2, .int .u16 m2, .int .u16 y2] := B2_3.keep hk4
          clear c0 f0 c1 f1 c2 f2
          have c0 := B0_4.cells
          have f0 := B0_4.thawed
          have c1 := B1_4.cells
          have f1 := B1_4.thawed
          have c2 := B2_4.cells
          have f2 := B2_4.thawed
          go_wp2_with fail
          go_ret
          exact ⟨rfl, ((((((((Keep.refl _).alloc _).alloc _).alloc _).trans hk1).trans hk2).trans hk3).trans hk4)⟩
      · skip
        clear HI
        go_enter Tryd.func7, Tryd.ntmps7
        go_wp2_with fail
        refine (known_any _ (HT.out.keep ((((Keep.refl _).alloc _).alloc _).alloc _))).mono ?_
        rintro e w1 ⟨rfl, hk1⟩
        have B0_1 : Box w1 w.heap.size #[.bool t, .int .u32 b, .int .u32 p, .int .u32 a, .int .u16 m, .int .u16 y] := (((Box.new _ _ _).alloc _).alloc _).keep hk1
        have B1_1 : Box w1 (w.heap.size + 1) #[.bool t1, .int .u32 b1, .int .u32 p1, .int .u32 a1, .int .u16 m1, .int .u16 y1] := ((Box.new1 _ _ _ _).alloc _).keep hk1
        have B2_1 : Box w1 (w.heap.size + 2) #[.bool t2, .int .u32 b2, .int .u32 p2, .int .u32 a2, .int .u16 m2, .int .u16 y2] := (Box.new2 _ _ _ _ _).keep hk1
        have c0 := B0_1.cells
        have f0 := B0_1.thawed
        have c1 := B1_1.cells
        have f1 := B1_1.thawed
        have c2 := B2_1.cells
        have f2 := B2_1.thawed
        go_wp2_with fail
        refine (sub_any _ _ _ _ _ _ _ _ _ _ _ _ _).mono ?_
        rintro e w2 ⟨rfl, hk2⟩
        have B0_2 : Box w2 w.heap.size #[.bool t, .int .u32 b, .int .u32 p, .int .u32 a, .int .u16 m, .int .u16 y] := B0_1.keep hk2
        have B1_2 : Box w2 (w.heap.size + 1) #[.bool t1, .int .u32 b1, .int .u32 p1, .int .u32 a1, .int .u16 m1, .int .u16 y1] := B1_1.keep hk2
        have B2_2 : Box w2 (w.heap.size + 2) #[.bool t2, .int .u32 b2, .int .u32 p2, .int .u32 a2, .int .u16 m2, .int .u16 y2] := B2_1.keep hk2
        clear c0 f0 c1 f1 c2 f2
        have c0 := B0_2.cells
        have f0 := B0_2.thawed
        have c1 := B1_2.cells
        have f1 := B1_2.thawed
        have c2 := B2_2.cells
        have f2 := B2_2.thawed
        go_wp2_with fail
        refine (sub_any _ _ _ _ _ _ _ _ _ _ _ _ _).mono ?_
        rintro e w3 ⟨rfl, hk3⟩
        have B0_3 : Box w3 w.heap.size #[.bool t, .int .u32 b, .int .u32 p, .int .u32 a, .int .u16 m, .int .u16 y] := B0_2.keep hk3
        have B1_3 : Box w3 (w.heap.size + 1) #[.bool t1, .int .u32 b1, .int .u32 p1, .int .u32 a1, .int .u16 m1, .int .u16 y1] := B1_2.keep hk3
        have B2_3 : Box w3 (w.heap.size + 2) #[.bool t2, .int .u32 b2, .int .u32 p2, .int .u32 a2, .int .u16 m2, .int .u16 y2] := B2_2.keep hk3
        clear c0 f0 c1 f1 c2 f2
        have c0 := B0_3.cells
        have f0 := B0_3.thawed
        have c1 := B1_3.cells
        have f1 := B1_3.thawed
        have c2 := B2_3.cells
        have f2 := B2_3.thawed
        go_wp2_with fail
        refine (sub_any _ _ _ _ _ _ _ _ _ _ _ _ _).mono ?_
        rintro e w4 ⟨rfl, hk4⟩
        have B0_4 : Box w4 w.heap.size #[.bool t, .int .u32 b, .int .u32 p, .int .u32 a, .int .u16 m, .int .u16 y] := B0_3.keep hk4
        have B1_4 : Box w4 (w.heap.size + 1) #[.bool t1, .int .u32 b1, .int .u32 p1, .int .u32 a1, .int .u16 m1, .int .u16 y1] := B1_3.keep hk4
        have B2_4 : Box w4 (w.heap.size + 2) #[.bool t2, .int .u32 b2, .int .u32 p2, .int .u32 a2, .int .u16 m2, .int .u16 y2] := B2_3.keep hk4
        clear c0 f0 c1 f1 c2 f2
        have c0 := B0_4.cells
        have f0 := B0_4.thawed
        have c1 := B1_4.cells
        have f1 := B1_4.thawed
        have c2 := B2_4.cells
        have f2 := B2_4.thawed
        go_wp2_with fail
        go_ret
        exact ⟨rfl, ((((((((Keep.refl _).alloc _).alloc _).alloc _).trans hk1).trans hk2).trans hk3).trans hk4)⟩
    · skip
      clear HI
      go_enter Tryd.func7, Tryd.ntmps7
      go_wp2_with fail
      refine (known_any _ (HT.out.keep ((((Keep.refl _).alloc _).alloc _).alloc _))).mono ?_
      rintro e w1 ⟨rfl, hk1⟩
      have B0_1 : Box w1 w.heap.size #[.bool t, .int .u32 b, .int .u32 p, .int .u32 a, .int .u16 m, .int .u16 y] := (((Box.new _ _ _).alloc _).alloc _).keep hk1
      have B1_1 : Box w1 (w.heap.size + 1) #[.bool t1, .int .u32 b1, .int .u32 p1, .int .u32 a1, .int .u16 m1, .int .u16 y1] := ((Box.new1 _ _ _ _).alloc _).keep hk1
      have B2_1 : Box w1 (w.heap.size + 2) #[.bool t2, .int .u32 b2, .int .u32 p2, .int .u32 a2, .int .u16 m2, .int .u16 y2] := (Box.new2 _ _ _ _ _).keep hk1
      have c0 := B0_1.cells
      have f0 := B0_1.thawed
      have c1 := B1_1.cells
      have f1 := B1_1.thawed
      have c2 := B2_1.cells
      have f2 := B2_1.thawed
      go_wp2_with fail
      refine (sub_any _ _ _ _ _ _ _ _ _ _ _ _ _).mono ?_
      rintro e w2 ⟨rfl, hk2⟩
      have B0_2 : Box w2 w.heap.size #[.bool t, .int .u32 b, .int .u32 p, .int .u32 a, .int .u16 m, .int .u16 y] := B0_1.keep hk2
      have B1_2 : Box w2 (w.heap.size + 1) #[.bool t1, .int .u32 b1, .int .u32 p1, .int .u32 a1, .int .u16 m1, .int .u16 y1] := B1_1.keep hk2
      have B2_2 : Box w2 (w.heap.size + 2) #[.bool t2, .int .u32 b2, .int .u32 p2, .int .u32 a2, .int .u16 m2, .int .u16 y2] := B2_1.keep hk2
      clear c0 f0 c1 f1 c2 f2
      have c0 := B0_2.cells
      have f0 := B0_2.thawed
      have c1 := B1_2.cells
      have f1 := B1_2.thawed
      have c2 := B2_2.cells
      have f2 := B2_2.thawed
      go_wp2_with fail
      refine (sub_any _ _ _ _ _ _ _ _ _ _ _ _ _).mono ?_
      rintro e w3 ⟨rfl, hk3⟩
      have B0_3 : Box w3 w.heap.size #[.bool t, .int .u32 b, .int .u32 p, .int .u32 a, .int .u16 m, .int .u16 y] := B0_2.keep hk3
      have B1_3 : Box w3 (w.heap.size + 1) #[.bool t1, .int .u32 b1, .int .u32 p1, .int .u32 a1, .int .u16 m1, .int .u16 y1] := B1_2.keep hk3
      have B2_3 : Box w3 (w.heap.size + 2) #[.bool t2, .int .u32 b2, .int .u32 p2, .int .u32 a2, .int .u16 m2, .int .u16 y2] := B2_2.keep hk3
      clear c0 f0 c1 f1 c2 f2
      have c0 := B0_3.cells
      have f0 := B0_3.thawed
      have c1 := B1_3.cells
      have f1 := B1_3.thawed
      have c2 := B2_3.cells
      have f2 := B2_3.thawed
      go_wp2_with fail
      refine (sub_any _ _ _ _ _ _ _ _ _ _ _ _ _).mono ?_
      rintro e w4 ⟨rfl, hk4⟩
      have B0_4 : Box w4 w.heap.size #[.bool t, .int .u32 b, .int .u32 p, .int .u32 a, .int .u16 m, .int .u16 y] := B0_3.keep hk4
      have B1_4 : Box w4 (w.heap.size + 1) #[.bool t1, .int .u32 b1, .int .u32 p1, .int .u32 a1, .int .u16 m1, .int .u16 y1] := B1_3.keep hk4
      have B2_4 : Box w4 (w.heap.size + 2) #[.bool t2, .int .u32 b2, .int .u32 p2, .int .u32 a2, .int .u16 m2, .int .u16 y2] := B2_3.keep hk4
      clear c0 f0 c1 f1 c2 f2
      have c0 := B0_4.cells
      have f0 := B0_4.thawed
      have c1 := B1_4.cells
      have f1 := B1_4.thawed
      have c2 := B2_4.cells
      have f2 := B2_4.thawed
      go_wp2_with fail
      go_ret
      exact ⟨rfl, ((((((((Keep.refl _).alloc _).alloc _).alloc _).trans hk1).trans hk2).trans hk3).trans hk4)⟩
end Go.Proofs.YtbeeomdpdmmllaaDoor
