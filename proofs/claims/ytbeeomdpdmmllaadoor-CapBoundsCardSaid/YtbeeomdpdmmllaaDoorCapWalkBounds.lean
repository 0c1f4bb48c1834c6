/- The walks of layer 2's laws: CapWalkBounds. -/
import Derived.Test.YtbeeomdpdmmllaaDoorCapKnown
import Derived.Test.YtbeeomdpdmmllaaDoorCapMath
namespace Go.Proofs.YtbeeomdpdmmllaaDoor
set_option linter.unusedVariables false
set_option linter.unusedSimpArgs false
open Go.RowKit
set_option maxHeartbeats 1000000 in
theorem capBounds_walk (t : Bool) (b p a m y : Int) (x n : Int) (hb : 0 ≤ b ∧ b ≤ 4294967295) (hp : 0 ≤ p ∧ p ≤ 4294967295) (ha : 0 ≤ a ∧ a ≤ 4294967295) (hm : 0 ≤ m ∧ m ≤ 65535) (hy : 0 ≤ y ∧ y ≤ 65535) (hx : 0 ≤ x ∧ x ≤ 4294967295) (hn : 0 ≤ n ∧ n ≤ 4294967295) (w : World) (hT : Tabs w) :
    Calls Tryd.prog 9 #[.agg #[.bool t, .int .u32 b, .int .u32 p, .int .u32 a, .int .u16 m, .int .u16 y], .int .u32 x, .int .u32 n] w fun e w' => e = .returned (.bool true) ∧ Keep w w' := by
  have HT := Lib.hid hT
  clear hT
  obtain ⟨x0, x1⟩ := hx
  obtain ⟨n0, n1⟩ := hn
  cases t
  · skip
    go_enter Tryd.func9, Tryd.ntmps9
    go_wp2_with fail
    refine (known_any _ (HT.out.keep ((Keep.refl _).alloc _))).mono ?_
    rintro e w1 ⟨rfl, hk1⟩
    have B0_1 : Box w1 w.heap.size #[.bool false, .int .u32 b, .int .u32 p, .int .u32 a, .int .u16 m, .int .u16 y] := (Box.new _ _ _).keep hk1
    have c0 := B0_1.cells
    have f0 := B0_1.thawed
    go_wp2_with fail
    go_ret
    exact ⟨rfl, (((Keep.refl _).alloc _).trans hk1)⟩
  · by_cases z : y = 0
    · subst z
      have T1 : tagOpen true 0 = true := rfl
      have HB : hasB b p x n = (decide (b ≤ x) && decide (x + n ≤ p)) := rfl
      have HT2 : tagBounds true b p x 0 n = hasB b p x n := by simp [tagBounds]
      rw [HB] at HT2
      clear HB
      by_cases g1 : b ≤ x
      · by_cases g2 : x + n ≤ p
        · skip
          have HT3 : tagBounds true b p x 0 n = true := by rw [HT2]; simp [g1, g2]
          have HS : subB x ((x + n) % 4294967296) m b p m = true := (sub_iff _ _ _ _ _ _ hm hm).2 ⟨g1, by omega, Within.refl _⟩
          have e1 : (x + n) % 4294967296 = x + n := by omega
          rw [e1] at HS
          have wv : IntKind.u32.wrap (x + n) = x + n := IntWalk.u32_in _ (by omega)
          clear HT2
          go_enter Tryd.func9, Tryd.ntmps9
          go_wp2_with fail
          refine (known_any _ (HT.out.keep ((Keep.refl _).alloc _))).mono ?_
          rintro e w1 ⟨rfl, hk1⟩
          have B0_1 : Box w1 w.heap.size #[.bool true, .int .u32 b, .int .u32 p, .int .u32 a, .int .u16 m, .int .u16 0] := (Box.new _ _ _).keep hk1
          have c0 := B0_1.cells
          have f0 := B0_1.thawed
          go_wp2_with fail
          refine (setAddr_any _ _ _ _ _ _ x hb hp ha hm _).mono ?_
          rintro e w2 ⟨rfl, hk2⟩
          have B0_2 : Box w2 w.heap.size #[.bool true, .int .u32 b, .int .u32 p, .int .u32 a, .int .u16 m, .int .u16 0] := B0_1.keep hk2
          clear c0 f0
          have c0 := B0_2.cells
          have f0 := B0_2.thawed
          go_wp2_with fail
          refine (bounds_any _ _ _ _ _ _ n hb hp ⟨x0, x1⟩ hm ⟨n0, n1⟩ _).mono ?_
          rintro e w3 ⟨rfl, hk3⟩
          have B0_3 : Box w3 w.heap.size #[.bool true, .int .u32 b, .int .u32 p, .int .u32 a, .int .u16 m, .int .u16 0] := B0_2.keep hk3
          clear c0 f0
          have c0 := B0_3.cells
          have f0 := B0_3.thawed
          have l0 := B0_3.lt
          go_wp2_with fail
          refine region_grows (Keep _) (by kernel_rfl) (by kernel_rfl) (Keep.refl _).drew ?_
          repeat (first
            | (apply text_pass (by rfl)
               go_simp)
            | (apply text_step (by rfl)
               · intro W hW
                 have c0 := ((B0_3.alloc _).keep hW).cells
                 have c1 := ((Box.new _ _ _).keep hW).cells
                 go_simp
                 first
                  | exact ⟨rfl, hW⟩
                  | (rw [if_neg (by omega)]; exact ⟨rfl, hW⟩)
                  | (apply yes_enter; go_at_call 14; refine (of_any _ _ _ _ _ _ _).mono ?_;  rintro e w' ⟨rfl, hk⟩; exact ⟨rfl, hW.trans hk⟩)
                  | (apply yes_enter; go_at_call 36; refine (rsub_any _ _ _ _ _ _ _ _ _ _ _ _ _).mono ?_;  rintro e w' ⟨rfl, hk⟩; exact ⟨rfl, hW.trans hk⟩)
               go_simp))
          apply text_end
          intro W hW
          go_wp2_with fail
          go_ret
          exact ⟨rfl, ((((((Keep.refl _).alloc _).trans hk1).trans hk2).trans hk3).alloc _).trans hW⟩
        · skip
          have HT3 : tagBounds true b p x 0 n = false := by rw [HT2]; simp [g2]
          have wv : IntKind.u32.wrap (x + n) = (x + n) % 4294967296 := IntKind.wrap_u32 _
          have q1 : decide (x + n ≤ p) = false := decide_eq_false g2
          have q2 : p < x + n := by omega
          clear HT2
          go_enter Tryd.func9, Tryd.ntmps9
          go_wp2_with fail
          refine (known_any _ (HT.out.keep ((Keep.refl _).alloc _))).mono ?_
          rintro e w1 ⟨rfl, hk1⟩
          have B0_1 : Box w1 w.heap.size #[.bool true, .int .u32 b, .int .u32 p, .int .u32 a, .int .u16 m, .int .u16 0] := (Box.new _ _ _).keep hk1
          have c0 := B0_1.cells
          have f0 := B0_1.thawed
          go_wp2_with fail
          refine (setAddr_any _ _ _ _ _ _ x hb hp ha hm _).mono ?_
          rintro e w2 ⟨rfl, hk2⟩
          have B0_2 : Box w2 w.heap.size #[.bool true, .int .u32 b, .int .u32 p, .int .u32 a, .int .u16 m, .int .u16 0] := B0_1.keep hk2
          clear c0 f0
          have c0 := B0_2.cells
          have f0 := B0_2.thawed
          go_wp2_with fail
          refine (bounds_any _ _ _ _ _ _ n hb hp ⟨x0, x1⟩ hm ⟨n0, n1⟩ _).mono ?_
          rintro e w3 ⟨rfl, hk3⟩
          have B0_3 : Box w3 w.heap.size #[.bool true, .int .u32 b, .int .u32 p, .int .u32 a, .int .u16 m, .int .u16 0] := B0_2.keep hk3
          clear c0 f0
          have c0 := B0_3.cells
          have f0 := B0_3.thawed
          have l0 := B0_3.lt
          go_wp2_with fail
          refine region_grows (Keep _) (by kernel_rfl) (by kernel_rfl) (Keep.refl _).drew ?_
          repeat (first
            | (apply text_pass (by rfl)
               go_simp)
            | (apply text_step (by rfl)
               · intro W hW
                 have c0 := ((B0_3.alloc _).keep hW).cells
                 have c1 := ((Box.new _ _ _).keep hW).cells
                 go_simp
                 first
                  | exact ⟨rfl, hW⟩
                  | (rw [if_neg (by omega)]; exact ⟨rfl, hW⟩)
                  | (apply yes_enter; go_at_call 14; refine (of_any _ _ _ _ _ _ _).mono ?_;  rintro e w' ⟨rfl, hk⟩; exact ⟨rfl, hW.trans hk⟩)
                  | (apply yes_enter; go_at_call 36; refine (rsub_any _ _ _ _ _ _ _ _ _ _ _ _ _).mono ?_;  rintro e w' ⟨rfl, hk⟩; exact ⟨rfl, hW.trans hk⟩)
               go_simp))
          apply text_end
          intro W hW
          go_wp2_with fail
          go_ret
          exact ⟨rfl, ((((((Keep.refl _).alloc _).trans hk1).trans hk2).trans hk3).alloc _).trans hW⟩
      · skip
        have HT3 : tagBounds true b p x 0 n = false := by rw [HT2]; simp [g1]
        have wv : IntKind.u32.wrap (x + n) = (x + n) % 4294967296 := IntKind.wrap_u32 _
        have q1 : decide (b ≤ x) = false := decide_eq_false g1
        have q2 : x < b := by omega
        clear HT2
        go_enter Tryd.func9, Tryd.ntmps9
        go_wp2_with fail
        refine (known_any _ (HT.out.keep ((Keep.refl _).alloc _))).mono ?_
        rintro e w1 ⟨rfl, hk1⟩
        have B0_1 : Box w1 w.heap.size #[.bool true, .int .u32 b, .int .u32 p, .int .u32 a, .int .u16 m, .int .u16 0] := (Box.new _ _ _).keep hk1
        have c0 := B0_1.cells
        have f0 := B0_1.thawed
        go_wp2_with fail
        refine (setAddr_any _ _ _ _ _ _ x hb hp ha hm _).mono ?_
        rintro e w2 ⟨rfl, hk2⟩
        have B0_2 : Box w2 w.heap.size #[.bool true, .int .u32 b, .int .u32 p, .int .u32 a, .int .u16 m, .int .u16 0] := B0_1.keep hk2
        clear c0 f0
        have c0 := B0_2.cells
        have f0 := B0_2.thawed
        go_wp2_with fail
        refine (bounds_any _ _ _ _ _ _ n hb hp ⟨x0, x1⟩ hm ⟨n0, n1⟩ _).mono ?_
        rintro e w3 ⟨rfl, hk3⟩
        have B0_3 : Box w3 w.heap.size #[.bool true, .int .u32 b, .int .u32 p, .int .u32 a, .int .u16 m, .int .u16 0] := B0_2.keep hk3
        clear c0 f0
        have c0 := B0_3.cells
        have f0 := B0_3.thawed
        have l0 := B0_3.lt
        go_wp2_with fail
        refine region_grows (Keep _) (by kernel_rfl) (by kernel_rfl) (Keep.refl _).drew ?_
        repeat (first
          | (apply text_pass (by rfl)
             go_simp)
          | (apply text_step (by rfl)
             · intro W hW
               have c0 := ((B0_3.alloc _).keep hW).cells
               have c1 := ((Box.new _ _ _).keep hW).cells
               go_simp
               first
                | exact ⟨rfl, hW⟩
                | (rw [if_neg (by omega)]; exact ⟨rfl, hW⟩)
                | (apply yes_enter; go_at_call 14; refine (of_any _ _ _ _ _ _ _).mono ?_;  rintro e w' ⟨rfl, hk⟩; exact ⟨rfl, hW.trans hk⟩)
                | (apply yes_enter; go_at_call 36; refine (rsub_any _ _ _ _ _ _ _ _ _ _ _ _ _).mono ?_;  rintro e w' ⟨rfl, hk⟩; exact ⟨rfl, hW.trans hk⟩)
             go_simp))
        apply text_end
        intro W hW
        go_wp2_with fail
        go_ret
        exact ⟨rfl, ((((((Keep.refl _).alloc _).trans hk1).trans hk2).trans hk3).alloc _).trans hW⟩
    · have z1 : (y == 0) = false := beq_eq_false_iff_ne.2 z
      have z2 : (y != 0) = true := by rw [bne, z1]; rfl
      go_enter Tryd.func9, Tryd.ntmps9
      go_wp2_with fail
      refine (known_any _ (HT.out.keep ((Keep.refl _).alloc _))).mono ?_
      rintro e w1 ⟨rfl, hk1⟩
      have B0_1 : Box w1 w.heap.size #[.bool true, .int .u32 b, .int .u32 p, .int .u32 a, .int .u16 m, .int .u16 y] := (Box.new _ _ _).keep hk1
      have c0 := B0_1.cells
      have f0 := B0_1.thawed
      go_wp2_with fail
      go_ret
      exact ⟨rfl, (((Keep.refl _).alloc _).trans hk1)⟩
end Go.Proofs.YtbeeomdpdmmllaaDoor
