/- The walks of layer 2's laws: CapWalkHas. -/
import Derived.Test.YtbeeomdpdmmllaaDoorCapKnown
import Derived.Test.YtbeeomdpdmmllaaDoorCapMath
namespace Go.Proofs.YtbeeomdpdmmllaaDoor
set_option linter.unusedVariables false
set_option linter.unusedSimpArgs false
open Go.RowKit
theorem has_ends (b p x n : Int) (hn : 1 ≤ n) : hasB b p x n = (hasB b p x 1 && hasB b p (x + n - 1) 1) := by
  rw [Bool.eq_iff_iff]
  simp only [hasB, Bool.and_eq_true, decide_eq_true_eq]
  omega
set_option maxHeartbeats 1000000 in
theorem capHas_walk (t : Bool) (b p a m y : Int) (x n : Int) (hb : 0 ≤ b ∧ b ≤ 4294967295) (hp : 0 ≤ p ∧ p ≤ 4294967295) (ha : 0 ≤ a ∧ a ≤ 4294967295) (hm : 0 ≤ m ∧ m ≤ 65535) (hy : 0 ≤ y ∧ y ≤ 65535) (hx : 0 ≤ x ∧ x ≤ 4294967295) (hn : 0 ≤ n ∧ n ≤ 65535) (w : World) (hT : Tabs w) :
    Calls Tryd.prog 12 #[.agg #[.bool t, .int .u32 b, .int .u32 p, .int .u32 a, .int .u16 m, .int .u16 y], .int .u32 x, .int .u16 n] w fun e w' => e = .returned (.bool true) ∧ Keep w w' := by
  have HT := Lib.hid hT
  clear hT
  have wn : IntKind.u32.wrap n = n := IntWalk.u32_in _ (by omega)
  obtain ⟨x0, x1⟩ := hx
  obtain ⟨n0, n1⟩ := hn
  by_cases z : n = 0
  · subst z
    clear wn
    go_enter Tryd.func12, Tryd.ntmps12
    go_wp2_with fail
    refine (known_any _ (HT.out.keep ((Keep.refl _).alloc _))).mono ?_
    rintro e w1 ⟨rfl, hk1⟩
    have B0_1 : Box w1 w.heap.size #[.bool t, .int .u32 b, .int .u32 p, .int .u32 a, .int .u16 m, .int .u16 y] := (Box.new _ _ _).keep hk1
    have c0 := B0_1.cells
    have f0 := B0_1.thawed
    go_wp2_with fail
    go_ret
    exact ⟨rfl, (((Keep.refl _).alloc _).trans hk1)⟩
  · have z1 : (n == 0) = false := beq_eq_false_iff_ne.2 z
    by_cases g : 2147483648 < x
    · skip
      go_enter Tryd.func12, Tryd.ntmps12
      go_wp2_with fail
      refine (known_any _ (HT.out.keep ((Keep.refl _).alloc _))).mono ?_
      rintro e w1 ⟨rfl, hk1⟩
      have B0_1 : Box w1 w.heap.size #[.bool t, .int .u32 b, .int .u32 p, .int .u32 a, .int .u16 m, .int .u16 y] := (Box.new _ _ _).keep hk1
      have c0 := B0_1.cells
      have f0 := B0_1.thawed
      go_wp2_with fail
      go_ret
      exact ⟨rfl, (((Keep.refl _).alloc _).trans hk1)⟩
    · have he := has_ends b p x n (by omega)
      have HE := Lib.hid he
      clear he
      have n2 : 1 ≤ n := by omega
      rcases Bool.eq_false_or_eq_true (hasB b p x 1) with d1 | d1
      · have he : hasB b p x n = hasB b p (x + n - 1) 1 := by rw [HE.out, d1]; simp
        clear HE z
        go_enter Tryd.func12, Tryd.ntmps12
        go_wp2_with fail
        refine (known_any _ (HT.out.keep ((Keep.refl _).alloc _))).mono ?_
        rintro e w1 ⟨rfl, hk1⟩
        have B0_1 : Box w1 w.heap.size #[.bool t, .int .u32 b, .int .u32 p, .int .u32 a, .int .u16 m, .int .u16 y] := (Box.new _ _ _).keep hk1
        have c0 := B0_1.cells
        have f0 := B0_1.thawed
        go_wp2_with fail
        refine region_grows (Keep _) (by kernel_rfl) (by kernel_rfl) (Keep.refl _).drew ?_
        repeat (first
          | (apply text_pass (by rfl)
             go_simp)
          | (apply text_step (by rfl)
             · intro W hW
               have c0 := ((B0_1).keep hW).cells
               go_simp
               first
                | exact ⟨rfl, hW⟩
                | (rw [if_neg (by omega)]; exact ⟨rfl, hW⟩)
                | (apply yes_enter; go_at_call 33; refine (has_any _ _ _ _ _ _ _ _ ?_ ?_ ?_ ?_ _).mono ?_; (· first | assumption | omega); (· first | assumption | omega); (· first | assumption | omega); (· first | assumption | omega); rintro e w' ⟨rfl, hk⟩; exact ⟨rfl, hW.trans hk⟩)
             go_simp))
        apply text_end
        intro W hW
        go_wp2_with fail
        go_ret
        exact ⟨rfl, (((Keep.refl _).alloc _).trans hk1).trans hW⟩
      · have he : hasB b p x n = false := by rw [HE.out, d1]; simp
        clear HE z
        go_enter Tryd.func12, Tryd.ntmps12
        go_wp2_with fail
        refine (known_any _ (HT.out.keep ((Keep.refl _).alloc _))).mono ?_
        rintro e w1 ⟨rfl, hk1⟩
        have B0_1 : Box w1 w.heap.size #[.bool t, .int .u32 b, .int .u32 p, .int .u32 a, .int .u16 m, .int .u16 y] := (Box.new _ _ _).keep hk1
        have c0 := B0_1.cells
        have f0 := B0_1.thawed
        go_wp2_with fail
        refine region_grows (Keep _) (by kernel_rfl) (by kernel_rfl) (Keep.refl _).drew ?_
        repeat (first
          | (apply text_pass (by rfl)
             go_simp)
          | (apply text_step (by rfl)
             · intro W hW
               have c0 := ((B0_1).keep hW).cells
               go_simp
               first
                | exact ⟨rfl, hW⟩
                | (rw [if_neg (by omega)]; exact ⟨rfl, hW⟩)
                | (apply yes_enter; go_at_call 33; refine (has_any _ _ _ _ _ _ _ _ ?_ ?_ ?_ ?_ _).mono ?_; (· first | assumption | omega); (· first | assumption | omega); (· first | assumption | omega); (· first | assumption | omega); rintro e w' ⟨rfl, hk⟩; exact ⟨rfl, hW.trans hk⟩)
             go_simp))
        apply text_end
        intro W hW
        go_wp2_with fail
        go_ret
        exact ⟨rfl, (((Keep.refl _).alloc _).trans hk1).trans hW⟩
end Go.Proofs.YtbeeomdpdmmllaaDoor
