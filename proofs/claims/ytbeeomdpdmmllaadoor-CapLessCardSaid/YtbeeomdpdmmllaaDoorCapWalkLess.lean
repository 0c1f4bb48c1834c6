/- The walks of layer 2's laws: CapWalkLess. -/
import Derived.Test.YtbeeomdpdmmllaaDoorCapKnown
import Derived.Test.YtbeeomdpdmmllaaDoorCapMath
namespace Go.Proofs.YtbeeomdpdmmllaaDoor
set_option linter.unusedVariables false
set_option linter.unusedSimpArgs false
open Go.RowKit
set_option maxHeartbeats 1000000 in
theorem capLess_walk (t : Bool) (b p a m y : Int) (tk : Bool) (bk pk ak mk yk : Int) (x q : Int) (hb : 0 ≤ b ∧ b ≤ 4294967295) (hp : 0 ≤ p ∧ p ≤ 4294967295) (ha : 0 ≤ a ∧ a ≤ 4294967295) (hm : 0 ≤ m ∧ m ≤ 65535) (hy : 0 ≤ y ∧ y ≤ 65535) (hbk : 0 ≤ bk ∧ bk ≤ 4294967295) (hpk : 0 ≤ pk ∧ pk ≤ 4294967295) (hak : 0 ≤ ak ∧ ak ≤ 4294967295) (hmk : 0 ≤ mk ∧ mk ≤ 65535) (hyk : 0 ≤ yk ∧ yk ≤ 65535) (hx : 0 ≤ x ∧ x ≤ 4294967295) (hq : 0 ≤ q ∧ q ≤ 65535) (w : World) (hT : Tabs w) :
    Calls Tryd.prog 6 #[.agg #[.bool t, .int .u32 b, .int .u32 p, .int .u32 a, .int .u16 m, .int .u16 y], .agg #[.bool tk, .int .u32 bk, .int .u32 pk, .int .u32 ak, .int .u16 mk, .int .u16 yk], .int .u32 x, .int .u16 q] w fun e w' => e = .returned (.bool true) ∧ Keep w w' := by
  have HT := Lib.hid hT
  clear hT
  have hmq := and_in m q hm hq
  have wq : IntKind.u32.wrap q = q := IntWalk.u32_in _ (by omega)
  have Q : (tagOpen t y = true → t = true ∧ subB b p m b p m = true) ∧ (tagBounds t b p a y x = true → t = true ∧ subB a ((a + x) % 4294967296) m b p m = true) ∧ (tagOpen t y = true → t = true ∧ subB b p (bits .and .u16 m q) b p m = true) ∧
      (tagEnter t m y = true → t = true ∧ subB b p m b p m = true) ∧ (sealTag t y tk bk pk ak mk yk = true → t = true ∧ subB b p m b p m = true) ∧ (openTag t y tk bk pk ak mk yk = true → t = true ∧ subB b p m b p m = true) ∧
      (tagBounds (tagOpen (tagOpen t y) y) b p x y q = true → t = true ∧ subB x ((x + q) % 4294967296) (bits .and .u16 m q) b p m = true) := by
    refine ⟨fun h => ⟨(tagOpen_iff.1 h).1, sub_same b p m hm⟩, fun h => ?_, fun h => ⟨(tagOpen_iff.1 h).1, (sub_iff _ _ _ _ _ _ hmq hm).2 ⟨Int.le_refl _, Int.le_refl _, and_within m q hm hq⟩⟩, fun h => ?_, fun h => ?_, fun h => ?_, fun h => ?_⟩
    · obtain ⟨h1, h2, _⟩ := tagBounds_iff.1 h
      exact ⟨h1, (sub_iff _ _ _ _ _ _ hm hm).2 ⟨h2.1, by omega, Within.refl _⟩⟩
    · simp only [tagEnter, Bool.and_eq_true] at h
      exact ⟨h.1.1, sub_same b p m hm⟩
    · simp only [sealTag, Bool.and_eq_true] at h
      exact ⟨h.1, sub_same b p m hm⟩
    · simp only [openTag, Bool.and_eq_true] at h
      exact ⟨h.1, sub_same b p m hm⟩
    · obtain ⟨h1, h2, _⟩ := tagBounds_iff.1 h
      rw [tagOpen_twice] at h1
      exact ⟨(tagOpen_iff.1 h1).1, (sub_iff _ _ _ _ _ _ hmq hm).2 ⟨h2.1, by omega, and_within m q hm hq⟩⟩
  have HQ := Lib.hid Q
  clear Q
  have r0 := fld0
  go_enter Tryd.func6, Tryd.ntmps6
  go_wp2_with fail
  refine (known_any _ (HT.out.keep (((Keep.refl _).alloc _).alloc _))).mono ?_
  rintro e w1 ⟨rfl, hk1⟩
  have B0_1 : Box w1 w.heap.size #[.bool t, .int .u32 b, .int .u32 p, .int .u32 a, .int .u16 m, .int .u16 y] := ((Box.new _ _ _).alloc _).keep hk1
  have B1_1 : Box w1 (w.heap.size + 1) #[.bool tk, .int .u32 bk, .int .u32 pk, .int .u32 ak, .int .u16 mk, .int .u16 yk] := (Box.new1 _ _ _ _).keep hk1
  have c0 := B0_1.cells
  have f0 := B0_1.thawed
  have c1 := B1_1.cells
  have f1 := B1_1.thawed
  go_wp2_with fail
  refine region_grows (Keep _) (by kernel_rfl) (by kernel_rfl) (Keep.refl _).drew ?_
  repeat (first
    | (apply text_pass (by rfl)
       go_simp)
    | (apply text_step (by rfl)
       · intro W hW
         have c0 := ((B0_1).keep hW).cells
         have c1 := ((B1_1).keep hW).cells
         go_simp
         first
          | exact ⟨rfl, hW⟩
          | (rw [if_neg (by omega)]; exact ⟨rfl, hW⟩)
          | (apply yes_enter; go_at_call 39; refine (less_yes _ _ _ _ _ _ _ _ _ _ _ _ ?_ _).mono ?_; (· first | exact HQ.out.1 | exact HQ.out.2.1 | exact HQ.out.2.2.1 | exact HQ.out.2.2.2.1 | exact HQ.out.2.2.2.2.1 | exact HQ.out.2.2.2.2.2.1 | exact HQ.out.2.2.2.2.2.2); rintro e w' ⟨rfl, hk⟩; exact ⟨rfl, hW.trans hk⟩)
          | (apply yes_enter; go_at_call 15; refine (setAddr_any _ _ _ _ _ _ _ ?_ ?_ ?_ ?_ _).mono ?_; (· first | assumption | omega); (· first | assumption | omega); (· first | assumption | omega); (· first | assumption | omega); rintro e w' ⟨rfl, hk⟩; exact ⟨rfl, hW.trans hk⟩)
          | (apply yes_enter; go_at_call 17; refine (bounds_any _ _ _ _ _ _ _ ?_ ?_ ?_ ?_ ?_ _).mono ?_; (· first | assumption | omega); (· first | assumption | omega); (· first | assumption | omega); (· first | assumption | omega); (· first | assumption | omega); rintro e w' ⟨rfl, hk⟩; exact ⟨rfl, hW.trans hk⟩)
          | (apply yes_enter; go_at_call 19; refine (andPerm_any _ _ _ _ _ _ _ ?_ ?_ ?_ ?_ ?_ _).mono ?_; (· first | assumption | omega); (· first | assumption | omega); (· first | assumption | omega); (· first | assumption | omega); (· first | assumption | omega); rintro e w' ⟨rfl, hk⟩; exact ⟨rfl, hW.trans hk⟩)
          | (apply yes_enter; go_at_call 23; refine (enter_any _ _ _ _ _ _ ?_ ?_ ?_ ?_ _).mono ?_; (· first | assumption | omega); (· first | assumption | omega); (· first | assumption | omega); (· first | assumption | omega); rintro e w' ⟨rfl, hk⟩; exact ⟨rfl, hW.trans hk⟩)
          | (apply yes_enter; go_at_call 29; refine (seal_any _ _ _ _ _ _ _ _ _ _ _ _ ?_ ?_ ?_ ?_ ?_ ?_ ?_ ?_ _).mono ?_; (· first | assumption | omega); (· first | assumption | omega); (· first | assumption | omega); (· first | assumption | omega); (· first | assumption | omega); (· first | assumption | omega); (· first | assumption | omega); (· first | assumption | omega); rintro e w' ⟨rfl, hk⟩; exact ⟨rfl, hW.trans hk⟩)
          | (apply yes_enter; go_at_call 31; refine (unseal_any _ _ _ _ _ _ _ _ _ _ _ _ ?_ ?_ ?_ ?_ ?_ ?_ ?_ ?_ _).mono ?_; (· first | assumption | omega); (· first | assumption | omega); (· first | assumption | omega); (· first | assumption | omega); (· first | assumption | omega); (· first | assumption | omega); (· first | assumption | omega); (· first | assumption | omega); rintro e w' ⟨rfl, hk⟩; exact ⟨rfl, hW.trans hk⟩)
          | (apply yes_enter; go_at_call 21; refine (clear_any _ _ _ _ _ _ _).mono ?_;  rintro e w' ⟨rfl, hk⟩; exact ⟨rfl, hW.trans hk⟩)
       go_simp))
  apply text_end
  intro W hW
  go_wp2_with fail
  go_ret
  exact ⟨rfl, ((((Keep.refl _).alloc _).alloc _).trans hk1).trans hW⟩
end Go.Proofs.YtbeeomdpdmmllaaDoor
