/- The walks of layer 2's laws: CapWalkAsks. -/
import Derived.Test.YtbeeomdpdmmllaaDoorCapKnown
namespace Go.Proofs.YtbeeomdpdmmllaaDoor
set_option linter.unusedVariables false
set_option linter.unusedSimpArgs false
open Go.RowKit
set_option maxHeartbeats 1000000 in
theorem capAsks_walk (t : Bool) (b p a m y : Int) (td : Bool) (bd pd ad md yd : Int) (x n : Int) (hb : 0 ≤ b ∧ b ≤ 4294967295) (hp : 0 ≤ p ∧ p ≤ 4294967295) (ha : 0 ≤ a ∧ a ≤ 4294967295) (hm : 0 ≤ m ∧ m ≤ 65535) (hy : 0 ≤ y ∧ y ≤ 65535) (hbd : 0 ≤ bd ∧ bd ≤ 4294967295) (hpd : 0 ≤ pd ∧ pd ≤ 4294967295) (had : 0 ≤ ad ∧ ad ≤ 4294967295) (hmd : 0 ≤ md ∧ md ≤ 65535) (hyd : 0 ≤ yd ∧ yd ≤ 65535) (hx : 0 ≤ x ∧ x ≤ 4294967295) (hn : 0 ≤ n ∧ n ≤ 4294967295) (w : World) (hT : Tabs w) :
    Calls Tryd.prog 5 #[.agg #[.bool t, .int .u32 b, .int .u32 p, .int .u32 a, .int .u16 m, .int .u16 y], .agg #[.bool td, .int .u32 bd, .int .u32 pd, .int .u32 ad, .int .u16 md, .int .u16 yd], .int .u32 x, .int .u32 n] w fun e w' => e = .returned (.bool true) ∧ Keep w w' := by
  have HT := Lib.hid hT
  clear hT
  obtain ⟨bN, rfl⟩ := Int.eq_ofNat_of_zero_le hb.1
  obtain ⟨pN, rfl⟩ := Int.eq_ofNat_of_zero_le hp.1
  obtain ⟨aN, rfl⟩ := Int.eq_ofNat_of_zero_le ha.1
  obtain ⟨mN, rfl⟩ := Int.eq_ofNat_of_zero_le hm.1
  obtain ⟨yN, rfl⟩ := Int.eq_ofNat_of_zero_le hy.1
  go_enter Tryd.func5, Tryd.ntmps5
  go_wp2_with fail
  refine (known_any _ (HT.out.keep (((Keep.refl _).alloc _).alloc _))).mono ?_
  rintro e w1 ⟨rfl, hk1⟩
  have B0_1 : Box w1 w.heap.size #[.bool t, .int .u32 (bN : Int), .int .u32 (pN : Int), .int .u32 (aN : Int), .int .u16 (mN : Int), .int .u16 (yN : Int)] := ((Box.new _ _ _).alloc _).keep hk1
  have B1_1 : Box w1 (w.heap.size + 1) #[.bool td, .int .u32 bd, .int .u32 pd, .int .u32 ad, .int .u16 md, .int .u16 yd] := (Box.new1 _ _ _ _).keep hk1
  have c0 := B0_1.cells
  have f0 := B0_1.thawed
  have c1 := B1_1.cells
  have f1 := B1_1.thawed
  have K1 : Hid (Keep w w1) := Lib.hid ((((Keep.refl _).alloc _).alloc _).trans hk1)
  go_wp2_with fail
  refine region_grows (Keep _) (by kernel_rfl) (by kernel_rfl) (Keep.refl _).drew ?_
  repeat (first
    | (apply text_pass (by rfl)
       go_simp)
    | (apply text_step (by rfl)
       · intro W hW
         have c0 := ((B0_1).keep hW).cells
         have c1 := ((B1_1).keep hW).cells
         go_simp
         first
          | exact ⟨rfl, hW⟩
          | (rw [if_neg (by omega)]; exact ⟨rfl, hW⟩)
          | (apply yes_enter; go_at_call 14; refine (of_any _ _ _ _ _ _ _).mono ?_;  rintro e w' ⟨rfl, hk⟩; exact ⟨rfl, hW.trans hk⟩)
          | (apply yes_enter; go_at_call 33; refine (has_any _ _ _ _ _ _ _ _ ?_ ?_ ?_ ?_ _).mono ?_; (· first | assumption | omega); (· first | assumption | omega); (· first | assumption | omega); (· first | assumption | omega); rintro e w' ⟨rfl, hk⟩; exact ⟨rfl, hW.trans hk⟩)
          | (apply yes_enter; go_at_call 34; refine (rhas_any _ _ _ _ _ _ _ _ ?_ ?_ ?_ ?_ _).mono ?_; (· first | assumption | omega); (· first | assumption | omega); (· first | assumption | omega); (· first | assumption | omega); rintro e w' ⟨rfl, hk⟩; exact ⟨rfl, hW.trans hk⟩)
          | (apply yes_enter; go_at_call 35; refine (sub_any _ _ _ _ _ _ _ _ _ _ _ _ _).mono ?_;  rintro e w' ⟨rfl, hk⟩; exact ⟨rfl, hW.trans hk⟩)
          | (apply yes_enter; go_at_call 36; refine (rsub_any _ _ _ _ _ _ _ _ _ _ _ _ _).mono ?_;  rintro e w' ⟨rfl, hk⟩; exact ⟨rfl, hW.trans hk⟩)
          | (apply yes_enter; go_at_call 37; refine (capText_any _ _ _ _ _ _ ?_ ?_ ?_ ?_ ?_ _ ?_).mono ?_; (· omega); (· omega); (· omega); (· omega); (· omega); (· exact HT.out.keep (K1.out.trans hW)); rintro e w' ⟨rfl, hk⟩; exact ⟨rfl, hW.trans hk⟩)
          | (apply yes_enter; go_at_call 38; refine (capTextRef_any _ _ _ _ _ _ ?_ ?_ ?_ ?_ ?_ _ ?_).mono ?_; (· omega); (· omega); (· omega); (· omega); (· omega); (· exact HT.out.keep (K1.out.trans hW)); rintro e w' ⟨rfl, hk⟩; exact ⟨rfl, hW.trans hk⟩)
       go_simp))
  apply text_end
  intro W hW
  go_wp2_with fail
  go_ret
  exact ⟨rfl, K1.out.trans hW⟩
end Go.Proofs.YtbeeomdpdmmllaaDoor
