/- AccessCheck's walk. -/
import Derived.Test.YtgfoohiaioojoaaDoorAccKnown
namespace Go.Proofs.YtgfoohiaioojoaaDoor
set_option linter.unusedVariables false
set_option linter.unusedSimpArgs false
open Go.RowKit
set_option maxRecDepth 100000 in
set_option maxHeartbeats 2000000 in
theorem accessCheck_walk (t : Bool) (b p a m y x n q : Int) {W : World} (hb : 0 ≤ b ∧ b ≤ 4294967295) (hp : 0 ≤ p ∧ p ≤ 4294967295) (ha : 0 ≤ a ∧ a ≤ 4294967295) (hm : 0 ≤ m ∧ m ≤ 65535) (hy : 0 ≤ y ∧ y ≤ 65535) (hx : 0 ≤ x ∧ x ≤ 4294967295) (hn : 0 ≤ n ∧ n ≤ 4294967295) (hq : 0 ≤ q ∧ q ≤ 65535) (hE : ErrT W) :
    Calls Tryd.prog 3 #[.agg #[.bool t, .int .u32 b, .int .u32 p, .int .u32 a, .int .u16 m, .int .u16 y], .int .u32 x, .int .u32 n, .int .u16 q] W fun e W' => e = .returned (.bool true) ∧ Keep W W' := by
  have HE := Lib.hid hE
  clear hE
  go_enter Tryd.func3, Tryd.ntmps3
  go_wp2_with fail
  refine (aknown_any _ (HE.out.keep ((Keep.refl _).alloc _))).mono ?_
  rintro e w1 ⟨rfl, hk1⟩
  have BC1 : Box w1 W.heap.size #[.bool t, .int .u32 b, .int .u32 p, .int .u32 a, .int .u16 m, .int .u16 y] := (Box.new _ _ _).keep hk1
  have K1 := Lib.hid (((Keep.refl _).alloc _).trans hk1)
  clear hk1
  go_wp2_with fail
  have CA := Lib.hid (fun W => check_any t b p a m y x n q hb hp hx hn W)
  have CR := Lib.hid (fun W => rcheck_any t b p a m y x n q hb hp hx hn W)
  obtain ⟨EV, hEV⟩ : ∃ EV, EV = errV accessT x (lackN t b p m y x n q) := ⟨_, rfl⟩
  rw [← hEV] at CA CR
  clear hEV
  refine Rel.regionO Keep Rel.Way.ofKeep [4, 11] [0, 1, 2, 3, 5, 7, 8, 9, 4, 6, 10, 11, 12] (by kernel_rfl) (by kernel_rfl) (Keep.refl _) ?_
  repeat (apply Rel.ordK_step (by rfl) (by rfl) (by rfl)
          · intro W' hW'
            have c0 := (BC1.keep hW').cells
            go_simp
            exact ⟨rfl, Keep.refl _⟩
          go_simp)
  apply Rel.ordK_loose (by rfl) (by rfl) (by rfl)
  intro W1 hW1
  go_simp
  apply Rel.gives_enter
  go_at_call 11
  refine (CA.out W1).mono ?_
  rintro e w2 ⟨v, rfl, hv, hk2⟩
  refine ⟨v, rfl, hk2, ?_⟩
  have HV := Lib.hid hv
  have K2 := Lib.hid ((K1.out.trans hW1).trans hk2)
  clear hv hk2 hW1 BC1 K1 CA
  go_simp
  repeat (apply Rel.ordK_step (by rfl) (by rfl) (by rfl)
          · intro W' hW'
            go_simp
            first
              | (apply yes_enter; go_at_call 13; refine (of_any _ _ _ _ _ _ _).mono ?_; rintro e w' ⟨rfl, hk⟩; exact ⟨rfl, hk⟩)
              | (apply yes_enter; go_at_call 12; refine (CR.out _).mono ?_; rintro e w' ⟨rfl, hk⟩; exact ⟨rfl, hk⟩)
          go_simp)
  apply Rel.ordK_loose (by rfl) (by rfl) (by rfl)
  intro W3 hW3
  go_simp
  apply Rel.gives_enter
  go_at_call 10
  refine (tells_any v EV W3 (HV.out.keep hW3) (HE.out.keep (K2.out.trans hW3))).mono ?_
  rintro e w4 ⟨rfl, hk4⟩
  refine ⟨_, rfl, hk4, ?_⟩
  have K4 := Lib.hid ((K2.out.trans hW3).trans hk4)
  clear HV hW3 hk4 K2
  go_simp
  repeat (apply Rel.ordK_step (by rfl) (by rfl) (by rfl)
          · intro W' hW'
            go_simp
            exact ⟨rfl, Keep.refl _⟩
          go_simp)
  apply Rel.ordK_end
  intro W5 hW5
  have K5 := Lib.hid (K4.out.trans hW5)
  clear hW5 K4
  go_wp2_with fail
  go_ret
  exact ⟨rfl, K5.out⟩
end Go.Proofs.YtgfoohiaioojoaaDoor
