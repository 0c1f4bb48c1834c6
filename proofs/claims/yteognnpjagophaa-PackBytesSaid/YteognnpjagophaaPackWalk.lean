/- The walks of layer 3's laws, on what package pack answers. -/
import Derived.Test.YteognnpjagophaaPackKnown
import Derived.Test.YteognnpjagophaaCapOf
import Derived.Test.YteognnpjagophaaRefGet
import Derived.Test.YteognnpjagophaaArrEq
import Derived.Deep.RegionHeld3
import Derived.WalkSpells
namespace Go.Proofs.Yteognnpjagophaa
set_option linter.unusedVariables false
set_option linter.unusedSimpArgs false
open Go.RowKit

theorem rget_at (t : Bool) (c : Nat) (z0 z1 z2 z3 z4 z5 z6 z7 z8 z9 z10 z11 z12 z13 z14 z15 : Int) (hz0 : 0 ≤ z0 ∧ z0 ≤ 255) (hz1 : 0 ≤ z1 ∧ z1 ≤ 255) (hz2 : 0 ≤ z2 ∧ z2 ≤ 255) (hz3 : 0 ≤ z3 ∧ z3 ≤ 255) (hz4 : 0 ≤ z4 ∧ z4 ≤ 255) (hz5 : 0 ≤ z5 ∧ z5 ≤ 255) (hz6 : 0 ≤ z6 ∧ z6 ≤ 255) (hz7 : 0 ≤ z7 ∧ z7 ≤ 255) (hz8 : 0 ≤ z8 ∧ z8 ≤ 255) (hz9 : 0 ≤ z9 ∧ z9 ≤ 255) (hz10 : 0 ≤ z10 ∧ z10 ≤ 255) (hz11 : 0 ≤ z11 ∧ z11 ≤ 255) (hz12 : 0 ≤ z12 ∧ z12 ≤ 255) (hz13 : 0 ≤ z13 ∧ z13 ≤ 255) (hz14 : 0 ≤ z14 ∧ z14 ≤ 255) (hz15 : 0 ≤ z15 ∧ z15 ≤ 255) (b p a m y : Int) (eb : leW [z0, z1, z2, z3] = b) (ep : leW [z4, z5, z6, z7] = p) (ea : leW [z8, z9, z10, z11] = a) (em : leW [z12, z13] = m) (ey : leW [z14, z15] = y) (w : World) (hB : Box w c #[.int .u8 z0, .int .u8 z1, .int .u8 z2, .int .u8 z3, .int .u8 z4, .int .u8 z5, .int .u8 z6, .int .u8 z7, .int .u8 z8, .int .u8 z9, .int .u8 z10, .int .u8 z11, .int .u8 z12, .int .u8 z13, .int .u8 z14, .int .u8 z15]) :
    Calls Try.prog 11 #[.slice (some ⟨c, 0, none⟩) 16 16, .bool t] w fun e w' => e = .returned (.agg #[.bool t, .int .u32 b, .int .u32 p, .int .u32 a, .int .u16 m, .int .u16 y]) ∧ Keep w w' := by
  subst eb ep ea em ey
  exact rget_any t c 0 16 [z0, z1, z2, z3, z4, z5, z6, z7, z8, z9, z10, z11, z12, z13, z14, z15] w (cells16_box rfl (bytes16 _ _ _ _ _ _ _ _ _ _ _ _ _ _ _ _ hz0 hz1 hz2 hz3 hz4 hz5 hz6 hz7 hz8 hz9 hz10 hz11 hz12 hz13 hz14 hz15) hB) (by decide) (by decide)
theorem unput (z0 z1 z2 z3 z4 z5 z6 z7 z8 z9 z10 z11 z12 z13 z14 z15 : Int) (hz0 : 0 ≤ z0 ∧ z0 ≤ 255) (hz1 : 0 ≤ z1 ∧ z1 ≤ 255) (hz2 : 0 ≤ z2 ∧ z2 ≤ 255) (hz3 : 0 ≤ z3 ∧ z3 ≤ 255) (hz4 : 0 ≤ z4 ∧ z4 ≤ 255) (hz5 : 0 ≤ z5 ∧ z5 ≤ 255) (hz6 : 0 ≤ z6 ∧ z6 ≤ 255) (hz7 : 0 ≤ z7 ∧ z7 ≤ 255) (hz8 : 0 ≤ z8 ∧ z8 ≤ 255) (hz9 : 0 ≤ z9 ∧ z9 ≤ 255) (hz10 : 0 ≤ z10 ∧ z10 ≤ 255) (hz11 : 0 ≤ z11 ∧ z11 ≤ 255) (hz12 : 0 ≤ z12 ∧ z12 ≤ 255) (hz13 : 0 ≤ z13 ∧ z13 ≤ 255) (hz14 : 0 ≤ z14 ∧ z14 ≤ 255) (hz15 : 0 ≤ z15 ∧ z15 ≤ 255) (b p a m y : Int) (eb : leW [z0, z1, z2, z3] = b) (ep : leW [z4, z5, z6, z7] = p) (ea : leW [z8, z9, z10, z11] = a) (em : leW [z12, z13] = m) (ey : leW [z14, z15] = y) : putL b p a m y = [z0, z1, z2, z3, z4, z5, z6, z7, z8, z9, z10, z11, z12, z13, z14, z15] := by
  subst eb ep ea em ey
  unfold putL
  rw [b4_leW _ _ _ _ hz0 hz1 hz2 hz3, b4_leW _ _ _ _ hz4 hz5 hz6 hz7, b4_leW _ _ _ _ hz8 hz9 hz10 hz11, b2_leW _ _ hz12 hz13, b2_leW _ _ hz14 hz15]
  rfl
theorem leW4_in (a b c d : Int) (ha : IsByte a) (hb : IsByte b) (hc : IsByte c) (hd : IsByte d) : 0 ≤ leW [a, b, c, d] ∧ leW [a, b, c, d] ≤ 4294967295 :=
  leW_in _ fun z hz => by
    simp only [List.mem_cons, List.not_mem_nil, or_false] at hz
    rcases hz with rfl | rfl | rfl | rfl <;> assumption

set_option maxHeartbeats 2000000 in
theorem packBytes_walk (z0 z1 z2 z3 z4 z5 z6 z7 z8 z9 z10 z11 z12 z13 z14 z15 : Int) (t : Bool) (hz0 : 0 ≤ z0 ∧ z0 ≤ 255) (hz1 : 0 ≤ z1 ∧ z1 ≤ 255) (hz2 : 0 ≤ z2 ∧ z2 ≤ 255) (hz3 : 0 ≤ z3 ∧ z3 ≤ 255) (hz4 : 0 ≤ z4 ∧ z4 ≤ 255) (hz5 : 0 ≤ z5 ∧ z5 ≤ 255) (hz6 : 0 ≤ z6 ∧ z6 ≤ 255) (hz7 : 0 ≤ z7 ∧ z7 ≤ 255) (hz8 : 0 ≤ z8 ∧ z8 ≤ 255) (hz9 : 0 ≤ z9 ∧ z9 ≤ 255) (hz10 : 0 ≤ z10 ∧ z10 ≤ 255) (hz11 : 0 ≤ z11 ∧ z11 ≤ 255) (hz12 : 0 ≤ z12 ∧ z12 ≤ 255) (hz13 : 0 ≤ z13 ∧ z13 ≤ 255) (hz14 : 0 ≤ z14 ∧ z14 ≤ 255) (hz15 : 0 ≤ z15 ∧ z15 ≤ 255) (w : World) :
    Calls Try.prog 4 #[.agg #[.int .u8 z0, .int .u8 z1, .int .u8 z2, .int .u8 z3, .int .u8 z4, .int .u8 z5, .int .u8 z6, .int .u8 z7, .int .u8 z8, .int .u8 z9, .int .u8 z10, .int .u8 z11, .int .u8 z12, .int .u8 z13, .int .u8 z14, .int .u8 z15], .bool t] w fun e w' => e = .returned (.bool true) ∧ Keep w w' := by
  obtain ⟨b, eb⟩ : ∃ b, leW [z0, z1, z2, z3] = b := ⟨_, rfl⟩
  have hb := leW4_in z0 z1 z2 z3 hz0 hz1 hz2 hz3
  rw [eb] at hb
  obtain ⟨p, ep⟩ : ∃ p, leW [z4, z5, z6, z7] = p := ⟨_, rfl⟩
  have hp := leW4_in z4 z5 z6 z7 hz4 hz5 hz6 hz7
  rw [ep] at hp
  obtain ⟨a, ea⟩ : ∃ a, leW [z8, z9, z10, z11] = a := ⟨_, rfl⟩
  have ha := leW4_in z8 z9 z10 z11 hz8 hz9 hz10 hz11
  rw [ea] at ha
  obtain ⟨m, em⟩ : ∃ m, leW [z12, z13] = m := ⟨_, rfl⟩
  have hm := leW2_in z12 z13 hz12 hz13
  rw [em] at hm
  obtain ⟨y, ey⟩ : ∃ y, leW [z14, z15] = y := ⟨_, rfl⟩
  have hy := leW2_in z14 z15 hz14 hz15
  rw [ey] at hy
  have HP := Lib.hid (unput z0 z1 z2 z3 z4 z5 z6 z7 z8 z9 z10 z11 z12 z13 z14 z15 hz0 hz1 hz2 hz3 hz4 hz5 hz6 hz7 hz8 hz9 hz10 hz11 hz12 hz13 hz14 hz15 b p a m y eb ep ea em ey)
  have C1 := Lib.hid (fun w => get_at t z0 z1 z2 z3 z4 z5 z6 z7 z8 z9 z10 z11 z12 z13 z14 z15 hz0 hz1 hz2 hz3 hz4 hz5 hz6 hz7 hz8 hz9 hz10 hz11 hz12 hz13 hz14 hz15 b p a m y eb ep ea em ey w)
  have C2 := Lib.hid (fun c w hB => rget_at t c z0 z1 z2 z3 z4 z5 z6 z7 z8 z9 z10 z11 z12 z13 z14 z15 hz0 hz1 hz2 hz3 hz4 hz5 hz6 hz7 hz8 hz9 hz10 hz11 hz12 hz13 hz14 hz15 b p a m y eb ep ea em ey w hB)
  have C3 := Lib.hid (fun w => put_at t b p a m y z0 z1 z2 z3 z4 z5 z6 z7 z8 z9 z10 z11 z12 z13 z14 z15 hb hp ha hm hy HP.out w)
  clear eb ep ea em ey HP
  have hE : ∀ W, (Op.equalIn 10000 27 (.agg #[.int .u8 z0, .int .u8 z1, .int .u8 z2, .int .u8 z3, .int .u8 z4, .int .u8 z5, .int .u8 z6, .int .u8 z7, .int .u8 z8, .int .u8 z9, .int .u8 z10, .int .u8 z11, .int .u8 z12, .int .u8 z13, .int .u8 z14, .int .u8 z15]) (.agg #[.int .u8 z0, .int .u8 z1, .int .u8 z2, .int .u8 z3, .int .u8 z4, .int .u8 z5, .int .u8 z6, .int .u8 z7, .int .u8 z8, .int .u8 z9, .int .u8 z10, .int .u8 z11, .int .u8 z12, .int .u8 z13, .int .u8 z14, .int .u8 z15])).run Try.prog W = .ok true W := fun W => by
    have h := eqin16 [z0, z1, z2, z3, z4, z5, z6, z7, z8, z9, z10, z11, z12, z13, z14, z15] [z0, z1, z2, z3, z4, z5, z6, z7, z8, z9, z10, z11, z12, z13, z14, z15] rfl rfl W
    rw [beq_self_eq_true] at h
    exact h
  go_enter Try.func4, Try.ntmps4
  go_wp2_with fail
  refine (pknown_any _).mono ?_
  rintro e w1 ⟨rfl, hk1⟩
  have B0_1 : Box w1 w.heap.size #[.int .u8 z0, .int .u8 z1, .int .u8 z2, .int .u8 z3, .int .u8 z4, .int .u8 z5, .int .u8 z6, .int .u8 z7, .int .u8 z8, .int .u8 z9, .int .u8 z10, .int .u8 z11, .int .u8 z12, .int .u8 z13, .int .u8 z14, .int .u8 z15] := (Box.new _ _ _).keep hk1
  have c0 := B0_1.cells
  go_wp2_with fail
  refine (C1.out _).mono ?_
  rintro e w2 ⟨rfl, hk2⟩
  have B0_2 := B0_1.keep hk2
  clear c0
  have c0 := B0_2.cells
  have l0 := B0_2.lt
  go_wp2_with fail
  refine region_grows (Keep _) (by kernel_rfl) (by kernel_rfl) (Keep.refl _).drew ?_
  repeat (first
    | (apply text_pass (by rfl)
       go_simp)
    | (apply text_step (by rfl)
       · intro W hW
         have c0 := ((B0_2.alloc _).keep hW).cells
         have c1 := ((Box.new _ _ _).keep hW).cells
         go_simp
         first
          | exact ⟨rfl, hW⟩
          | (rw [if_neg (by omega)]; exact ⟨rfl, hW⟩)
          | (apply yes_enter; go_at_call 9; refine (of_any _ _ _ _ _ _ _).mono ?_;  rintro e w' ⟨rfl, hk⟩; exact ⟨rfl, hW.trans hk⟩)
          | (apply yes_enter; go_at_call 11; refine (C2.out _ _ ?_).mono ?_; (· exact (B0_2.alloc _).keep hW); rintro e w' ⟨rfl, hk⟩; exact ⟨rfl, hW.trans hk⟩)
          | (apply yes_enter; go_at_call 7; refine (C3.out _).mono ?_;  rintro e w' ⟨rfl, hk⟩; exact ⟨rfl, hW.trans hk⟩)
       go_simp))
  apply text_end
  intro W hW
  go_wp2_with fail
  go_ret
  exact ⟨rfl, (((((Keep.refl _).alloc _).trans hk1).trans hk2).alloc _).trans hW⟩

end Go.Proofs.Yteognnpjagophaa
