/- PackSame's walk. -/
import Derived.Test.YteognnpjagophaaPackKnown
import Derived.Test.YteognnpjagophaaArrEq
import Derived.Test.YteognnpjagophaaCapEq
import Derived.Test.YteognnpjagophaaGrow
namespace Go.Proofs.Yteognnpjagophaa
set_option linter.unusedVariables false
set_option linter.unusedSimpArgs false
open Go.RowKit

theorem putL_same (b p a m y b1 p1 a1 m1 y1 : Int) (hb : 0 ≤ b ∧ b ≤ 4294967295) (hp : 0 ≤ p ∧ p ≤ 4294967295) (ha : 0 ≤ a ∧ a ≤ 4294967295) (hm : 0 ≤ m ∧ m ≤ 65535) (hy : 0 ≤ y ∧ y ≤ 65535) (hb1 : 0 ≤ b1 ∧ b1 ≤ 4294967295) (hp1 : 0 ≤ p1 ∧ p1 ≤ 4294967295) (ha1 : 0 ≤ a1 ∧ a1 ≤ 4294967295) (hm1 : 0 ≤ m1 ∧ m1 ≤ 65535) (hy1 : 0 ≤ y1 ∧ y1 ≤ 65535) :
    (putL b p a m y == putL b1 p1 a1 m1 y1) = ((b == b1) && ((p == p1) && ((a == a1) && ((m == m1) && (y == y1))))) := by
  rw [Bool.eq_iff_iff]
  simp only [Bool.and_eq_true, beq_iff_eq]
  constructor
  · intro h
    have f : ∀ n, ((putL b p a m y).drop n) = ((putL b1 p1 a1 m1 y1).drop n) := fun n => by rw [h]
    have g : ∀ n k, (((putL b p a m y).drop n).take k) = (((putL b1 p1 a1 m1 y1).drop n).take k) := fun n k => by rw [h]
    have e1 : b4 b = b4 b1 := g 0 4
    have e2 : b4 p = b4 p1 := g 4 4
    have e3 : b4 a = b4 a1 := g 8 4
    have e4 : b2 m = b2 m1 := g 12 2
    have e5 : b2 y = b2 y1 := g 14 2
    refine ⟨?_, ?_, ?_, ?_, ?_⟩
    · rw [← leW_b4 b hb, ← leW_b4 b1 hb1, e1]
    · rw [← leW_b4 p hp, ← leW_b4 p1 hp1, e2]
    · rw [← leW_b4 a ha, ← leW_b4 a1 ha1, e3]
    · rw [← leW_b2 m hm, ← leW_b2 m1 hm1, e4]
    · rw [← leW_b2 y hy, ← leW_b2 y1 hy1, e5]
  · rintro ⟨rfl, rfl, rfl, rfl, rfl⟩
    rfl
theorem names16 (l : List Int) (h : l.length = 16) : ∃ z0 z1 z2 z3 z4 z5 z6 z7 z8 z9 z10 z11 z12 z13 z14 z15 : Int, l = [z0, z1, z2, z3, z4, z5, z6, z7, z8, z9, z10, z11, z12, z13, z14, z15] := by
  match l, h with
  | [z0, z1, z2, z3, z4, z5, z6, z7, z8, z9, z10, z11, z12, z13, z14, z15], _ => exact ⟨_, _, _, _, _, _, _, _, _, _, _, _, _, _, _, _, rfl⟩

set_option maxHeartbeats 2000000 in
theorem packSame_walk (t : Bool) (b p a m y : Int) (t1 : Bool) (b1 p1 a1 m1 y1 : Int) (hb : 0 ≤ b ∧ b ≤ 4294967295) (hp : 0 ≤ p ∧ p ≤ 4294967295) (ha : 0 ≤ a ∧ a ≤ 4294967295) (hm : 0 ≤ m ∧ m ≤ 65535) (hy : 0 ≤ y ∧ y ≤ 65535) (hb1 : 0 ≤ b1 ∧ b1 ≤ 4294967295) (hp1 : 0 ≤ p1 ∧ p1 ≤ 4294967295) (ha1 : 0 ≤ a1 ∧ a1 ≤ 4294967295) (hm1 : 0 ≤ m1 ∧ m1 ≤ 65535) (hy1 : 0 ≤ y1 ∧ y1 ≤ 65535) (w : World) :
    Calls Try.prog 5 #[.agg #[.bool t, .int .u32 b, .int .u32 p, .int .u32 a, .int .u16 m, .int .u16 y], .agg #[.bool t1, .int .u32 b1, .int .u32 p1, .int .u32 a1, .int .u16 m1, .int .u16 y1]] w fun e w' => e = .returned (.bool true) ∧ Keep w w' := by
  obtain ⟨z0, z1, z2, z3, z4, z5, z6, z7, z8, z9, z10, z11, z12, z13, z14, z15, hz⟩ := names16 (putL b p a m y) rfl
  obtain ⟨u0, u1, u2, u3, u4, u5, u6, u7, u8, u9, u10, u11, u12, u13, u14, u15, hu⟩ := names16 (putL b1 p1 a1 m1 y1) rfl
  have hE := putL_same b p a m y b1 p1 a1 m1 y1 hb hp ha hm hy hb1 hp1 ha1 hm1 hy1
  obtain ⟨E, hEE⟩ : ∃ E, E = ((b == b1) && ((p == p1) && ((a == a1) && ((m == m1) && (y == y1))))) := ⟨_, rfl⟩
  rw [← hEE, hz, hu] at hE
  have R1 : ∀ W, (Op.equalIn 10000 27 (.agg #[.int .u8 z0, .int .u8 z1, .int .u8 z2, .int .u8 z3, .int .u8 z4, .int .u8 z5, .int .u8 z6, .int .u8 z7, .int .u8 z8, .int .u8 z9, .int .u8 z10, .int .u8 z11, .int .u8 z12, .int .u8 z13, .int .u8 z14, .int .u8 z15]) (.agg #[.int .u8 u0, .int .u8 u1, .int .u8 u2, .int .u8 u3, .int .u8 u4, .int .u8 u5, .int .u8 u6, .int .u8 u7, .int .u8 u8, .int .u8 u9, .int .u8 u10, .int .u8 u11, .int .u8 u12, .int .u8 u13, .int .u8 u14, .int .u8 u15])).run Try.prog W = .ok E W := fun W => by rw [← hE]; exact eqin16 [z0, z1, z2, z3, z4, z5, z6, z7, z8, z9, z10, z11, z12, z13, z14, z15] [u0, u1, u2, u3, u4, u5, u6, u7, u8, u9, u10, u11, u12, u13, u14, u15] rfl rfl W
  have R2 : ∀ W, (Op.equalIn 10000 25 (.agg #[.bool t1, .int .u32 b, .int .u32 p, .int .u32 a, .int .u16 m, .int .u16 y]) (.agg #[.bool t1, .int .u32 b1, .int .u32 p1, .int .u32 a1, .int .u16 m1, .int .u16 y1])).run Try.prog W = .ok E W := fun W => by rw [hEE]; exact eqin_cap t1 b p a m y b1 p1 a1 m1 y1 W
  have C1 := Lib.hid (fun w => put_at t b p a m y z0 z1 z2 z3 z4 z5 z6 z7 z8 z9 z10 z11 z12 z13 z14 z15 hb hp ha hm hy hz w)
  have C2 := Lib.hid (fun w => put_at t1 b1 p1 a1 m1 y1 u0 u1 u2 u3 u4 u5 u6 u7 u8 u9 u10 u11 u12 u13 u14 u15 hb1 hp1 ha1 hm1 hy1 hu w)
  clear hz hu hE hEE
  go_enter Try.func5, Try.ntmps5
  go_wp2_with fail
  refine (pknown_any _).mono ?_
  rintro e w1 ⟨rfl, hk1⟩
  have B0_1 : Box w1 w.heap.size #[.bool t, .int .u32 b, .int .u32 p, .int .u32 a, .int .u16 m, .int .u16 y] := ((Box.new _ _ _).alloc _).keep hk1
  have B1_1 : Box w1 (w.heap.size + 1) #[.bool t1, .int .u32 b1, .int .u32 p1, .int .u32 a1, .int .u16 m1, .int .u16 y1] := (Box.new1 _ _ _ _).keep hk1
  have c0 := B0_1.cells
  have f0 := B0_1.thawed
  have c1 := B1_1.cells
  have f1 := B1_1.thawed
  have l0 := B0_1.lt
  have l1 := B1_1.lt
  go_wp2_with fail
  refine region_grows (Keep _) (by kernel_rfl) (by kernel_rfl) (Keep.refl _).drew ?_
  repeat (first
    | (apply text_pass (by rfl)
       go_simp)
    | (apply text_step (by rfl)
       · intro W hW
         have c0 := ((B0_1.alloc _).keep hW).cells
         have c1 := ((B1_1.alloc _).keep hW).cells
         have c2 := ((Box.new _ _ _).keep hW).cells
         go_simp
         first
          | exact ⟨rfl, hW⟩
          | (rw [if_neg (by omega)]; exact ⟨rfl, hW⟩)
          | (apply yes_enter; go_at_call 7; (first | (with_reducible refine (C1.out _).mono ?_) | (with_reducible refine (C2.out _).mono ?_));  rintro e w' ⟨rfl, hk⟩; exact ⟨rfl, hW.trans hk⟩)
       go_simp))
  apply text_end
  intro W hW
  go_wp2_with fail
  go_ret
  exact ⟨rfl, ((((((Keep.refl _).alloc _).alloc _).trans hk1)).alloc _).trans hW⟩

end Go.Proofs.Yteognnpjagophaa
