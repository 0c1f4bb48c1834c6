/- Package pack's Put and Get by their parts. -/
import Derived.Test.YtgfoohiaioojoaaDoorGRef
import Derived.Deep.RegionHeld3
import Derived.WalkSpells
namespace Go.Proofs.YtgfoohiaioojoaaDoor
set_option linter.unusedVariables false
set_option linter.unusedSimpArgs false
open Go.RowKit

theorem cells16_box {w : World} {c : Nat} {zs : List Int} (hl : zs.length = 16) (hz : ∀ z ∈ zs, IsByte z) (h : Box w c (u8s zs)) : Cells16 w c 0 zs := by
  refine ⟨hl, hz, fun j hj => ?_⟩
  rw [Nat.zero_add, h.cells j]
  simp [u8s, List.getD_eq_getElem?_getD, List.getElem?_eq_getElem (show j < zs.length by omega)]
theorem bytes16 (z0 z1 z2 z3 z4 z5 z6 z7 z8 z9 z10 z11 z12 z13 z14 z15 : Int) (hz0 : 0 ≤ z0 ∧ z0 ≤ 255) (hz1 : 0 ≤ z1 ∧ z1 ≤ 255) (hz2 : 0 ≤ z2 ∧ z2 ≤ 255) (hz3 : 0 ≤ z3 ∧ z3 ≤ 255) (hz4 : 0 ≤ z4 ∧ z4 ≤ 255) (hz5 : 0 ≤ z5 ∧ z5 ≤ 255) (hz6 : 0 ≤ z6 ∧ z6 ≤ 255) (hz7 : 0 ≤ z7 ∧ z7 ≤ 255) (hz8 : 0 ≤ z8 ∧ z8 ≤ 255) (hz9 : 0 ≤ z9 ∧ z9 ≤ 255) (hz10 : 0 ≤ z10 ∧ z10 ≤ 255) (hz11 : 0 ≤ z11 ∧ z11 ≤ 255) (hz12 : 0 ≤ z12 ∧ z12 ≤ 255) (hz13 : 0 ≤ z13 ∧ z13 ≤ 255) (hz14 : 0 ≤ z14 ∧ z14 ≤ 255) (hz15 : 0 ≤ z15 ∧ z15 ≤ 255) : ∀ z ∈ [z0, z1, z2, z3, z4, z5, z6, z7, z8, z9, z10, z11, z12, z13, z14, z15], IsByte z := by
  intro z h
  simp only [List.mem_cons, List.not_mem_nil, or_false] at h
  rcases h with rfl | rfl | rfl | rfl | rfl | rfl | rfl | rfl | rfl | rfl | rfl | rfl | rfl | rfl | rfl | rfl <;> assumption
theorem get_part {W : World} {B : Nat} {zs : List Int} (h : Cells16 W B 0 zs) (i n cap : Nat) (v : Int) (hi : i + n ≤ 16) (hn : n ≤ 4) (hc : n ≤ cap) (hcap : cap ≤ 16) (e : leW (part zs i n) = v) :
    Calls Tryd.prog 86 #[.slice (some ⟨B, i, none⟩) n cap] W fun e w' => e = .returned (.int .u32 v) ∧ W = w' := by
  subst e
  have hl := part_length zs i n (by rw [h.1]; exact hi)
  have c := pget_any B i cap (part zs i n) (part_byte zs i n h.2.1) (by omega) (by omega) (by omega) W (fun j hj => by
    have h2 := part_cell h i n hi j hj
    rwa [Nat.zero_add] at h2)
  rwa [hl] at c

set_option maxRecDepth 100000 in
theorem get_at (t : Bool) (z0 z1 z2 z3 z4 z5 z6 z7 z8 z9 z10 z11 z12 z13 z14 z15 : Int) (hz0 : 0 ≤ z0 ∧ z0 ≤ 255) (hz1 : 0 ≤ z1 ∧ z1 ≤ 255) (hz2 : 0 ≤ z2 ∧ z2 ≤ 255) (hz3 : 0 ≤ z3 ∧ z3 ≤ 255) (hz4 : 0 ≤ z4 ∧ z4 ≤ 255) (hz5 : 0 ≤ z5 ∧ z5 ≤ 255) (hz6 : 0 ≤ z6 ∧ z6 ≤ 255) (hz7 : 0 ≤ z7 ∧ z7 ≤ 255) (hz8 : 0 ≤ z8 ∧ z8 ≤ 255) (hz9 : 0 ≤ z9 ∧ z9 ≤ 255) (hz10 : 0 ≤ z10 ∧ z10 ≤ 255) (hz11 : 0 ≤ z11 ∧ z11 ≤ 255) (hz12 : 0 ≤ z12 ∧ z12 ≤ 255) (hz13 : 0 ≤ z13 ∧ z13 ≤ 255) (hz14 : 0 ≤ z14 ∧ z14 ≤ 255) (hz15 : 0 ≤ z15 ∧ z15 ≤ 255) (b p a m y : Int) (eb : leW [z0, z1, z2, z3] = b) (ep : leW [z4, z5, z6, z7] = p) (ea : leW [z8, z9, z10, z11] = a) (em : leW [z12, z13] = m) (ey : leW [z14, z15] = y) (w : World) :
    Calls Tryd.prog 81 #[.agg #[.int .u8 z0, .int .u8 z1, .int .u8 z2, .int .u8 z3, .int .u8 z4, .int .u8 z5, .int .u8 z6, .int .u8 z7, .int .u8 z8, .int .u8 z9, .int .u8 z10, .int .u8 z11, .int .u8 z12, .int .u8 z13, .int .u8 z14, .int .u8 z15], .bool t] w fun e w' => e = .returned (.agg #[.bool t, .int .u32 b, .int .u32 p, .int .u32 a, .int .u16 m, .int .u16 y]) ∧ Keep w w' := by
  have H := Lib.hid (bytes16 z0 z1 z2 z3 z4 z5 z6 z7 z8 z9 z10 z11 z12 z13 z14 z15 hz0 hz1 hz2 hz3 hz4 hz5 hz6 hz7 hz8 hz9 hz10 hz11 hz12 hz13 hz14 hz15)
  have hm := leW2_in z12 z13 hz12 hz13
  rw [em] at hm
  have hy := leW2_in z14 z15 hz14 hz15
  rw [ey] at hy
  have wm : IntKind.u16.wrap m = m := by rw [IntKind.wrap_u16]; omega
  have wy : IntKind.u16.wrap y = y := by rw [IntKind.wrap_u16]; omega
  have vm : m % 65536 = m := by omega
  have vy : y % 65536 = y := by omega
  have Eb : Hid (leW (part [z0, z1, z2, z3, z4, z5, z6, z7, z8, z9, z10, z11, z12, z13, z14, z15] 0 4) = b) := Lib.hid eb
  have Ep : Hid (leW (part [z0, z1, z2, z3, z4, z5, z6, z7, z8, z9, z10, z11, z12, z13, z14, z15] 4 4) = p) := Lib.hid ep
  have Ea : Hid (leW (part [z0, z1, z2, z3, z4, z5, z6, z7, z8, z9, z10, z11, z12, z13, z14, z15] 8 4) = a) := Lib.hid ea
  have Em : Hid (leW (part [z0, z1, z2, z3, z4, z5, z6, z7, z8, z9, z10, z11, z12, z13, z14, z15] 12 2) = m) := Lib.hid em
  have Ey : Hid (leW (part [z0, z1, z2, z3, z4, z5, z6, z7, z8, z9, z10, z11, z12, z13, z14, z15] 14 2) = y) := Lib.hid ey
  clear eb ep ea em ey hm hy hz0 hz1 hz2 hz3 hz4 hz5 hz6 hz7 hz8 hz9 hz10 hz11 hz12 hz13 hz14 hz15
  go_enter Tryd.func81, Tryd.ntmps81
  go_wp2_with fail
  refine region_grows_tail 14 (Keep _) (by kernel_rfl) (by kernel_rfl) (Keep.refl _).drew ?_
  simp only [List.take_succ_cons, List.take_zero, List.drop_succ_cons, List.drop_zero]
  repeat (first
    | (apply text_step (by rfl)
       · intro W hW
         have B0 : Box W w.heap.size _ := ((Box.new _ _ _).alloc _).keep hW
         have c0 := B0.cells
         go_simp
         first
          | exact ⟨rfl, hW⟩
          | (apply yes_enter; go_at_call 86; with_reducible refine (get_part (cells16_box (zs := [z0, z1, z2, z3, z4, z5, z6, z7, z8, z9, z10, z11, z12, z13, z14, z15]) rfl H.out B0) 0 4 16 b (by decide) (by decide) (by decide) (by decide) Eb.out).mono ?_; rintro e w' ⟨rfl, rfl⟩; exact ⟨rfl, hW⟩)
          | (apply yes_enter; go_at_call 86; with_reducible refine (get_part (cells16_box (zs := [z0, z1, z2, z3, z4, z5, z6, z7, z8, z9, z10, z11, z12, z13, z14, z15]) rfl H.out B0) 4 4 12 p (by decide) (by decide) (by decide) (by decide) Ep.out).mono ?_; rintro e w' ⟨rfl, rfl⟩; exact ⟨rfl, hW⟩)
          | (apply yes_enter; go_at_call 86; with_reducible refine (get_part (cells16_box (zs := [z0, z1, z2, z3, z4, z5, z6, z7, z8, z9, z10, z11, z12, z13, z14, z15]) rfl H.out B0) 8 4 8 a (by decide) (by decide) (by decide) (by decide) Ea.out).mono ?_; rintro e w' ⟨rfl, rfl⟩; exact ⟨rfl, hW⟩)
          | (apply yes_enter; go_at_call 86; with_reducible refine (get_part (cells16_box (zs := [z0, z1, z2, z3, z4, z5, z6, z7, z8, z9, z10, z11, z12, z13, z14, z15]) rfl H.out B0) 12 2 4 m (by decide) (by decide) (by decide) (by decide) Em.out).mono ?_; rintro e w' ⟨rfl, rfl⟩; exact ⟨rfl, hW⟩)
          | (apply yes_enter; go_at_call 86; with_reducible refine (get_part (cells16_box (zs := [z0, z1, z2, z3, z4, z5, z6, z7, z8, z9, z10, z11, z12, z13, z14, z15]) rfl H.out B0) 14 2 2 y (by decide) (by decide) (by decide) (by decide) Ey.out).mono ?_; rintro e w' ⟨rfl, rfl⟩; exact ⟨rfl, hW⟩)
       go_simp))
  apply text_end
  intro W hW
  have r0 := ((Box.new1 _ _ _ _).keep hW).cells
  have rf := ((Box.new1 _ _ _ _).keep hW).thawed
  go_wp2_with fail
  refine bodyPost_ret (v := .agg #[.bool t, .int .u32 b, .int .u32 p, .int .u32 a, .int .u16 m, .int .u16 y]) (by simp [results, Tryd.results81, go_sem, r0]) rfl ⟨rfl, ?_⟩
  repeat (with_reducible refine Keep.setCell ?_ (by simp <;> omega) _)
  exact (((Keep.refl _).alloc _).alloc _).trans hW

set_option maxRecDepth 100000 in
set_option maxHeartbeats 1000000 in
theorem put_at (t : Bool) (b p a m y : Int) (z0 z1 z2 z3 z4 z5 z6 z7 z8 z9 z10 z11 z12 z13 z14 z15 : Int) (hb : 0 ≤ b ∧ b ≤ 4294967295) (hp : 0 ≤ p ∧ p ≤ 4294967295) (ha : 0 ≤ a ∧ a ≤ 4294967295) (hm : 0 ≤ m ∧ m ≤ 65535) (hy : 0 ≤ y ∧ y ≤ 65535) (hz : putL b p a m y = [z0, z1, z2, z3, z4, z5, z6, z7, z8, z9, z10, z11, z12, z13, z14, z15]) (w : World) :
    Calls Tryd.prog 77 #[.agg #[.bool t, .int .u32 b, .int .u32 p, .int .u32 a, .int .u16 m, .int .u16 y]] w fun e w' => e = .returned (.agg #[.int .u8 z0, .int .u8 z1, .int .u8 z2, .int .u8 z3, .int .u8 z4, .int .u8 z5, .int .u8 z6, .int .u8 z7, .int .u8 z8, .int .u8 z9, .int .u8 z10, .int .u8 z11, .int .u8 z12, .int .u8 z13, .int .u8 z14, .int .u8 z15]) ∧ Keep w w' := by
  simp only [putL, b4, b2, List.cons_append, List.nil_append, List.cons.injEq, and_true] at hz
  obtain ⟨ez0, ez1, ez2, ez3, ez4, ez5, ez6, ez7, ez8, ez9, ez10, ez11, ez12, ez13, ez14, ez15⟩ := hz
  have G0 : fillV #[.int .u8 0, .int .u8 0, .int .u8 0, .int .u8 0, .int .u8 0, .int .u8 0, .int .u8 0, .int .u8 0, .int .u8 0, .int .u8 0, .int .u8 0, .int .u8 0, .int .u8 0, .int .u8 0, .int .u8 0, .int .u8 0] 0 b 4 = #[.int .u8 z0, .int .u8 z1, .int .u8 z2, .int .u8 z3, .int .u8 0, .int .u8 0, .int .u8 0, .int .u8 0, .int .u8 0, .int .u8 0, .int .u8 0, .int .u8 0, .int .u8 0, .int .u8 0, .int .u8 0, .int .u8 0] := by simp [fillV, ez0, ez1, ez2, ez3]
  have F0 := Lib.hid G0
  clear G0
  have G1 : fillV #[.int .u8 z0, .int .u8 z1, .int .u8 z2, .int .u8 z3, .int .u8 0, .int .u8 0, .int .u8 0, .int .u8 0, .int .u8 0, .int .u8 0, .int .u8 0, .int .u8 0, .int .u8 0, .int .u8 0, .int .u8 0, .int .u8 0] 4 p 4 = #[.int .u8 z0, .int .u8 z1, .int .u8 z2, .int .u8 z3, .int .u8 z4, .int .u8 z5, .int .u8 z6, .int .u8 z7, .int .u8 0, .int .u8 0, .int .u8 0, .int .u8 0, .int .u8 0, .int .u8 0, .int .u8 0, .int .u8 0] := by simp [fillV, ez4, ez5, ez6, ez7]
  have F1 := Lib.hid G1
  clear G1
  have G2 : fillV #[.int .u8 z0, .int .u8 z1, .int .u8 z2, .int .u8 z3, .int .u8 z4, .int .u8 z5, .int .u8 z6, .int .u8 z7, .int .u8 0, .int .u8 0, .int .u8 0, .int .u8 0, .int .u8 0, .int .u8 0, .int .u8 0, .int .u8 0] 8 a 4 = #[.int .u8 z0, .int .u8 z1, .int .u8 z2, .int .u8 z3, .int .u8 z4, .int .u8 z5, .int .u8 z6, .int .u8 z7, .int .u8 z8, .int .u8 z9, .int .u8 z10, .int .u8 z11, .int .u8 0, .int .u8 0, .int .u8 0, .int .u8 0] := by simp [fillV, ez8, ez9, ez10, ez11]
  have F2 := Lib.hid G2
  clear G2
  have G3 : fillV #[.int .u8 z0, .int .u8 z1, .int .u8 z2, .int .u8 z3, .int .u8 z4, .int .u8 z5, .int .u8 z6, .int .u8 z7, .int .u8 z8, .int .u8 z9, .int .u8 z10, .int .u8 z11, .int .u8 0, .int .u8 0, .int .u8 0, .int .u8 0] 12 m 2 = #[.int .u8 z0, .int .u8 z1, .int .u8 z2, .int .u8 z3, .int .u8 z4, .int .u8 z5, .int .u8 z6, .int .u8 z7, .int .u8 z8, .int .u8 z9, .int .u8 z10, .int .u8 z11, .int .u8 z12, .int .u8 z13, .int .u8 0, .int .u8 0] := by simp [fillV, ez12, ez13]
  have F3 := Lib.hid G3
  clear G3
  have G4 : fillV #[.int .u8 z0, .int .u8 z1, .int .u8 z2, .int .u8 z3, .int .u8 z4, .int .u8 z5, .int .u8 z6, .int .u8 z7, .int .u8 z8, .int .u8 z9, .int .u8 z10, .int .u8 z11, .int .u8 z12, .int .u8 z13, .int .u8 0, .int .u8 0] 14 y 2 = #[.int .u8 z0, .int .u8 z1, .int .u8 z2, .int .u8 z3, .int .u8 z4, .int .u8 z5, .int .u8 z6, .int .u8 z7, .int .u8 z8, .int .u8 z9, .int .u8 z10, .int .u8 z11, .int .u8 z12, .int .u8 z13, .int .u8 z14, .int .u8 z15] := by simp [fillV, ez14, ez15]
  have F4 := Lib.hid G4
  clear G4
  clear ez0 ez1 ez2 ez3 ez4 ez5 ez6 ez7 ez8 ez9 ez10 ez11 ez12 ez13 ez14 ez15
  have wm : IntKind.u32.wrap m = m := by rw [IntKind.wrap_u32]; omega
  have vm : m % 4294967296 = m := by omega
  have Qm := Lib.hid (show 0 ≤ m ∧ m ≤ 4294967295 by omega)
  have wy : IntKind.u32.wrap y = y := by rw [IntKind.wrap_u32]; omega
  have vy : y % 4294967296 = y := by omega
  have Qy := Lib.hid (show 0 ≤ y ∧ y ≤ 4294967295 by omega)
  have Qb := Lib.hid hb
  have Qp := Lib.hid hp
  have Qa := Lib.hid ha
  clear hb hp ha hm hy
  go_enter Tryd.func77, Tryd.ntmps77
  go_wp2_with fail
  obtain ⟨K0, hK0⟩ : ∃ K0, K0 = (w.alloc (.cells #[.bool t, .int .u32 b, .int .u32 p, .int .u32 a, .int .u16 m, .int .u16 y] 25)).alloc (.cells #[.int .u8 0, .int .u8 0, .int .u8 0, .int .u8 0, .int .u8 0, .int .u8 0, .int .u8 0, .int .u8 0, .int .u8 0, .int .u8 0, .int .u8 0, .int .u8 0, .int .u8 0, .int .u8 0, .int .u8 0, .int .u8 0] 137) := ⟨_, rfl⟩
  have hs0 : K0.heap.size = w.heap.size + 1 + 1 := by rw [hK0]; simp
  have C0 : Box K0 w.heap.size #[.bool t, .int .u32 b, .int .u32 p, .int .u32 a, .int .u16 m, .int .u16 y] := by rw [hK0]; exact (Box.new _ _ _).alloc _
  have R0 : Box K0 (w.heap.size + 1) #[.int .u8 0, .int .u8 0, .int .u8 0, .int .u8 0, .int .u8 0, .int .u8 0, .int .u8 0, .int .u8 0, .int .u8 0, .int .u8 0, .int .u8 0, .int .u8 0, .int .u8 0, .int .u8 0, .int .u8 0, .int .u8 0] := by rw [hK0]; exact Box.new1 _ _ _ _
  have KK : Keep w K0 := by rw [hK0]; exact ((Keep.refl _).alloc _).alloc _
  rw [← hK0]
  clear hK0
  have HC := Lib.hid C0
  have HR := Lib.hid R0
  have HKK := Lib.hid KK
  clear C0 R0 KK
  have hk0 := Lib.hid ((Keep.refl K0).alloc (.cells #[.int .u8 0, .int .u8 0, .int .u8 0, .int .u8 0, .int .u8 0, .int .u8 0, .int .u8 0, .int .u8 0, .int .u8 0, .int .u8 0, .int .u8 0, .int .u8 0, .int .u8 0, .int .u8 0, .int .u8 0, .int .u8 0] 137))
  have HB0 : Hid (Box (K0.alloc (.cells #[.int .u8 0, .int .u8 0, .int .u8 0, .int .u8 0, .int .u8 0, .int .u8 0, .int .u8 0, .int .u8 0, .int .u8 0, .int .u8 0, .int .u8 0, .int .u8 0, .int .u8 0, .int .u8 0, .int .u8 0, .int .u8 0] 137)) (w.heap.size + 1 + 1) #[.int .u8 0, .int .u8 0, .int .u8 0, .int .u8 0, .int .u8 0, .int .u8 0, .int .u8 0, .int .u8 0, .int .u8 0, .int .u8 0, .int .u8 0, .int .u8 0, .int .u8 0, .int .u8 0, .int .u8 0, .int .u8 0]) := Lib.hid (by rw [← hs0]; exact Box.new _ _ _)
  refine region_grows_tail 3 (Keep _) (by kernel_rfl) (by kernel_rfl) (Keep.refl _).drew ?_
  simp only [List.take_succ_cons, List.take_zero, List.drop_succ_cons, List.drop_zero]
  repeat (first
    | (apply text_step (by rfl)
       · intro W hW
         have c0 := (HC.out.keep (hk0.out.trans hW)).cells
         go_simp
         exact ⟨rfl, hW⟩
       go_simp))
  apply text_end
  intro W hW
  have hk0' := Lib.hid (hk0.out.trans hW)
  have HB0' := Lib.hid (HB0.out.keep hW)
  clear hW hk0 HB0
  go_wp2_with (go_at_call 85; with_reducible refine (pput_any _ 0 16 4 b Qb.out _ _ HB0'.out (by simp) (by decide)).mono ?_; rintro e w1 ⟨rfl, hBn, hKn⟩; have hk1 := Lib.hid (hKn K0 hk0'.out (by omega)); rw [F0.out] at hBn; have HB1 := Lib.hid hBn; clear hBn hKn hk0' HB0')
  refine region_grows_tail 3 (Keep _) (by kernel_rfl) (by kernel_rfl) (Keep.refl _).drew ?_
  simp only [List.take_succ_cons, List.take_zero, List.drop_succ_cons, List.drop_zero]
  repeat (first
    | (apply text_step (by rfl)
       · intro W hW
         have c0 := (HC.out.keep (hk1.out.trans hW)).cells
         go_simp
         exact ⟨rfl, hW⟩
       go_simp))
  apply text_end
  intro W hW
  have hk1' := Lib.hid (hk1.out.trans hW)
  have HB1' := Lib.hid (HB1.out.keep hW)
  clear hW hk1 HB1
  go_wp2_with (go_at_call 85; with_reducible refine (pput_any _ 4 12 4 p Qp.out _ _ HB1'.out (by simp) (by decide)).mono ?_; rintro e w2 ⟨rfl, hBn, hKn⟩; have hk2 := Lib.hid (hKn K0 hk1'.out (by omega)); rw [F1.out] at hBn; have HB2 := Lib.hid hBn; clear hBn hKn hk1' HB1')
  refine region_grows_tail 3 (Keep _) (by kernel_rfl) (by kernel_rfl) (Keep.refl _).drew ?_
  simp only [List.take_succ_cons, List.take_zero, List.drop_succ_cons, List.drop_zero]
  repeat (first
    | (apply text_step (by rfl)
       · intro W hW
         have c0 := (HC.out.keep (hk2.out.trans hW)).cells
         go_simp
         exact ⟨rfl, hW⟩
       go_simp))
  apply text_end
  intro W hW
  have hk2' := Lib.hid (hk2.out.trans hW)
  have HB2' := Lib.hid (HB2.out.keep hW)
  clear hW hk2 HB2
  go_wp2_with (go_at_call 85; with_reducible refine (pput_any _ 8 8 4 a Qa.out _ _ HB2'.out (by simp) (by decide)).mono ?_; rintro e w3 ⟨rfl, hBn, hKn⟩; have hk3 := Lib.hid (hKn K0 hk2'.out (by omega)); rw [F2.out] at hBn; have HB3 := Lib.hid hBn; clear hBn hKn hk2' HB2')
  refine region_grows_tail 4 (Keep _) (by kernel_rfl) (by kernel_rfl) (Keep.refl _).drew ?_
  simp only [List.take_succ_cons, List.take_zero, List.drop_succ_cons, List.drop_zero]
  repeat (first
    | (apply text_step (by rfl)
       · intro W hW
         have c0 := (HC.out.keep (hk3.out.trans hW)).cells
         go_simp
         exact ⟨rfl, hW⟩
       go_simp))
  apply text_end
  intro W hW
  have hk3' := Lib.hid (hk3.out.trans hW)
  have HB3' := Lib.hid (HB3.out.keep hW)
  clear hW hk3 HB3
  go_wp2_with (go_at_call 85; with_reducible refine (pput_any _ 12 4 2 m Qm.out _ _ HB3'.out (by simp) (by decide)).mono ?_; rintro e w4 ⟨rfl, hBn, hKn⟩; have hk4 := Lib.hid (hKn K0 hk3'.out (by omega)); rw [F3.out] at hBn; have HB4 := Lib.hid hBn; clear hBn hKn hk3' HB3')
  refine region_grows_tail 4 (Keep _) (by kernel_rfl) (by kernel_rfl) (Keep.refl _).drew ?_
  simp only [List.take_succ_cons, List.take_zero, List.drop_succ_cons, List.drop_zero]
  repeat (first
    | (apply text_step (by rfl)
       · intro W hW
         have c0 := (HC.out.keep (hk4.out.trans hW)).cells
         go_simp
         exact ⟨rfl, hW⟩
       go_simp))
  apply text_end
  intro W hW
  have hk4' := Lib.hid (hk4.out.trans hW)
  have HB4' := Lib.hid (HB4.out.keep hW)
  clear hW hk4 HB4
  go_wp2_with (go_at_call 85; with_reducible refine (pput_any _ 14 2 2 y Qy.out _ _ HB4'.out (by simp) (by decide)).mono ?_; rintro e w5 ⟨rfl, hBn, hKn⟩; have hk5 := Lib.hid (hKn K0 hk4'.out (by omega)); rw [F4.out] at hBn; have HB5 := Lib.hid hBn; clear hBn hKn hk4' HB4'; have c5 := HB5.out.cells; have r5 := (HR.out.keep hk5.out).cells; have rf := (HR.out.keep hk5.out).thawed)
  refine bodyPost_ret (v := .agg #[.int .u8 z0, .int .u8 z1, .int .u8 z2, .int .u8 z3, .int .u8 z4, .int .u8 z5, .int .u8 z6, .int .u8 z7, .int .u8 z8, .int .u8 z9, .int .u8 z10, .int .u8 z11, .int .u8 z12, .int .u8 z13, .int .u8 z14, .int .u8 z15]) (by simp [results, Tryd.results77, go_sem, r5]) rfl ⟨rfl, ?_⟩
  repeat (with_reducible refine Keep.setCell ?_ (by simp <;> omega) _)
  exact HKK.out.trans hk5.out

end Go.Proofs.YtgfoohiaioojoaaDoor
