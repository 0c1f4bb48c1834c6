/- PackBack's walk. -/
import Derived.Test.YteognnpjagophaaPackKnown
import Derived.Test.YteognnpjagophaaArrEq
import Derived.Test.YteognnpjagophaaCapOf
import Derived.Test.YteognnpjagophaaCapEq
import Derived.Test.YteognnpjagophaaRefPut
import Derived.Test.YteognnpjagophaaSegs
namespace Go.Proofs.Yteognnpjagophaa
set_option linter.unusedVariables false
set_option linter.unusedSimpArgs false
open Go.RowKit

theorem names16' (l : List Int) (h : l.length = 16) : ∃ z0 z1 z2 z3 z4 z5 z6 z7 z8 z9 z10 z11 z12 z13 z14 z15 : Int, l = [z0, z1, z2, z3, z4, z5, z6, z7, z8, z9, z10, z11, z12, z13, z14, z15] := by
  match l, h with
  | [z0, z1, z2, z3, z4, z5, z6, z7, z8, z9, z10, z11, z12, z13, z14, z15], _ => exact ⟨_, _, _, _, _, _, _, _, _, _, _, _, _, _, _, _, rfl⟩
/-- Bytes that lie there, as a text. -/
theorem conv_row (l : List Int) (c off cap : Nat) (W : World) (h : ∀ i, i < l.length → W.cell? ⟨c, off + i, none⟩ = some (.int .u8 (l.getD i 0))) :
    (convert 29 9 (.slice (some ⟨c, off, none⟩) l.length cap)).run Try.prog W = .ok (.string (strOfNums l)) W := by
  rw [run_convert_bytes_arg W 29 5 Try.underlying29 Try.underlying5 c off l.length cap l rfl h 9 Try.underlying9]
theorem box_row {w : World} {c : Nat} {l : List Int} (h : Box w c (u8s l)) : ∀ i, i < l.length → w.cell? ⟨c, 0 + i, none⟩ = some (.int .u8 (l.getD i 0)) := by
  intro j hj
  rw [Nat.zero_add, h.cells j]
  simp [u8s, List.getD_eq_getElem?_getD, List.getElem?_eq_getElem hj]
theorem own_row {w : World} {base g n cap : Nat} {l : List Int} (h : w.ownsRow base 5 1 (.slice (some ⟨g, 0, none⟩) n cap) n (l.map (Value.int .u8))) (hn : l.length = n) :
    ∀ i, i < l.length → w.cell? ⟨g, 0 + i, none⟩ = some (.int .u8 (l.getD i 0)) := by
  obtain ⟨_, h | ⟨g', cap', cur, hv, _, hg, _, _, _, hx⟩⟩ := h
  · cases h.1
  · intro i hi
    simp only [Value.slice.injEq, Option.some.injEq, Addr.mk.injEq, and_true, true_and] at hv
    obtain ⟨rfl, rfl⟩ := hv
    have e := congrArg (fun x => x[i]?) hx
    simp only [List.getElem?_map, List.getElem?_eq_getElem hi, Option.map_some] at e
    rw [List.getElem?_take, if_pos (by omega)] at e
    rw [Nat.zero_add]
    simp only [World.cell?, hg]
    rw [List.getD_eq_getElem?_getD, List.getElem?_eq_getElem hi]
    simpa using e

set_option maxRecDepth 100000 in
set_option maxHeartbeats 4000000 in
theorem packBack_walk (t : Bool) (b p a m y : Int) (q : Bool) (hb : 0 ≤ b ∧ b ≤ 4294967295) (hp : 0 ≤ p ∧ p ≤ 4294967295) (ha : 0 ≤ a ∧ a ≤ 4294967295) (hm : 0 ≤ m ∧ m ≤ 65535) (hy : 0 ≤ y ∧ y ≤ 65535) (w : World) :
    Calls Try.prog 3 #[.agg #[.bool t, .int .u32 b, .int .u32 p, .int .u32 a, .int .u16 m, .int .u16 y], .bool q] w fun e w' => e = .returned (.bool true) ∧ Keep w w' := by
  obtain ⟨z0, z1, z2, z3, z4, z5, z6, z7, z8, z9, z10, z11, z12, z13, z14, z15, hz⟩ := names16' (putL b p a m y) rfl
  have hbz : ∀ z ∈ [z0, z1, z2, z3, z4, z5, z6, z7, z8, z9, z10, z11, z12, z13, z14, z15], IsByte z := by
    rw [← hz]
    intro z h
    simp only [putL, List.mem_append] at h
    rcases h with h | h | h | h | h
    · exact b4_bytes b z h
    · exact b4_bytes p z h
    · exact b4_bytes a z h
    · exact b2_bytes m z h
    · exact b2_bytes y z h
  have hz0 : IsByte z0 := hbz z0 (by simp)
  have hz1 : IsByte z1 := hbz z1 (by simp)
  have hz2 : IsByte z2 := hbz z2 (by simp)
  have hz3 : IsByte z3 := hbz z3 (by simp)
  have hz4 : IsByte z4 := hbz z4 (by simp)
  have hz5 : IsByte z5 := hbz z5 (by simp)
  have hz6 : IsByte z6 := hbz z6 (by simp)
  have hz7 : IsByte z7 := hbz z7 (by simp)
  have hz8 : IsByte z8 := hbz z8 (by simp)
  have hz9 : IsByte z9 := hbz z9 (by simp)
  have hz10 : IsByte z10 := hbz z10 (by simp)
  have hz11 : IsByte z11 := hbz z11 (by simp)
  have hz12 : IsByte z12 := hbz z12 (by simp)
  have hz13 : IsByte z13 := hbz z13 (by simp)
  have hz14 : IsByte z14 := hbz z14 (by simp)
  have hz15 : IsByte z15 := hbz z15 (by simp)
  have gb : leW [z0, z1, z2, z3] = b := by rw [← leW_b4 b hb]; exact congrArg (fun l => leW (l.take 4)) hz.symm
  have gp : leW [z4, z5, z6, z7] = p := by rw [← leW_b4 p hp]; exact congrArg (fun l => leW ((l.drop 4).take 4)) hz.symm
  have ga : leW [z8, z9, z10, z11] = a := by rw [← leW_b4 a ha]; exact congrArg (fun l => leW ((l.drop 8).take 4)) hz.symm
  have gm : leW [z12, z13] = m := by rw [← leW_b2 m hm]; exact congrArg (fun l => leW ((l.drop 12).take 2)) hz.symm
  have gy : leW [z14, z15] = y := by rw [← leW_b2 y hy]; exact congrArg (fun l => leW (l.drop 14)) hz.symm
  obtain ⟨S, hS⟩ : ∃ S, S = strOfNums [z0, z1, z2, z3, z4, z5, z6, z7, z8, z9, z10, z11, z12, z13, z14, z15] := ⟨_, rfl⟩
  have C1 := Lib.hid (fun w => put_at t b p a m y z0 z1 z2 z3 z4 z5 z6 z7 z8 z9 z10 z11 z12 z13 z14 z15 hb hp ha hm hy hz w)
  have C2 := Lib.hid (fun w => put_at q b p a m y z0 z1 z2 z3 z4 z5 z6 z7 z8 z9 z10 z11 z12 z13 z14 z15 hb hp ha hm hy hz w)
  have C3 := Lib.hid (fun w => get_at q z0 z1 z2 z3 z4 z5 z6 z7 z8 z9 z10 z11 z12 z13 z14 z15 hz0 hz1 hz2 hz3 hz4 hz5 hz6 hz7 hz8 hz9 hz10 hz11 hz12 hz13 hz14 hz15 b p a m y gb gp ga gm gy w)
  have C4 : Hid (∀ w, Calls Try.prog 8 #[.agg #[.bool t, .int .u32 b, .int .u32 p, .int .u32 a, .int .u16 m, .int .u16 y]] w fun e w' => ∃ g cap, e = .returned (.slice (some ⟨g, 0, none⟩) 16 cap) ∧ (∀ W, Keep w' W → (convert 29 9 (.slice (some ⟨g, 0, none⟩) 16 cap)).run Try.prog W = .ok (.string S) W) ∧ Keep w w') := Lib.hid (fun w => (rput_any t b p a m y hb hp ha hm hy w).mono fun e w' ⟨g, cap, h1, h2, h3⟩ => ⟨g, cap, h1, fun W k => (by rw [hz] at h2; rw [hS]; exact conv_row [z0, z1, z2, z3, z4, z5, z6, z7, z8, z9, z10, z11, z12, z13, z14, z15] g 0 cap W fun i hi => k.cellOf (own_row h2 rfl i hi)), h3⟩)
  have C5 : Hid (∀ c W, Box W c #[.int .u8 z0, .int .u8 z1, .int .u8 z2, .int .u8 z3, .int .u8 z4, .int .u8 z5, .int .u8 z6, .int .u8 z7, .int .u8 z8, .int .u8 z9, .int .u8 z10, .int .u8 z11, .int .u8 z12, .int .u8 z13, .int .u8 z14, .int .u8 z15] → (convert 29 9 (.slice (some ⟨c, 0, none⟩) 16 16)).run Try.prog W = .ok (.string S) W) := Lib.hid (fun c W hB => by rw [hS]; exact conv_row [z0, z1, z2, z3, z4, z5, z6, z7, z8, z9, z10, z11, z12, z13, z14, z15] c 0 16 W (box_row hB))
  have hE2 : ∀ W, (Op.equalIn 10000 25 (.agg #[.bool q, .int .u32 b, .int .u32 p, .int .u32 a, .int .u16 m, .int .u16 y]) (.agg #[.bool q, .int .u32 b, .int .u32 p, .int .u32 a, .int .u16 m, .int .u16 y])).run Try.prog W = .ok true W := fun W => by
    rw [eqin_cap]
    simp
  have hE : ∀ W, (Op.equalIn 10000 27 (.agg #[.int .u8 z0, .int .u8 z1, .int .u8 z2, .int .u8 z3, .int .u8 z4, .int .u8 z5, .int .u8 z6, .int .u8 z7, .int .u8 z8, .int .u8 z9, .int .u8 z10, .int .u8 z11, .int .u8 z12, .int .u8 z13, .int .u8 z14, .int .u8 z15]) (.agg #[.int .u8 z0, .int .u8 z1, .int .u8 z2, .int .u8 z3, .int .u8 z4, .int .u8 z5, .int .u8 z6, .int .u8 z7, .int .u8 z8, .int .u8 z9, .int .u8 z10, .int .u8 z11, .int .u8 z12, .int .u8 z13, .int .u8 z14, .int .u8 z15])).run Try.prog W = .ok true W := fun W => by
    have h := eqin16 [z0, z1, z2, z3, z4, z5, z6, z7, z8, z9, z10, z11, z12, z13, z14, z15] [z0, z1, z2, z3, z4, z5, z6, z7, z8, z9, z10, z11, z12, z13, z14, z15] rfl rfl W
    rw [beq_self_eq_true] at h
    exact h
  clear hz hbz hz0 hz1 hz2 hz3 hz4 hz5 hz6 hz7 hz8 hz9 hz10 hz11 hz12 hz13 hz14 hz15 gb gp ga gm gy hS
  go_enter Try.func3, Try.ntmps3
  go_wp2_with fail
  refine (pknown_any _).mono ?_
  rintro e w1 ⟨rfl, hk1⟩
  have B0_1 : Box w1 w.heap.size #[.bool t, .int .u32 b, .int .u32 p, .int .u32 a, .int .u16 m, .int .u16 y] := (Box.new _ _ _).keep hk1
  have c0 := B0_1.cells
  have f0 := B0_1.thawed
  go_wp2_with fail
  refine (C1.out _).mono ?_
  rintro e w2 ⟨rfl, hk2⟩
  have B0_2 : Box w2 w.heap.size #[.bool t, .int .u32 b, .int .u32 p, .int .u32 a, .int .u16 m, .int .u16 y] := B0_1.keep hk2
  clear c0 f0
  have c0 := B0_2.cells
  have f0 := B0_2.thawed
  have l0 := B0_2.lt
  go_wp2_with fail
  obtain ⟨W0, hW0⟩ : ∃ W0, W0 = (w2.alloc (.cells #[.int .u8 z0, .int .u8 z1, .int .u8 z2, .int .u8 z3, .int .u8 z4, .int .u8 z5, .int .u8 z6, .int .u8 z7, .int .u8 z8, .int .u8 z9, .int .u8 z10, .int .u8 z11, .int .u8 z12, .int .u8 z13, .int .u8 z14, .int .u8 z15] 27)).alloc (.cells #[.bool q, .int .u32 b, .int .u32 p, .int .u32 a, .int .u16 m, .int .u16 y] 25) := ⟨_, rfl⟩
  have B0 : Box W0 w.heap.size #[.bool t, .int .u32 b, .int .u32 p, .int .u32 a, .int .u16 m, .int .u16 y] := by rw [hW0]; exact (B0_2.alloc _).alloc _
  have BB : Box W0 w2.heap.size #[.int .u8 z0, .int .u8 z1, .int .u8 z2, .int .u8 z3, .int .u8 z4, .int .u8 z5, .int .u8 z6, .int .u8 z7, .int .u8 z8, .int .u8 z9, .int .u8 z10, .int .u8 z11, .int .u8 z12, .int .u8 z13, .int .u8 z14, .int .u8 z15] := by rw [hW0]; exact (Box.new _ _ _).alloc _
  have BD : Box W0 (w2.heap.size + 1) #[.bool q, .int .u32 b, .int .u32 p, .int .u32 a, .int .u16 m, .int .u16 y] := by rw [hW0]; exact Box.new1 _ _ _ _
  have KW : Keep w W0 := by rw [hW0]; exact ((((Keep.refl _).alloc _).trans hk1 |>.trans hk2).alloc _).alloc _
  rw [← hW0]
  clear hW0 c0 f0 l0
  refine region_keeps [4] (by kernel_rfl) (by kernel_rfl) (Keep.refl _) ?_
  repeat (first
    | (apply textK_pass (by rfl) (by rfl)
       go_simp)
    | (apply textK_step (by rfl) (by rfl)
       · intro W hW
         have c0 := (B0.keep hW).cells
         have cv := C5.out _ _ (BB.keep hW)
         go_simp
         first
          | exact ⟨rfl, Keep.refl _⟩
          | (rw [if_neg (by omega)]; exact ⟨rfl, Keep.refl _⟩)
          | (apply yes_enter; go_at_call 9; refine (of_any _ _ _ _ _ _ _).mono ?_;  rintro e w' ⟨rfl, hk⟩; exact ⟨rfl, hk⟩)
       go_simp))
  apply textK_loose (by rfl) (by rfl)
  intro W hW
  go_simp
  apply gives_enter
  go_at_call 8
  refine (C4.out _).mono ?_
  rintro e w3 ⟨g, cap, rfl, hcv, hk3⟩
  refine ⟨_, rfl, hk3, ?_⟩
  have hk4 := hW.trans hk3
  have B0' := B0.keep hk4
  have BB' := BB.keep hk4
  have BD' := BD.keep hk4
  have K4 := KW.trans hk4
  have HC := Lib.hid hcv
  clear hcv B0 BB BD KW hk3 hk4 hW
  go_simp
  repeat (first
    | (apply textK_pass (by rfl) (by rfl)
       go_simp)
    | (apply textK_step (by rfl) (by rfl)
       · intro W hW
         have c0 := (BB'.keep hW).cells
         have c1 := (BD'.keep hW).cells
         have cv := HC.out W hW
         go_simp
         first
          | exact ⟨rfl, Keep.refl _⟩
          | (rw [if_neg (by omega)]; exact ⟨rfl, Keep.refl _⟩)
          | (apply yes_enter; go_at_call 7; refine (C2.out _).mono ?_;  rintro e w' ⟨rfl, hk⟩; exact ⟨rfl, hk⟩)
          | (apply yes_enter; go_at_call 10; refine (C3.out _).mono ?_;  rintro e w' ⟨rfl, hk⟩; exact ⟨rfl, hk⟩)
       go_simp))
  apply textK_end
  intro W' hW'
  go_wp2_with fail
  go_ret
  exact ⟨rfl, K4.trans hW'⟩

end Go.Proofs.Yteognnpjagophaa
