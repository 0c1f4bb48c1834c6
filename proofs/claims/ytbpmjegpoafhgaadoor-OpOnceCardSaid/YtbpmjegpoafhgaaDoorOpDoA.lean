/- op.All: what it answers. -/
import Derived.Test.YtbpmjegpoafhgaaDoorOpDoN
import Derived.Laws.MakeOwn
namespace Go.Proofs.YtbpmjegpoafhgaaDoor
set_option linter.unusedVariables false
set_option linter.unusedSimpArgs false
open Go.RowKit
/-- The first k rows of a block are the first k ops. -/
def OpRows (k : Nat) (vs : Array Value) : Prop := vs.size = 201 ∧ ∀ i j, i < k → j < 3 → vs[i * 3 + j]? = (opRow i)[j]?
theorem OpRows.set {k : Nat} {vs : Array Value} (h : OpRows k vs) (hk : k < 67) : OpRows (k + 1) (((vs.setIfInBounds (k * 3) (.int .i64 ((k : Int) + 1))).setIfInBounds (k * 3 + 1) (.string (opName k))).setIfInBounds (k * 3 + 2) (.int .i64 (opForm k))) := by
  obtain ⟨hs, hr⟩ := h
  refine ⟨by simp [hs], fun i j hi hj => ?_⟩
  by_cases e : i = k
  · subst e
    match j, hj with
    | 0, _ => simp [Array.getElem?_setIfInBounds, hs, opRow]; omega
    | 1, _ => simp [Array.getElem?_setIfInBounds, hs, opRow]; omega
    | 2, _ => simp [Array.getElem?_setIfInBounds, hs, opRow]; omega
  · rw [Array.getElem?_setIfInBounds_ne (by omega), Array.getElem?_setIfInBounds_ne (by omega), Array.getElem?_setIfInBounds_ne (by omega)]
    exact hr i j (by omega) hj
theorem infoOpD : (Tryd.prog.info? 24).map (fun i => (i.zero, i.size, i.bytes)) = some (some (.agg #[.int .i64 0, .string ⟨#[]⟩, .int .i64 0]), 3, 32) := by kernel_rfl
theorem make_ops (W : World) : ∃ MC : Array Value, MC.size = 201 ∧ (Instr.makeSlice 32 (.int .i64 67) (.int .i64 67)).run Tryd.prog W = .ok (.slice (some ⟨W.heap.size, 0, none⟩) 67 67) (W.alloc (.cells MC 24)) := by
  obtain ⟨i0, hi0, hz0, hz1, hz2⟩ := info_parts infoOpD
  have h := run_makeSlice (P := Tryd.prog) (w := W) 32 24 i0 _ Tryd.underlying32 hi0 hz0 .i64 .i64 67 67 (by decide) (by decide) (by rw [hz1]; decide) (by rw [hz2]; decide) (by decide)
  exact ⟨_, by rw [size_madeCells, hz1]; rfl, h⟩
set_option maxHeartbeats 1000000 in
set_option maxRecDepth 100000 in
theorem opAll_any (w : World) (hN : Names w) : Calls Tryd.prog 10 #[] w fun e w' => ∃ g vs, e = .returned (.slice (some ⟨g, 0, none⟩) 67 67) ∧ Box w' g vs ∧ OpRows 67 vs ∧ Keep w w' := by
  have HN := Lib.hid hN
  clear hN
  obtain ⟨MC, hMC, hmk⟩ := make_ops w
  go_enter Tryd.func10, Tryd.ntmps10
  go_wp2_with fail
  go_loopw [6] (fun i wr => ∃ k : Nat, k ≤ 67 ∧ i = .int .i64 (k : Int) ∧ ∃ vs, Box wr w.heap.size vs ∧ OpRows k vs ∧ Keep w wr) (fun i _ => 67 - (intOf i).toNat)
  case atStart => exact ⟨0, by decide, rfl, MC, Box.new _ _ _, ⟨hMC, fun i j hi => absurd hi (by omega)⟩, (Keep.refl _).alloc _⟩
  case round =>
    obtain ⟨k, hk, rfl, vs, hB, hR, hK⟩ := hrel
    have k0 : (0 : Int) ≤ (k : Int) := Int.natCast_nonneg _
    clear hmk hMC
    by_cases h : k < 67
    · have hk67 : (k : Int) < 67 := by omega
      have hkn := opKnown_any k h
      unfold opV at hkn
      have HB := Lib.hid hB
      have HR := Lib.hid hR
      have HK := Lib.hid hK
      clear hB hR hK
      go_wp2_with fail
      refine (hkn _ (HN.out.keep HK.out)).mono ?_
      rintro e w1 ⟨rfl, hk1⟩
      have HB1 := HB.out.keep hk1
      have HK1 := Lib.hid (HK.out.trans hk1)
      have r0 := HB1.cells
      have rf := HB1.thawed
      have hs := HR.out.1
      obtain ⟨x0, q0⟩ : ∃ x, vs[k * 3]? = some x := ⟨_, Array.getElem?_eq_getElem (by omega)⟩
      obtain ⟨x1, q1⟩ : ∃ x, vs[k * 3 + 1]? = some x := ⟨_, Array.getElem?_eq_getElem (by omega)⟩
      obtain ⟨x2, q2⟩ : ∃ x, vs[k * 3 + 2]? = some x := ⟨_, Array.getElem?_eq_getElem (by omega)⟩
      have HS := Lib.hid (HR.out.set h)
      have HB2 := Lib.hid (((HB1.set (k * 3) (.int .i64 ((k : Int) + 1))).set (k * 3 + 1) (.string (opName k))).set (k * 3 + 2) (.int .i64 (opForm k)))
      clear hk1 HB HK HB1 HR
      go_wp2_with fail
      refine ⟨⟨k + 1, h, by simp, _, HB2.out, HS.out, ?_⟩, by simp [intOf]; omega⟩
      repeat (with_reducible refine Keep.setAt ?_ ?_ _; · first | omega | (simp; done) | (simp; omega))
      exact HK1.out
    · obtain rfl : k = 67 := by omega
      go_wp2_with fail
      go_ret
      exact ⟨_, vs, rfl, hB, hR, hK⟩
end Go.Proofs.YtbpmjegpoafhgaaDoor
