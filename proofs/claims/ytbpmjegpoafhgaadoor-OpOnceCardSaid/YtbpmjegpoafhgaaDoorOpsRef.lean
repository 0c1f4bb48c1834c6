/- The reference's Ops. -/
import Derived.Test.YtbpmjegpoafhgaaDoorOpTab
import Derived.Test.YtbpmjegpoafhgaaDoorApp
import Derived.WalkKit
namespace Go.Proofs.YtbpmjegpoafhgaaDoor
set_option linter.unusedVariables false
set_option linter.unusedSimpArgs false
open Go.RowKit
theorem infoOp : (Tryd.prog.info? 27).map (fun i => (i.zero, i.size, i.bytes)) = some (some (.agg #[.int .i64 0, .string ⟨#[]⟩, .int .i64 0]), 3, 32) := by kernel_rfl
theorem opRow_one (i : Nat) : ∀ u ∈ opRow i, u.oneCell' = true := by
  intro u hu
  simp only [opRow, List.mem_cons, List.not_mem_nil, or_false] at hu
  rcases hu with rfl | rfl | rfl <;> rfl
theorem name_at (k : Nat) (h : k < 67) : ((opNames.map Value.string).toArray)[k]? = some (.string (opName k)) := by
  have hl : k < opNames.length := h
  simp [opName, List.getD_eq_getElem?_getD, List.getElem?_eq_getElem hl]
theorem form_at (k : Nat) (h : k < 67) : ((opForms.map (Value.int .i64)).toArray)[k]? = some (.int .i64 (opForm k)) := by
  have hl : k < opForms.length := h
  simp [opForm, List.getD_eq_getElem?_getD, List.getElem?_eq_getElem hl]
set_option maxRecDepth 100000 in
set_option maxHeartbeats 4000000 in
theorem rops_any (w : World) : Calls Tryd.prog 11 #[] w fun e w' => ∃ g cap, e = .returned (.slice (some ⟨g, 0, none⟩) 67 cap) ∧ w'.ownsRow w.heap.size 27 3 (.slice (some ⟨g, 0, none⟩) 67 cap) 67 (opsTo 67) ∧ Keep w w' := by
  obtain ⟨i0, hi0, hz0, hz1, hz2⟩ := info_parts infoOp
  go_enter Tryd.func11, Tryd.ntmps11
  go_wp2_with fail
  go_loopw [3, 4] (fun v i wr => ∃ k : Nat, k ≤ 67 ∧ i = .int .i64 (k : Int) ∧ wr.ownsRow (w.heap.size + 2) 27 3 v k (opsTo k) ∧ Box wr w.heap.size ((opNames.map Value.string).toArray) ∧ Box wr (w.heap.size + 1) ((opForms.map (Value.int .i64)).toArray) ∧ Keep w wr) (fun _ i _ => 67 - (intOf i).toNat)
  case atStart => exact ⟨0, by decide, rfl, World.ownsRow_nil _ _ _ _, (Box.new w ((opNames.map Value.string).toArray) 9).alloc _, Box.new1 w _ ((opForms.map (Value.int .i64)).toArray) 3, ((Keep.refl _).alloc _).alloc _⟩
  case round =>
    obtain ⟨k, hk, rfl, hO, hN, hF, hK⟩ := hrel
    have k0 : (0 : Int) ≤ (k : Int) := Int.natCast_nonneg _
    by_cases h : k < 67
    · have hk67 : (k : Int) < 67 := by omega
      have HO := Lib.hid hO
      have HN := Lib.hid hN
      have HF := Lib.hid hF
      have HK := Lib.hid hK
      have lF := hF.lt
      have wk : IntKind.i64.wrap ((k : Int) + 1) = (k : Int) + 1 := by rw [IntKind.wrap_i64]; omega
      clear hO hN hF hK
      go_wp2_with fail
      refine Rel.regionO (KeepBut (fun z => w.heap.size + 2 ≤ z)) (butWay _) [12, 13] [0, 1, 2, 3, 4, 5, 6, 7, 8, 9, 10, 11, 12, 13, 14] (by kernel_rfl) (by kernel_rfl) (Keep.refl _) ?_
      repeat (apply Rel.ordK_step (by rfl) (by rfl) (by rfl)
              · intro W' hW'
                have c1 : W'.cell? ⟨w.heap.size, k, none⟩ = some (.string (opName k)) := by
                  rw [(HN.out.but hW' (by omega)).cells]
                  exact name_at k h
                have c2 : W'.cell? ⟨w.heap.size + 1, k, none⟩ = some (.int .i64 (opForm k)) := by
                  rw [(HF.out.but hW' (by omega)).cells]
                  exact form_at k h
                go_simp
                exact ⟨rfl, Keep.refl _⟩
              go_simp)
      apply Rel.ordK_loose (by rfl) (by rfl) (by rfl)
      intro W1 hW1
      go_simp
      apply Rel.gives_value
      refine ⟨((Keep.refl _).alloc _).but _, ?_⟩
      have BR : Box (W1.alloc (.cells #[.int .i64 ((k : Int) + 1), .string (opName k), .int .i64 (opForm k)] 27)) W1.heap.size #[.int .i64 ((k : Int) + 1), .string (opName k), .int .i64 (opForm k)] := Box.new _ _ _
      have KA : Keep wr (W1.alloc (.cells #[.int .i64 ((k : Int) + 1), .string (opName k), .int .i64 (opForm k)] 27)) := hW1.alloc _
      go_simp
      apply Rel.ordK_loose (by rfl) (by rfl) (by rfl)
      intro W3 hW3
      have K3 := KA.trans hW3
      have B3 := BR.keep hW3
      refine gives_append W3 (.tmp 13) (.tmp 25) 34 rfl (w.heap.size + 2) 27 i0 _ 3 32 Tryd.underlying34 hi0 hz0 hz1 hz2 rfl (by decide) _ k (opsTo k) rfl (owns_keep HO.out K3) ⟨W1.heap.size, 0, none⟩ 1 1 (opRow k) rfl rfl
        (by
          intro j u hj
          match j, hj with
          | 0, hj => simp [opRow] at hj; subst hj; simp [Addr.add, B3.cells]
          | 1, hj => simp [opRow] at hj; subst hj; simp [Addr.add, B3.cells]
          | 2, hj => simp [opRow] at hj; subst hj; simp [Addr.add, B3.cells]
          | (n + 3), hj => simp [opRow] at hj) (opRow_one k) (by unfold maxLen; omega) (by omega) (by have := HF.out.lt; have := K3.size; omega) ?_
      intro v' W' hown' hgrow
      have hS : ∀ g, Value.ownBlock _ = some g → w.heap.size + 2 ≤ g := fun g hg => (World.ownsRow.lt HO.out g hg).1
      have KB := grown_but hgrow (fun z => w.heap.size + 2 ≤ z) hS
      refine ⟨KB, ?_⟩
      have HN' := (HN.out.keep K3).but KB (by omega)
      have HF' := (HF.out.keep K3).but KB (by omega)
      have HK' := Lib.hid ((HK.out.trans K3).butNew KB (fun z hz => by omega))
      have HO' := Lib.hid hown'
      clear hgrow hS KB hown' K3 B3 hW3 BR KA hW1 HO HN HF HK lF
      go_simp
      repeat (apply Rel.ordK_step (by rfl) (by rfl) (by rfl)
              · intro W' hW'
                go_simp
                exact ⟨rfl, Keep.refl _⟩
              go_simp)
      apply Rel.ordK_end
      intro W5 hW5
      have KE := Lib.hid (HK'.out.trans hW5)
      have OE := Lib.hid (owns_keep HO'.out hW5)
      have NE := HN'.keep hW5
      have FE := HF'.keep hW5
      clear hW5 HK' HO' HN' HF'
      go_wp2_with fail
      exact ⟨⟨k + 1, h, by simp, OE.out, NE, FE, KE.out⟩, by simp [intOf]; omega⟩
    · obtain rfl : k = 67 := by omega
      obtain ⟨g, cap, rfl, -⟩ := hO.form (by decide)
      go_wp2_with fail
      go_ret
      exact ⟨g, cap, rfl, owns_base hO (by omega), hK⟩
end Go.Proofs.YtbpmjegpoafhgaaDoor
