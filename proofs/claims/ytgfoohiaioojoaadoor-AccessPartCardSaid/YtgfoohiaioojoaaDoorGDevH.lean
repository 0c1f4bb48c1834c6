/- DevEqual, DevSame: slices.Equal, Same. -/
import Derived.Test.YtgfoohiaioojoaaDoorGDevF
import Derived.RegionTactic
import Derived.Deep.LoopGhost
import Derived.Test.YtgfoohiaioojoaaDoorGBase
/- slices.Equal, Same. -/
namespace Go.Proofs.YtgfoohiaioojoaaDoor
set_option linter.unusedVariables false
set_option linter.unusedSimpArgs false
open Go.RowKit Go.Deep
set_option maxHeartbeats 2000000 in
set_option maxRecDepth 100000 in
theorem equal8 (b1 o1 c b2 o2 d : Nat) (xs ys : List Int) (w : World) (hl : xs.length ≤ 65536) (hl2 : ys.length ≤ 65536) (hc1 : ∀ j, j < xs.length → w.cell? ⟨b1, o1 + j, none⟩ = some (.int .u8 (xs.getD j 0))) (hc2 : ∀ j, j < ys.length → w.cell? ⟨b2, o2 + j, none⟩ = some (.int .u8 (ys.getD j 0))) :
    Calls Tryd.prog 63 #[.slice (some ⟨b1, o1, none⟩) xs.length c, .slice (some ⟨b2, o2, none⟩) ys.length d] w fun e w' => e = .returned (.bool (decide (xs = ys))) ∧ Keep w w' := by
  have H1 := Lib.hid hc1
  have H2 := Lib.hid hc2
  obtain ⟨n, hn⟩ : ∃ n, n = xs.length := ⟨_, rfl⟩
  rw [← hn] at hl ⊢
  have HN := Lib.hid hn
  by_cases hnm : n = ys.length
  · rw [← hnm]
    have HM := Lib.hid hnm
    clear hc1 hc2 hl2 hn hnm
    go_enter Tryd.func63, Tryd.ntmps63
    go_wp2_with fail
    go_loopw [5, 13] (fun _ i wr => ∃ k : Nat, k ≤ n ∧ i = .int .i64 (k : Int) ∧ Keep w wr ∧ ∀ j, j < k → xs.getD j 0 = ys.getD j 0) (fun _ i _ => n - (intOf i).toNat)
    case atStart => exact ⟨0, Nat.zero_le _, rfl, Keep.refl _, fun j hj => absurd hj (Nat.not_lt_zero _)⟩
    case round =>
      obtain ⟨k, hk, rfl, hK, heq⟩ := hrel
      have k0 : (0 : Int) ≤ (k : Int) := Int.natCast_nonneg _
      by_cases hlt : k < n
      · have hkn : (k : Int) < (n : Int) := by omega
        obtain ⟨x, hx⟩ : ∃ x, x = xs.getD k 0 := ⟨_, rfl⟩
        obtain ⟨y, hy⟩ : ∃ y, y = ys.getD k 0 := ⟨_, rfl⟩
        have g1 : wr.cell? ⟨b1, o1 + k, none⟩ = some (.int .u8 x) := by rw [hx]; exact hK.cellOf (H1.out k (by rw [← HN.out]; exact hlt))
        have g2 : wr.cell? ⟨b2, o2 + k, none⟩ = some (.int .u8 y) := by rw [hy]; exact hK.cellOf (H2.out k (by rw [← HM.out]; exact hlt))
        have HX := Lib.hid hx
        have HY := Lib.hid hy
        have HQ := Lib.hid heq
        have HK := Lib.hid hK
        clear hx hy heq hK
        by_cases hxy : x = y
        · subst hxy
          go_wp2_with fail
          go_region
          all_goals (go_wp2_with fail)
          all_goals (
            refine ⟨⟨k + 1, hlt, by simp, HK.out.drew, fun j hj => ?_⟩, by simp [intOf]; omega⟩
            by_cases e : j = k
            · subst e
              rw [← HX.out, ← HY.out]
            · exact HQ.out j (by omega))
        · go_wp2_with fail
          go_region
          go_wp2_with fail
          go_ret
          have hne : xs ≠ ys := fun h => hxy (by rw [HX.out, HY.out, h])
          rw [decide_eq_false hne]
          exact ⟨rfl, HK.out.drew⟩
      · obtain rfl : k = n := by omega
        have HQ := Lib.hid heq
        have HK := Lib.hid hK
        clear heq hK
        go_wp2_with fail
        go_ret
        have he : xs = ys := by
          refine List.ext_getElem (by rw [← HN.out, ← HM.out]) fun j h1 h2 => ?_
          have := HQ.out j (by rw [HN.out]; exact h1)
          simpa [List.getD_eq_getElem?_getD, List.getElem?_eq_getElem h1, List.getElem?_eq_getElem h2] using this
        rw [decide_eq_true he]
        exact ⟨rfl, HK.out⟩
  · have hnm' : ¬ (n : Int) = (ys.length : Int) := by omega
    have hne : Hid (xs ≠ ys) := Lib.hid (fun h => hnm (by rw [HN.out, h]))
    obtain ⟨l, hl⟩ : ∃ l, l = ys.length := ⟨_, rfl⟩
    rw [← hl] at hnm' hl2 ⊢
    clear hc1 hc2 hn hnm hl H1 H2 HN
    go_enter Tryd.func63, Tryd.ntmps63
    go_wp2_with fail
    go_ret
    rw [decide_eq_false hne.out]
    exact ⟨rfl, Keep.refl _⟩
set_option maxHeartbeats 2000000 in
set_option maxRecDepth 100000 in
theorem equalb (b1 o1 c b2 o2 d : Nat) (xs ys : List Bool) (w : World) (hl : xs.length ≤ 65536) (hl2 : ys.length ≤ 65536) (hc1 : ∀ j, j < xs.length → w.cell? ⟨b1, o1 + j, none⟩ = some (.bool (xs.getD j false))) (hc2 : ∀ j, j < ys.length → w.cell? ⟨b2, o2 + j, none⟩ = some (.bool (ys.getD j false))) :
    Calls Tryd.prog 64 #[.slice (some ⟨b1, o1, none⟩) xs.length c, .slice (some ⟨b2, o2, none⟩) ys.length d] w fun e w' => e = .returned (.bool (decide (xs = ys))) ∧ Keep w w' := by
  have H1 := Lib.hid hc1
  have H2 := Lib.hid hc2
  obtain ⟨n, hn⟩ : ∃ n, n = xs.length := ⟨_, rfl⟩
  rw [← hn] at hl ⊢
  have HN := Lib.hid hn
  by_cases hnm : n = ys.length
  · rw [← hnm]
    have HM := Lib.hid hnm
    clear hc1 hc2 hl2 hn hnm
    go_enter Tryd.func64, Tryd.ntmps64
    go_wp2_with fail
    go_loopw [5, 13] (fun _ i wr => ∃ k : Nat, k ≤ n ∧ i = .int .i64 (k : Int) ∧ Keep w wr ∧ ∀ j, j < k → xs.getD j false = ys.getD j false) (fun _ i _ => n - (intOf i).toNat)
    case atStart => exact ⟨0, Nat.zero_le _, rfl, Keep.refl _, fun j hj => absurd hj (Nat.not_lt_zero _)⟩
    case round =>
      obtain ⟨k, hk, rfl, hK, heq⟩ := hrel
      have k0 : (0 : Int) ≤ (k : Int) := Int.natCast_nonneg _
      by_cases hlt : k < n
      · have hkn : (k : Int) < (n : Int) := by omega
        obtain ⟨x, hx⟩ : ∃ x, x = xs.getD k false := ⟨_, rfl⟩
        obtain ⟨y, hy⟩ : ∃ y, y = ys.getD k false := ⟨_, rfl⟩
        have g1 : wr.cell? ⟨b1, o1 + k, none⟩ = some (.bool x) := by rw [hx]; exact hK.cellOf (H1.out k (by rw [← HN.out]; exact hlt))
        have g2 : wr.cell? ⟨b2, o2 + k, none⟩ = some (.bool y) := by rw [hy]; exact hK.cellOf (H2.out k (by rw [← HM.out]; exact hlt))
        have HX := Lib.hid hx
        have HY := Lib.hid hy
        have HQ := Lib.hid heq
        have HK := Lib.hid hK
        clear hx hy heq hK
        by_cases hxy : x = y
        · subst hxy
          go_wp2_with fail
          go_region
          all_goals (go_wp2_with fail)
          all_goals (
            refine ⟨⟨k + 1, hlt, by simp, HK.out.drew, fun j hj => ?_⟩, by simp [intOf]; omega⟩
            by_cases e : j = k
            · subst e
              rw [← HX.out, ← HY.out]
            · exact HQ.out j (by omega))
        · have hb : (x == y) = false := by cases x <;> cases y <;> simp_all
          have hb2 : (!(x == y)) = true := by rw [hb]; rfl
          go_wp2_with fail
          go_region
          go_wp2_with fail
          go_ret
          have hne : xs ≠ ys := fun h => hxy (by rw [HX.out, HY.out, h])
          rw [decide_eq_false hne]
          exact ⟨rfl, HK.out.drew⟩
      · obtain rfl : k = n := by omega
        have HQ := Lib.hid heq
        have HK := Lib.hid hK
        clear heq hK
        go_wp2_with fail
        go_ret
        have he : xs = ys := by
          refine List.ext_getElem (by rw [← HN.out, ← HM.out]) fun j h1 h2 => ?_
          have := HQ.out j (by rw [HN.out]; exact h1)
          simpa [List.getD_eq_getElem?_getD, List.getElem?_eq_getElem h1, List.getElem?_eq_getElem h2] using this
        rw [decide_eq_true he]
        exact ⟨rfl, HK.out⟩
  · have hnm' : ¬ (n : Int) = (ys.length : Int) := by omega
    have hne : Hid (xs ≠ ys) := Lib.hid (fun h => hnm (by rw [HN.out, h]))
    obtain ⟨l, hl⟩ : ∃ l, l = ys.length := ⟨_, rfl⟩
    rw [← hl] at hnm' hl2 ⊢
    clear hc1 hc2 hn hnm hl H1 H2 HN
    go_enter Tryd.func64, Tryd.ntmps64
    go_wp2_with fail
    go_ret
    rw [decide_eq_false hne.out]
    exact ⟨rfl, Keep.refl _⟩
end Go.Proofs.YtgfoohiaioojoaaDoor

/- Same. -/
namespace Go.Proofs.YtgfoohiaioojoaaDoor
set_option linter.unusedVariables false
set_option linter.unusedSimpArgs false
open Go.RowKit Go.Deep
variable {w : World} {m : Nat} {O : Nat → Prop} {bs : List Int} {ts : List Bool}
set_option maxRecDepth 100000 in
set_option maxHeartbeats 1000000 in
theorem dsame_any {m2 : Nat} {O2 : Nat → Prop} {bs2 : List Int} {ts2 : List Bool} (h : DMem w m O bs ts) (h2 : DMem w m2 O2 bs2 ts2) :
    Calls Tryd.prog 26 #[ptrV m, ptrV m2] w fun e w' => e = .returned (.bool (decide (bs = bs2) && decide (ts = ts2))) ∧ Keep w w' := by
  obtain ⟨gb, gt, cb, ct, hr, rfl⟩ := h
  obtain ⟨gb2, gt2, cb2, ct2, hr2, rfl⟩ := h2
  unfold ptrV
  have hM := hr.most
  have hM2 := hr2.most
  have hT : ts.length ≤ 65536 := by have := hr.len; omega
  have hT2 : ts2.length ≤ 65536 := by have := hr2.len; omega
  have BP := Lib.hid hr.box
  have BP2 := Lib.hid hr2.box
  have HR := Lib.hid hr
  have HR2 := Lib.hid hr2
  have C8 := Lib.hid (fun W (k : Keep w W) => equal8 gb 0 cb gb2 0 cb2 bs bs2 W hM hM2 (fun j hj => by rw [Nat.zero_add]; exact (HR.out.keep k).cell hj) (fun j hj => by rw [Nat.zero_add]; exact (HR2.out.keep k).cell hj))
  have CB := Lib.hid (fun W (k : Keep w W) => equalb gt 0 ct gt2 0 ct2 ts ts2 W hT hT2 (fun j hj => by rw [Nat.zero_add]; exact (HR.out.keep k).tag hj) (fun j hj => by rw [Nat.zero_add]; exact (HR2.out.keep k).tag hj))
  have lp := hr.box.lt
  have lp2 := hr2.box.lt
  obtain ⟨b1, hb1⟩ : ∃ b1, b1 = decide (bs = bs2) := ⟨_, rfl⟩
  obtain ⟨b2, hb2⟩ : ∃ b2, b2 = decide (ts = ts2) := ⟨_, rfl⟩
  rw [← hb1] at C8 ⊢
  rw [← hb2] at CB ⊢
  clear hr hr2 hb1 hb2 HR HR2
  go_enter Tryd.func26, Tryd.ntmps26
  go_wp2_with fail
  cases b1
  all_goals (
    refine region_grows (Keep _) (by kernel_rfl) (by kernel_rfl) (Keep.refl _).drew ?_
    repeat (first
      | (apply text_pass (by rfl)
         go_simp)
      | (apply text_step (by rfl)
         · intro W hW
           have c0 := (BP.out.keep hW).cells
           have c1 := (BP2.out.keep hW).cells
           go_simp
           first
             | exact ⟨rfl, hW⟩
             | (apply yes_enter; go_at_call 63; refine (C8.out _ hW).mono ?_; rintro e w' ⟨rfl, hk⟩; exact ⟨rfl, hW.trans hk⟩)
             | (apply yes_enter; go_at_call 64; refine (CB.out _ hW).mono ?_; rintro e w' ⟨rfl, hk⟩; exact ⟨rfl, hW.trans hk⟩)
         go_simp))
    apply text_end
    intro W hW
    go_wp2_with fail
    go_ret
    exact ⟨rfl, hW⟩)
end Go.Proofs.YtgfoohiaioojoaaDoor
