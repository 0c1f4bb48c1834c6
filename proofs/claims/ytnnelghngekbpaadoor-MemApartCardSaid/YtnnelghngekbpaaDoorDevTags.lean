/- Tag, Tags. -/
import Derived.Test.YtnnelghngekbpaaDoorDevFns
import Derived.OwnWalk
namespace Go.Proofs.YtnnelghngekbpaaDoor
set_option linter.unusedVariables false
set_option linter.unusedSimpArgs false
open Go.RowKit Go.Deep
variable {w : World} {m : Nat} {O : Nat → Prop} {bs : List Int} {ts : List Bool}
set_option maxHeartbeats 1000000 in
theorem dtag_any (a : Int) (ha : In64 a) (h : DMem w m O bs ts) :
    Calls Tryd.prog 23 #[ptrV m, .int .i64 a] w fun e w' => e = .returned (.bool (decide (0 ≤ a) && decide (a < bs.length) && ts.getD (a.toNat / 16) false)) ∧ Keep w w' := by
  obtain ⟨gb, gt, cb, ct, hr, rfl⟩ := h
  unfold ptrV
  have C := Lib.hid (holds_any a 1 ha (by unfold In64; decide) w hr)
  have hM := hr.most
  have hlen := hr.len
  have HR := Lib.hid hr
  obtain ⟨L, hLe⟩ : ∃ L, L = bs.length := ⟨_, rfl⟩
  rw [← hLe] at C hM hlen ⊢
  unfold In64 at ha
  have HL := Lib.hid hLe
  clear hr hLe
  go_enter Tryd.func23, Tryd.ntmps23
  go_wp2_with fail
  refine C.out.mono ?_
  rintro e w1 ⟨v1, rfl, hv1, hk1⟩
  by_cases hrr : reachB a 1 L = true
  · unfold reachV at hv1
    rw [if_pos hrr] at hv1
    obtain rfl := hv1.ok
    obtain ⟨r0, r1, r2⟩ := reachB_true hrr
    obtain ⟨A, rfl⟩ := Int.eq_ofNat_of_zero_le r0
    have R1 := HR.out.keep hk1
    have p0 := R1.box.cells
    have lp := R1.box.lt
    have a4 : A / 16 < ts.length := by omega
    have g2 : w1.cell? ⟨gt, A / 16, none⟩ = some (.bool (ts.getD (A / 16) false)) := by
      exact R1.tag a4
    have hd : Int.tdiv (A : Int) 16 = ((A / 16 : Nat) : Int) := by rw [Int.tdiv_eq_ediv_of_nonneg (by omega)]; omega
    have e1 : (decide (0 ≤ (A : Int)) && decide ((A : Int) < (L : Int)) && ts.getD ((A : Int).toNat / 16) false) = ts.getD (A / 16) false := by
      rw [decide_eq_true r0, decide_eq_true (show (A : Int) < (L : Int) by omega), Int.toNat_natCast]; rfl
    obtain ⟨z, hz⟩ : ∃ z, z = ts.getD (A / 16) false := ⟨_, rfl⟩
    rw [← hz] at e1 g2
    have E1 := Lib.hid e1
    have K1 := Lib.hid hk1
    clear hv1 hk1 R1 hrr e1 hz HR HL
    go_wp2_with fail
    go_ret
    rw [E1.out]
    exact ⟨rfl, K1.out⟩
  · unfold reachV at hv1
    rw [if_neg hrr] at hv1
    obtain ⟨q, rfl⟩ := hv1.fault (fun h => absurd (okV_wrong h.symm) (by decide))
    have e1 : (decide (0 ≤ a) && decide (a < (L : Int)) && ts.getD (a.toNat / 16) false) = false := by
      by_cases q1 : 0 ≤ a
      · rw [decide_eq_false (show ¬ a < (L : Int) from fun q2 => hrr (by simp [reachB]; omega)), Bool.and_false, Bool.false_and]
      · rw [decide_eq_false q1, Bool.false_and, Bool.false_and]
    have E1 := Lib.hid e1
    have K1 := Lib.hid hk1
    unfold faultP
    clear hv1 hk1 hrr e1 HR HL
    go_wp2_with fail
    go_ret
    rw [E1.out]
    exact ⟨rfl, K1.out⟩
theorem dsize_any (h : DMem w m O bs ts) : Calls Tryd.prog 28 #[ptrV m] w fun e w' => e = .returned (.int .i64 (bs.length : Int)) ∧ Keep w w' := by
  obtain ⟨gb, gt, cb, ct, hr, rfl⟩ := h
  exact rsize_any hr
set_option maxRecDepth 100000 in
set_option maxHeartbeats 1000000 in
theorem dtags_any (h : DMem w m O bs ts) : Calls Tryd.prog 26 #[ptrV m] w fun e w' => ∃ v, e = .returned v ∧ w'.ownsRow w.heap.size 3 1 v (tagsAt ts ts.length).length ((tagsAt ts ts.length).map (Value.int .i64)) ∧ Keep w w' := by
  obtain ⟨gb, gt, cb, ct, h, rfl⟩ := h
  unfold ptrV
  have hM := h.most
  have hlen := h.len
  obtain ⟨i0, hi0, hz0, hz1, hz2⟩ := info_parts infoInt
  obtain ⟨M, hMe⟩ : ∃ M, M = ts.length := ⟨_, rfl⟩
  have HH := Lib.hid h
  have BP := h.box
  have lp := BP.lt
  have cp := BP.cells
  rw [← hMe] at BP cp hlen ⊢
  have HE := Lib.hid hMe
  have m63 : (M : Int) ≤ 4096 := by omega
  clear h hMe
  go_enter Tryd.func26, Tryd.ntmps26
  go_wp2_with fail
  go_loopw [3, 11] (fun v i wr => ∃ k : Nat, k ≤ M ∧ i = .int .i64 (k : Int) ∧ wr.ownsRow w.heap.size 3 1 v (tagsAt ts k).length ((tagsAt ts k).map (Value.int .i64)) ∧ Keep w wr) (fun _ i _ => M - (intOf i).toNat)
  case atStart => exact ⟨0, Nat.zero_le _, rfl, ⟨by simp [tagsAt], .inl ⟨rfl, by simp [tagsAt]⟩⟩, Keep.refl _⟩
  case round =>
    obtain ⟨k, hk, rfl, hO, hK⟩ := hrel
    have k0 : (0 : Int) ≤ (k : Int) := Int.natCast_nonneg _
    clear cp
    by_cases h : k < M
    · have hkN : (k : Int) < (M : Int) := by omega
      have g2 : wr.cell? ⟨gt, k, none⟩ = some (.bool (ts.getD k false)) := by
        exact (HH.out.keep hK).tag (by rw [← HE.out]; exact h)
      have HO := Lib.hid hO
      have HK := Lib.hid hK
      clear hO hK
      have htl := tagsAt_length ts k
      have wk : IntKind.i64.wrap ((k : Int) * 16) = (k : Int) * 16 := by rw [IntKind.wrap_i64]; omega
      cases ht : ts.getD k false
      · have hstep : tagsAt ts (k + 1) = tagsAt ts k := by rw [tagsAt, ht]; rfl
        have HS := Lib.hid hstep
        rw [ht] at g2
        clear hstep htl
        go_wp2_with fail
        refine ⟨⟨k + 1, h, by simp, ?_, HK.out⟩, by simp [intOf]; omega⟩
        rw [HS.out]
        exact HO.out
      · have hstep : tagsAt ts (k + 1) = tagsAt ts k ++ [16 * (k : Int)] := by rw [tagsAt, ht]; rfl
        have HS := Lib.hid hstep
        have hL := Lib.hid htl
        rw [ht] at g2
        clear hstep htl
        go_wp2_with (at_builtin; refine wpList_append_own _ rfl _ _ 66 rfl w.heap.size 3 i0 (.int .i64 0) 1 8 Tryd.underlying66 hi0 hz0 hz1 hz2 rfl (by decide) _ _ _ rfl (HO.out.alloc _) ⟨wr.heap.size, 0, none⟩ 1 1 [.int .i64 ((k : Int) * 16)] rfl rfl ?c1 ?c2 ?c3 ?c4 ?c5 ?_)
        case c1 =>
          intro j u hj
          match j, hj with
          | 0, hj => simp at hj; subst hj; simp [Addr.add]
        case c2 => intro u hu; simp at hu; subst hu; rfl
        case c3 => have := hL.out; unfold maxLen; omega
        case c4 => have := hL.out; omega
        case c5 => have := HK.out.size; simp; omega
        intro v' w1 hown' hgrow _
        have KG : Keep w w1 := grown_keep (HK.out.alloc _) hgrow (fun c hc => (World.ownsRow.lt HO.out c hc).1)
        clear hgrow
        go_wp2_with fail
        refine ⟨⟨k + 1, h, by simp, ?_, KG⟩, by simp [intOf]; omega⟩
        rw [HS.out, Int.mul_comm 16]
        simpa using hown'
    · obtain rfl : k = M := by omega
      go_wp2_with fail
      go_ret
      exact ⟨_, rfl, hO, hK⟩
end Go.Proofs.YtnnelghngekbpaaDoor
