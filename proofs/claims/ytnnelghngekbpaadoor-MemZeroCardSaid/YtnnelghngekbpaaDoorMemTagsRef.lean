/- The reference's Tags: where granules with tags begin. -/
import Derived.Test.YtnnelghngekbpaaDoorMemNew
import Derived.OwnWalk
namespace Go.Proofs.YtnnelghngekbpaaDoor
set_option linter.unusedVariables false
set_option linter.unusedSimpArgs false
open Go.RowKit Go.Deep
/-- Of the first k granules. -/
def tagsAt (ts : List Bool) : Nat → List Int
  | 0 => []
  | k + 1 => if ts.getD k false = true then tagsAt ts k ++ [16 * (k : Int)] else tagsAt ts k
theorem tagsAt_length (ts : List Bool) (k : Nat) : (tagsAt ts k).length ≤ k := by
  induction k with
  | zero => simp [tagsAt]
  | succ k ih => unfold tagsAt; split <;> (try simp) <;> omega
theorem infoInt : (Tryd.prog.info? 3).map (fun i => (i.zero, i.size, i.bytes)) = some (some (.int .i64 0), 1, 8) := by kernel_rfl
set_option maxRecDepth 100000 in
set_option maxHeartbeats 1000000 in
theorem rtags_any (p gb gt cb ct : Nat) (bs : List Int) (ts : List Bool) (w : World) (h : RMem w p gb gt cb ct bs ts) :
    Calls Tryd.prog 44 #[.pointer (some ⟨p, 0, none⟩)] w fun e w' => ∃ v, e = .returned v ∧ w'.ownsRow w.heap.size 3 1 v (tagsAt ts ts.length).length ((tagsAt ts ts.length).map (Value.int .i64)) ∧ Keep w w' := by
  have hM := h.most
  have hlen := h.len
  obtain ⟨i0, hi0, hz0, hz1, hz2⟩ := info_parts infoInt
  obtain ⟨M, hMe⟩ : ∃ M, M = ts.length := ⟨_, rfl⟩
  have HH := Lib.hid h
  have BP := h.box
  have lp := BP.lt
  rw [← hMe] at BP hlen ⊢
  have HE := Lib.hid hMe
  have m63 : (M : Int) ≤ 4096 := by omega
  clear h hMe
  go_enter Tryd.func44, Tryd.ntmps44
  go_wp2_with fail
  go_loopw [3, 4] (fun v i wr => ∃ k : Nat, k ≤ M ∧ i = .int .i64 (k : Int) ∧ wr.ownsRow w.heap.size 3 1 v (tagsAt ts k).length ((tagsAt ts k).map (Value.int .i64)) ∧ Keep w wr) (fun _ i _ => M - (intOf i).toNat)
  case atStart => exact ⟨0, Nat.zero_le _, rfl, ⟨by simp [tagsAt], .inl ⟨rfl, by simp [tagsAt]⟩⟩, Keep.refl _⟩
  case round =>
    obtain ⟨k, hk, rfl, hO, hK⟩ := hrel
    have k0 : (0 : Int) ≤ (k : Int) := Int.natCast_nonneg _
    have p0 := (BP.keep hK).cells
    by_cases h : k < M
    · have hkN : (k : Int) < (M : Int) := by omega
      have g2 : wr.cell? ⟨gt, k, none⟩ = some (.bool (ts.getD k false)) := by
        rw [(HH.out.keep hK).tags.cells]
        have : k < ts.length := by rw [← HE.out]; exact h
        simp [bls, List.getD_eq_getElem?_getD, List.getElem?_eq_getElem this]
      have HO := Lib.hid hO
      have HK := Lib.hid hK
      clear hO hK
      have htl := tagsAt_length ts k
      cases ht : ts.getD k false
      · have hstep : tagsAt ts (k + 1) = tagsAt ts k := by rw [tagsAt, ht]; rfl
        have HS := Lib.hid hstep
        rw [ht] at g2
        clear hstep htl
        go_wp2_with fail
        refine ⟨⟨k + 1, h, by simp, ?_, HK.out⟩, by simp [intOf]; omega⟩
        rw [HS.out]
        exact HO.out
      · have hstep : tagsAt ts (k + 1) = tagsAt ts k ++ [16 * (k : Int)] := by rw [tagsAt, ht]; rfl
        have HS := Lib.hid hstep
        have hL := Lib.hid htl
        rw [ht] at g2
        clear hstep htl
        go_wp2_with (at_builtin; refine wpList_append_own _ rfl _ _ 66 rfl w.heap.size 3 i0 (.int .i64 0) 1 8 Tryd.underlying66 hi0 hz0 hz1 hz2 rfl (by decide) _ _ _ rfl (HO.out.alloc _) ⟨wr.heap.size, 0, none⟩ 1 1 [.int .i64 (16 * (k : Int))] rfl rfl ?c1 ?c2 ?c3 ?c4 ?c5 ?_)
        case c1 =>
          intro j u hj
          match j, hj with
          | 0, hj => simp at hj; subst hj; simp [Addr.add]
        case c2 => intro u hu; simp at hu; subst hu; rfl
        case c3 => have := hL.out; unfold maxLen; omega
        case c4 => have := hL.out; omega
        case c5 => have := HK.out.size; simp; omega
        intro v' w1 hown' hgrow _
        have KG : Keep w w1 := grown_keep (HK.out.alloc _) hgrow (fun c hc => (World.ownsRow.lt HO.out c hc).1)
        clear hgrow
        go_wp2_with fail
        refine ⟨⟨k + 1, h, by simp, ?_, KG⟩, by simp [intOf]; omega⟩
        rw [HS.out]
        simpa using hown'
    · obtain rfl : k = M := by omega
      go_wp2_with fail
      go_ret
      exact ⟨_, rfl, hO, hK⟩
end Go.Proofs.YtnnelghngekbpaaDoor
