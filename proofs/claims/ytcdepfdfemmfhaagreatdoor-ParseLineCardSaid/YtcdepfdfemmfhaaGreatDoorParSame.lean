/- hasplaw12.Same, hasplaw14.Same: of the same words, of the same line: true. -/
import Derived.Test.YtcdepfdfemmfhaaGreatDoorParOps
import Derived.Test.YtcdepfdfemmfhaaGreatDoorGBase
namespace Go.Proofs.YtcdepfdfemmfhaaGreatDoor
set_option linter.unusedVariables false
set_option linter.unusedSimpArgs false
open Go.RowKit
set_option maxHeartbeats 4000000 in
set_option maxRecDepth 100000 in
theorem sameToks (u v : Value) (l : List Tok) (few : l.length ≤ 1000000) (w : World) (hu : TokAt w u l) (hv : TokAt w v l) :
    Calls Tryz.prog 13 #[u, v] w fun e w' => e = .returned (.bool true) ∧ Keep w w' := by
  obtain ⟨p, cap, rfl, hc, hl⟩ := hu
  obtain ⟨q, cap', rfl, hc', hl'⟩ := hv
  go_enter Tryz.func13, Tryz.ntmps13
  go_wp2_with fail
  have HL := Lib.hid hl
  have HL' := Lib.hid hl'
  clear hl hl'
  go_loopw [5] (fun i wr => ∃ k : Nat, k ≤ l.length ∧ i = .int .i64 (k : Int) ∧ Keep w wr) (fun i _ => l.length - (intOf i).toNat)
  case atStart => exact ⟨0, Nat.zero_le _, rfl, Keep.refl _⟩
  case round =>
    obtain ⟨k, hk, rfl, hK⟩ := hrel
    have HK := Lib.hid hK
    clear hK
    have k0 : (0 : Int) ≤ (k : Int) := Int.natCast_nonneg _
    by_cases h : k < l.length
    · have h' : (k : Int) < (l.length : Int) := by omega
      obtain ⟨t, ht⟩ : ∃ t, l[k]? = some t := ⟨_, List.getElem?_eq_getElem h⟩
      rcases HL.out with h0 | ⟨b, off, rfl, hb, hcell⟩
      · rw [h0] at h; simp at h
      rcases HL'.out with h0 | ⟨b', off', rfl, hb', hcell'⟩
      · rw [h0] at h; simp at h
      have CA := Lib.hid (hcell k t ht)
      have CB := Lib.hid (hcell' k t ht)
      have st : (t.text.toList != t.text.toList) = false := by simp
      have e1 : (t.kind != t.kind) = false := by simp
      have e2 : (t.n != t.n) = false := by simp
      have e3 : (t.pl != t.pl) = false := by simp
      clear hcell hcell' ht
      go_wp2_with fail
      refine region_grows (Keep wr) (by kernel_rfl) (by kernel_rfl) (Keep.refl _).drew ?_
      repeat (first
        | (apply text_pass (by rfl)
           go_simp)
        | (apply text_step (by rfl)
           · intro W hW
             have a0 := (HK.out.trans hW).cellOf CA.out.1
             have a1 := (HK.out.trans hW).cellOf CA.out.2.1
             have a2 := (HK.out.trans hW).cellOf CA.out.2.2.1
             have a3 := (HK.out.trans hW).cellOf CA.out.2.2.2
             have b0 := (HK.out.trans hW).cellOf CB.out.1
             have b1 := (HK.out.trans hW).cellOf CB.out.2.1
             have b2 := (HK.out.trans hW).cellOf CB.out.2.2.1
             have b3 := (HK.out.trans hW).cellOf CB.out.2.2.2
             go_simp
             exact ⟨rfl, hW⟩
           go_simp))
      apply text_end
      intro W5 hk5
      have K5 := Lib.hid (HK.out.trans hk5)
      clear hk5
      go_wp2_with fail
      go_roundw
      case rel => exact ⟨k + 1, h, by go_num, K5.out⟩
      case measure => simp [intOf]; omega
    · obtain rfl : k = l.length := by omega
      go_wp2_with fail
      go_ret
      exact ⟨rfl, HK.out⟩
end Go.Proofs.YtcdepfdfemmfhaaGreatDoor
