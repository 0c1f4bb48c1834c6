/- The reference's sign: is the next word one of some signs? -/
import Derived.Test.YtockkidbncpdlaaGreatDoorEvRd
import Derived.Test.YtockkidbncpdlaaGreatDoorGBase
namespace Go.Proofs.YtockkidbncpdlaaGreatDoor
set_option linter.unusedVariables false
set_option linter.unusedSimpArgs false
open Go.RowKit
theorem inS_at (s : ByteArray) : ∀ (S : List ByteArray) (j : Nat), S[j]? = some s → inS S s = true
  | [], j, h => by simp at h
  | x :: S, 0, h => by simp at h; subst h; simp [inS]
  | x :: S, j + 1, h => by simp at h; simp [inS, inS_at s S j h]
theorem inS_no (s : ByteArray) : ∀ (S : List ByteArray), (∀ (j : Nat) (x : ByteArray), S[j]? = some x → x ≠ s) → inS S s = false
  | [], _ => rfl
  | x :: S, h => by
    simp only [inS, Bool.or_eq_false_iff, decide_eq_false_iff_not]
    exact ⟨h 0 x rfl, inS_no s S fun j y hj => h (j + 1) y (by simpa using hj)⟩
theorem str_beq2 (a b : ByteArray) : (a.toList == b.toList) = decide (a = b) := by
  rw [ByteArray.toList_eq, ByteArray.toList_eq]
  by_cases h : a = b
  · subst h; simp
  · rw [decide_eq_false h, beq_eq_false_iff_ne]
    exact fun e => h (ByteArray.ext (Array.ext' e))
/-- Once an error is told there is no sign. -/
theorem rsign_bad (r : Rdr) (pl e : Int) (v : Value) (w : World) (h : r.Bad w pl e) : Calls Tryz.prog 31 #[.pointer (some ⟨r.b, 0, none⟩), v] w fun x w' => x = .returned (.string ⟨#[]⟩) ∧ Keep w w' := by
  obtain ⟨he, a, h⟩ := h
  unfold Rdr.cells at h
  have HB := Lib.hid h
  have he' : (e == 0) = false := beq_eq_false_iff_ne.2 he
  have he2 : (e != 0) = true := by rw [bne, he']; rfl
  clear h he
  go_enter Tryz.func31, Tryz.ntmps31
  go_wp2_with fail
  refine region_grows (Keep w) (by kernel_rfl) (by kernel_rfl) (Keep.refl _).drew ?_
  repeat (first
    | (apply text_pass (by rfl); go_simp)
    | (apply text_step (by rfl)
       · intro W hW
         have c := (HB.out.keep hW).cells
         go_simp
         exact ⟨rfl, hW⟩
       go_simp))
  apply text_end
  intro W hW
  have HW := Lib.hid hW
  clear hW
  go_wp2_with fail
  go_ret
  exact ⟨rfl, HW.out⟩
set_option maxHeartbeats 2000000 in
set_option maxRecDepth 100000 in
theorem rsign_ok (r : Rdr) (p gs : Nat) (S : List ByteArray) (w : World) (hr : r.In w) (h : r.Ok w p) (hS : Box w gs (S.map Value.string).toArray) (hl : S.length ≤ 6) : Calls Tryz.prog 31 #[.pointer (some ⟨r.b, 0, none⟩), .slice (some ⟨gs, 0, none⟩) S.length S.length] w fun x w' => x = .returned (.string ((signAt r.toks p S).getD ⟨#[]⟩)) ∧ Keep w w' := by
  unfold Rdr.Ok Rdr.cells at h
  have HB := Lib.hid h
  have HR := Lib.hid hr
  have HS := Lib.hid hS
  have few := hr.few
  clear h hr hS
  by_cases hp : p < r.toks.length
  · obtain ⟨t, ht⟩ : ∃ t, r.toks[p]? = some t := ⟨_, List.getElem?_eq_getElem hp⟩
    have HT := Lib.hid ht
    have hpi : (p : Int) < (r.toks.length : Int) := by omega
    have hpd : decide (r.toks.length ≤ p) = false := decide_eq_false (by omega)
    have cap := HR.out.cap
    obtain ⟨g, hg, hgb, _⟩ := HR.out.tok ht
    rw [hg] at HB
    by_cases k3 : t.kind = 3
    · have E : signAt r.toks p S = if inS S t.text = true then some t.text else none := by
        unfold signAt; rw [ht]; simp only [k3, true_and]
      have HE := Lib.hid E
      clear E ht
      go_enter Tryz.func31, Tryz.ntmps31
      go_wp2_with fail
      refine region_grows (Keep w) (by kernel_rfl) (by kernel_rfl) (Keep.refl _).drew ?_
      repeat (first
        | (apply text_pass (by rfl); go_simp)
        | (apply text_step (by rfl)
           · intro W hW
             have c := (HB.out.keep hW).cells
             obtain ⟨g', hg', _, c0, c1, c2, c3⟩ := (HR.out.keep hW).tok HT.out
             rw [hg] at hg'
             simp only [Option.some.injEq, Addr.mk.injEq, and_true] at hg'
             subst hg'
             rw [k3] at c0
             go_simp
             exact ⟨rfl, hW⟩
           go_simp))
      apply text_end
      intro W hW
      have HW := Lib.hid hW
      clear hW
      go_wp2_with fail
      go_loopw [5] (fun i wr => ∃ k : Nat, k ≤ S.length ∧ i = .int .i64 (k : Int) ∧ (∀ (j : Nat) (x : ByteArray), j < k → S[j]? = some x → x ≠ t.text) ∧ Keep w wr) (fun i _ => S.length - (intOf i).toNat)
      case atStart => exact ⟨0, Nat.zero_le _, rfl, fun j x hj => absurd hj (by omega), HW.out⟩
      case round =>
        obtain ⟨k, hk, rfl, hno, hK⟩ := hrel
        have HN := Lib.hid hno
        have HK := Lib.hid hK
        clear hno hK
        by_cases h : k < S.length
        · obtain ⟨x, hx⟩ : ∃ x, S[k]? = some x := ⟨_, List.getElem?_eq_getElem h⟩
          have HX := Lib.hid hx
          clear hx
          have hki : (k : Int) < (S.length : Int) := by omega
          rcases Bool.eq_false_or_eq_true (t.text.toList == x.toList) with d | d
          · have e : t.text = x := by
              rw [str_beq2] at d
              exact of_decide_eq_true d
            have HE2 := Lib.hid e
            clear e
            go_wp2_with fail
            refine region_grows (Keep wr) (by kernel_rfl) (by kernel_rfl) (Keep.refl _).drew ?_
            repeat (first
              | (apply text_pass (by rfl); go_simp)
              | (apply text_step (by rfl)
                 · intro W hW
                   have c := ((HB.out.keep HK.out).keep hW).cells
                   obtain ⟨g', hg', _, c0, c1, c2, c3⟩ := ((HR.out.keep HK.out).keep hW).tok HT.out
                   rw [hg] at hg'
                   simp only [Option.some.injEq, Addr.mk.injEq, and_true] at hg'
                   subst hg'
                   have cs : W.cell? ⟨gs, k, none⟩ = some (.string x) := by
                     rw [((HS.out.keep HK.out).keep hW).cells]
                     have := HX.out
                     simp [this]
                   go_simp
                   exact ⟨rfl, hW⟩
                 go_simp))
            apply text_end
            intro W hW
            have HW2 := Lib.hid (HK.out.trans hW)
            have cs : W.cell? ⟨gs, k, none⟩ = some (.string x) := by
              rw [((HS.out.keep HK.out).keep hW).cells]
              have := HX.out
              simp [this]
            clear hW
            go_wp2_with fail
            go_ret
            refine ⟨?_, HW2.out⟩
            rw [HE.out, inS_at t.text S k (by rw [HX.out, HE2.out]), if_pos rfl, HE2.out]
            rfl
          · have HS2 : Hid (∀ (j : Nat) (y : ByteArray), j < k + 1 → S[j]? = some y → y ≠ t.text) := Lib.hid (fun j y hj hy => by
              by_cases e : j = k
              · subst e
                rw [HX.out] at hy
                cases hy
                intro hc
                rw [str_beq2, hc] at d
                simp at d
              · exact HN.out j y (by omega) hy)
            go_wp2_with fail
            refine region_grows (Keep wr) (by kernel_rfl) (by kernel_rfl) (Keep.refl _).drew ?_
            repeat (first
              | (apply text_pass (by rfl); go_simp)
              | (apply text_step (by rfl)
                 · intro W hW
                   have c := ((HB.out.keep HK.out).keep hW).cells
                   obtain ⟨g', hg', _, c0, c1, c2, c3⟩ := ((HR.out.keep HK.out).keep hW).tok HT.out
                   rw [hg] at hg'
                   simp only [Option.some.injEq, Addr.mk.injEq, and_true] at hg'
                   subst hg'
                   have cs : W.cell? ⟨gs, k, none⟩ = some (.string x) := by
                     rw [((HS.out.keep HK.out).keep hW).cells]
                     have := HX.out
                     simp [this]
                   go_simp
                   exact ⟨rfl, hW⟩
                 go_simp))
            apply text_end
            intro W hW
            have HW2 := Lib.hid (HK.out.trans hW)
            clear hW
            go_wp2_with fail
            go_roundw
            case rel => exact ⟨k + 1, h, by go_num, HS2.out, HW2.out⟩
            case measure => simp [intOf]; omega
        · obtain rfl : k = S.length := by omega
          go_wp2_with fail
          go_ret
          refine ⟨?_, HK.out⟩
          rw [HE.out, inS_no t.text S (fun j x hj => HN.out j x (List.getElem?_eq_some_iff.1 hj).1 hj)]
          rfl
    · have E : signAt r.toks p S = none := by
        unfold signAt; rw [ht]; simp only [k3, false_and, if_neg, not_false_eq_true, if_false]
      have HE := Lib.hid E
      have k3' : (t.kind != 3) = true := by simp [bne]; omega
      have K3 := Lib.hid k3
      clear E ht k3
      go_enter Tryz.func31, Tryz.ntmps31
      go_wp2_with fail
      refine region_grows (Keep w) (by kernel_rfl) (by kernel_rfl) (Keep.refl _).drew ?_
      repeat (first
        | (apply text_pass (by rfl); go_simp)
        | (apply text_step (by rfl)
           · intro W hW
             have c := (HB.out.keep hW).cells
             obtain ⟨g', hg', _, c0, c1, c2, c3⟩ := (HR.out.keep hW).tok HT.out
             rw [hg] at hg'
             simp only [Option.some.injEq, Addr.mk.injEq, and_true] at hg'
             subst hg'
       
             go_simp
             exact ⟨rfl, hW⟩
           go_simp))
      apply text_end
      intro W hW
      have HW := Lib.hid hW
      clear hW
      go_wp2_with fail
      go_ret
      exact ⟨by rw [HE.out]; rfl, HW.out⟩
  · have E : signAt r.toks p S = none := by
      unfold signAt; rw [List.getElem?_eq_none (by omega)]
    have HE := Lib.hid E
    have hpd : decide (r.toks.length ≤ p) = true := decide_eq_true (by omega)
    have hpi : (r.toks.length : Int) ≤ (p : Int) := by omega
    clear E
    go_enter Tryz.func31, Tryz.ntmps31
    go_wp2_with fail
    refine region_grows (Keep w) (by kernel_rfl) (by kernel_rfl) (Keep.refl _).drew ?_
    repeat (first
      | (apply text_pass (by rfl); go_simp)
      | (apply text_step (by rfl)
         · intro W hW
           have c := (HB.out.keep hW).cells
           go_simp
           exact ⟨rfl, hW⟩
         go_simp))
    apply text_end
    intro W hW
    have HW := Lib.hid hW
    clear hW
    go_wp2_with fail
    go_ret
    exact ⟨by rw [HE.out]; rfl, HW.out⟩
end Go.Proofs.YtockkidbncpdlaaGreatDoor
