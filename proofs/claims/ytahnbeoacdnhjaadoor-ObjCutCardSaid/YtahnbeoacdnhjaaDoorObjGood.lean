/- The reference's Good: is it a Name? -/
import Derived.Test.YtahnbeoacdnhjaaDoorObjAt
import Derived.Test.YtahnbeoacdnhjaaDoorLexOne
namespace Go.Proofs.YtahnbeoacdnhjaaDoor
set_option linter.unusedVariables false
set_option linter.unusedSimpArgs false
open Go.RowKit
theorem list_hd (s : ByteArray) (h : 0 < s.size) : s.data.toList = s[0] :: s.data.toList.drop 1 := by
  have hl : 0 < s.data.toList.length := by simpa using h
  have e := List.drop_eq_getElem_cons hl
  rw [List.drop_zero] at e
  rw [e]
  rfl
theorem all_at {l : List UInt8} {k : Nat} (h : k < l.length) : (l.drop k).all goodC = (goodC (l[k]'h) && (l.drop (k + 1)).all goodC) := by
  rw [List.drop_eq_getElem_cons h, List.all_cons]
theorem goodB_none {s : ByteArray} (h : s.size = 0) : goodB s = false := by
  have : s.data.toList = [] := List.length_eq_zero_iff.1 (by simpa using h)
  unfold goodB; rw [this]; rfl
theorem goodB_some {s : ByteArray} (h : 0 < s.size) : goodB s = (!lxDigit (s[0]'h).toNat && decide (s.size ≤ 16) && s.data.toList.all goodC) := by
  have e := list_hd s h
  have hl : s.data.toList.length = s.size := by simp
  unfold goodB
  rw [e] at hl ⊢
  simp only [goodL]
  congr 2
  simp only [List.length_cons] at hl
  exact decide_eq_decide.2 (by omega)
set_option maxHeartbeats 1000000 in
theorem rgood_any (s : ByteArray) (hs : s.size ≤ 140737488355328) (w : World) : Calls Tryd.prog 15 #[.string s] w fun e w' => e = .returned (.bool (goodB s)) ∧ w = w' := by
  by_cases h0 : s.size = 0
  · rw [goodB_none h0]
    have h1 : (s.size : Int) = 0 := by omega
    go_enter Tryd.func15, Tryd.ntmps15
    go_wp2_with fail
    go_ret
    exact ⟨rfl, rfl⟩
  have h0' : 0 < s.size := by omega
  have h0i : (0 : Int) < (s.size : Int) := by omega
  have E := goodB_some h0'
  by_cases h16 : s.size ≤ 16
  · have h16i : (s.size : Int) ≤ 16 := by omega
    have CD := Lib.hid (fun W => rdigit_any (s[0]'h0').toNat W)
    rw [decide_eq_true h16, Bool.and_true] at E
    cases hd : lxDigit (s[0]'h0').toNat with
    | true =>
      rw [hd] at E CD
      rw [E]
      clear hd E
      go_enter Tryd.func15, Tryd.ntmps15
      go_wp2_with ((with_reducible refine (CD.out _).mono ?_); rintro e w' ⟨rfl, rfl⟩)
      go_ret
      exact ⟨rfl, rfl⟩
    | false =>
      rw [hd] at E CD
      rw [Bool.not_false, Bool.true_and] at E
      obtain ⟨g, hg⟩ : ∃ g, g = goodB s := ⟨_, rfl⟩
      rw [← hg] at E ⊢
      have HE := Lib.hid E
      clear hd E hg
      go_enter Tryd.func15, Tryd.ntmps15
      go_wp2_with ((with_reducible refine (CD.out _).mono ?_); rintro e w' ⟨rfl, rfl⟩)
      go_loop [3] (fun i => ∃ k : Nat, k ≤ s.size ∧ i = .int .i64 (k : Int) ∧ g = (s.data.toList.drop k).all goodC) (fun i => s.size - (intOf i).toNat)
      case atStart => exact ⟨0, Nat.zero_le _, rfl, by rw [List.drop_zero]; exact HE.out⟩
      case round =>
        obtain ⟨k, hk, rfl, hi⟩ := hrel
        have HN := Lib.hid hi
        clear hi
        by_cases h : k < s.size
        · obtain ⟨y, hy⟩ : ∃ y, y = lxLetter (s[k]'h).toNat := ⟨_, rfl⟩
          obtain ⟨z, hz⟩ : ∃ z, z = lxDigit (s[k]'h).toNat := ⟨_, rfl⟩
          have hst : g = ((y || z) && (s.data.toList.drop (k + 1)).all goodC) := by
            have e := all_at (l := s.data.toList) (k := k) (by simpa using h)
            rw [HN.out, e, hy, hz]
            rfl
          have CLk := Lib.hid (fun W => rletter_any (s[k]'h).toNat W)
          have CDk := Lib.hid (fun W => rdigit_any (s[k]'h).toNat W)
          rw [← hy] at CLk
          rw [← hz] at CDk
          have hki : (k : Int) < (s.size : Int) := by omega
          clear hy hz
          cases y
          · cases z
            · rw [Bool.or_false, Bool.false_and] at hst
              subst hst
              go_wp2_with (first | ((with_reducible refine (CLk.out _).mono ?_); rintro e w' ⟨rfl, rfl⟩) | ((with_reducible refine (CDk.out _).mono ?_); rintro e w' ⟨rfl, rfl⟩))
              go_ret
              exact ⟨rfl, rfl⟩
            · rw [Bool.or_true, Bool.true_and] at hst
              have HS := Lib.hid hst
              clear hst
              go_wp2_with (first | ((with_reducible refine (CLk.out _).mono ?_); rintro e w' ⟨rfl, rfl⟩) | ((with_reducible refine (CDk.out _).mono ?_); rintro e w' ⟨rfl, rfl⟩))
              go_round
              case rel => exact ⟨k + 1, h, by go_num, HS.out⟩
              case measure => simp [intOf]; omega
          · rw [Bool.true_or, Bool.true_and] at hst
            have HS := Lib.hid hst
            clear hst
            go_wp2_with (first | ((with_reducible refine (CLk.out _).mono ?_); rintro e w' ⟨rfl, rfl⟩) | ((with_reducible refine (CDk.out _).mono ?_); rintro e w' ⟨rfl, rfl⟩))
            go_round
            case rel => exact ⟨k + 1, h, by go_num, HS.out⟩
            case measure => simp [intOf]; omega
        · obtain rfl : k = s.size := by omega
          have e : g = true := by
            rw [HN.out, List.drop_eq_nil_of_le (by simp)]
            rfl
          subst e
          go_wp2_with fail
          go_ret
          exact ⟨rfl, rfl⟩
  · have h16i : (16 : Int) < (s.size : Int) := by omega
    have e : goodB s = false := by rw [E, decide_eq_false h16, Bool.and_false, Bool.false_and]
    rw [e]
    clear E e
    go_enter Tryd.func15, Tryd.ntmps15
    go_wp2_with fail
    go_ret
    exact ⟨rfl, rfl⟩
end Go.Proofs.YtahnbeoacdnhjaaDoor
