/- ObjMid, ObjPName: Objects of no great size, plain. -/
import Derived.Test.YtmcbeclkocjlkaaDoorGRows
import Derived.Test.YtmcbeclkocjlkaaDoorGObjF
/- Objects of no great size, plain. -/
namespace Go.Proofs.YtmcbeclkocjlkaaDoor
set_option linter.unusedVariables false
set_option linter.unusedSimpArgs false
open Go.RowKit
/-- What of an object is not great. -/
structure ObjMid (o : ObjV) : Prop where
  name : o.name.size ≤ 1000
  code : o.code.length ≤ 100000
  data : o.data.length ≤ 100000
  syms : o.syms.length ≤ 1000
  rels : o.rels.length ≤ 1000
  symN : ∀ s ∈ o.syms, s.name.size ≤ 1000
  relC : ∀ r ∈ o.rels, r.comp.size ≤ 1000
  relN : ∀ r ∈ o.rels, r.name.size ≤ 1000
theorem ObjFew.mid {o : ObjV} (h : ObjFew o) : ObjMid o := by
  refine ⟨?_, ?_, ?_, ?_, ?_, fun s hs => ?_, fun r hr => ?_, fun r hr => ?_⟩
  · have := h.name; omega
  · have := h.code; omega
  · have := h.data; omega
  · have := h.syms; omega
  · have := h.rels; omega
  · have := h.symN s hs; omega
  · have := h.relC r hr; omega
  · have := h.relN r hr; omega
end Go.Proofs.YtmcbeclkocjlkaaDoor

/- The program's letters, digits, Name. -/
namespace Go.Proofs.YtmcbeclkocjlkaaDoor
set_option linter.unusedVariables false
set_option linter.unusedSimpArgs false
open Go.RowKit
theorem pletterO_any (c : Int) (w : World) : Calls Tryd.prog 75 #[.int .u8 c] w fun e w' => e = .returned (.bool (lxLetter c)) ∧ w = w' := by
  rcases (by omega : c < 65 ∨ (65 ≤ c ∧ c ≤ 90) ∨ (91 ≤ c ∧ c ≤ 94) ∨ c = 95 ∨ c = 96 ∨ (97 ≤ c ∧ c ≤ 122) ∨ 123 ≤ c) with h | h | h | h | h | h | h
  · have q : (c == 95) = false := by simp; omega
    rw [show lxLetter c = false by rw [← Bool.not_eq_true, lxLetter_iff]; omega]
    go_enter Tryd.func75, Tryd.ntmps75
    go_wp2_with fail
    go_ret
    exact ⟨rfl, rfl⟩
  · obtain ⟨h2, h3⟩ := h
    have q : (c == 95) = false := by simp; omega
    rw [show lxLetter c = true by rw [lxLetter_iff]; omega]
    go_enter Tryd.func75, Tryd.ntmps75
    go_wp2_with fail
    go_ret
    exact ⟨rfl, rfl⟩
  · obtain ⟨h2, h3⟩ := h
    have q : (c == 95) = false := by simp; omega
    have q2 : decide (c ≤ 90) = false := decide_eq_false (by omega)
    rw [show lxLetter c = false by rw [← Bool.not_eq_true, lxLetter_iff]; omega]
    go_enter Tryd.func75, Tryd.ntmps75
    go_wp2_with fail
    go_ret
    exact ⟨rfl, rfl⟩
  · subst h
    go_enter Tryd.func75, Tryd.ntmps75
    go_wp2_with fail
    go_ret
    exact ⟨rfl, rfl⟩
  · subst h
    go_enter Tryd.func75, Tryd.ntmps75
    go_wp2_with fail
    go_ret
    exact ⟨rfl, rfl⟩
  · obtain ⟨h2, h3⟩ := h
    rw [show lxLetter c = true by rw [lxLetter_iff]; omega]
    go_enter Tryd.func75, Tryd.ntmps75
    go_wp2_with fail
    go_ret
    exact ⟨rfl, rfl⟩
  · have q : (c == 95) = false := by simp; omega
    have q2 : decide (c ≤ 90) = false := decide_eq_false (by omega)
    have q3 : decide (c ≤ 122) = false := decide_eq_false (by omega)
    rw [show lxLetter c = false by rw [← Bool.not_eq_true, lxLetter_iff]; omega]
    go_enter Tryd.func75, Tryd.ntmps75
    go_wp2_with fail
    go_ret
    exact ⟨rfl, rfl⟩
theorem pdigitO_any (c : Int) (w : World) : Calls Tryd.prog 74 #[.int .u8 c] w fun e w' => e = .returned (.bool (lxDigit c)) ∧ w = w' := by
  rcases (by omega : c < 48 ∨ (48 ≤ c ∧ c ≤ 57) ∨ 58 ≤ c) with h | h | h
  · rw [show lxDigit c = false by rw [← Bool.not_eq_true, lxDigit_iff]; omega]
    go_enter Tryd.func74, Tryd.ntmps74
    go_wp2_with fail
    go_ret
    exact ⟨rfl, rfl⟩
  · obtain ⟨h2, h3⟩ := h
    rw [show lxDigit c = true by rw [lxDigit_iff]; omega]
    go_enter Tryd.func74, Tryd.ntmps74
    go_wp2_with fail
    go_ret
    exact ⟨rfl, rfl⟩
  · have q : decide (c ≤ 57) = false := decide_eq_false (by omega)
    rw [show lxDigit c = false by rw [← Bool.not_eq_true, lxDigit_iff]; omega]
    go_enter Tryd.func74, Tryd.ntmps74
    go_wp2_with fail
    go_ret
    exact ⟨rfl, rfl⟩
set_option maxHeartbeats 1000000 in
theorem pname_any (s : ByteArray) (hs : s.size ≤ 140737488355328) (w : World) : Calls Tryd.prog 61 #[.string s] w fun e w' => e = .returned (.bool (goodB s)) ∧ w = w' := by
  by_cases h0 : s.size = 0
  · rw [goodB_none h0]
    have h1 : (s.size : Int) = 0 := by omega
    go_enter Tryd.func61, Tryd.ntmps61
    go_wp2_with fail
    go_ret
    exact ⟨rfl, rfl⟩
  have h0' : 0 < s.size := by omega
  have h0i : (0 : Int) < (s.size : Int) := by omega
  have E := goodB_some h0'
  by_cases h16 : s.size ≤ 16
  · have h16i : (s.size : Int) ≤ 16 := by omega
    have q0 : ((s.size : Int) == 0) = false := beq_eq_false_iff_ne.2 (by omega)
    have q16 : decide ((16 : Int) < (s.size : Int)) = false := decide_eq_false (by omega)
    have CD := Lib.hid (fun W => pdigitO_any (s[0]'h0').toNat W)
    rw [decide_eq_true h16, Bool.and_true] at E
    cases hd : lxDigit (s[0]'h0').toNat with
    | true =>
      rw [hd] at E CD
      rw [E]
      clear hd E
      go_enter Tryd.func61, Tryd.ntmps61
      go_wp2_with ((with_reducible refine (CD.out _).mono ?_); rintro e w' ⟨rfl, rfl⟩)
      go_ret
      exact ⟨rfl, rfl⟩
    | false =>
      rw [hd] at E CD
      rw [Bool.not_false, Bool.true_and] at E
      obtain ⟨g, hg⟩ : ∃ g, g = goodB s := ⟨_, rfl⟩
      rw [← hg] at E ⊢
      have HE := Lib.hid E
      clear hd E hg
      go_enter Tryd.func61, Tryd.ntmps61
      go_wp2_with ((with_reducible refine (CD.out _).mono ?_); rintro e w' ⟨rfl, rfl⟩)
      go_loop [3, 19] (fun _ i => ∃ k : Nat, k ≤ s.size ∧ i = .int .i64 (k : Int) ∧ g = (s.data.toList.drop k).all goodC) (fun _ i => s.size - (intOf i).toNat)
      case atStart => exact ⟨0, Nat.zero_le _, rfl, by rw [List.drop_zero]; exact HE.out⟩
      case round =>
        obtain ⟨k, hk, rfl, hi⟩ := hrel
        have HN := Lib.hid hi
        clear hi
        by_cases h : k < s.size
        · obtain ⟨y, hy⟩ : ∃ y, y = lxLetter (s[k]'h).toNat := ⟨_, rfl⟩
          obtain ⟨z, hz⟩ : ∃ z, z = lxDigit (s[k]'h).toNat := ⟨_, rfl⟩
          have hst : g = ((y || z) && (s.data.toList.drop (k + 1)).all goodC) := by
            have e := all_at (l := s.data.toList) (k := k) (by simpa using h)
            rw [HN.out, e, hy, hz]
            rfl
          have CLk := Lib.hid (fun W => pletterO_any (s[k]'h).toNat W)
          have CDk := Lib.hid (fun W => pdigitO_any (s[k]'h).toNat W)
          rw [← hy] at CLk
          rw [← hz] at CDk
          have hki : (k : Int) < (s.size : Int) := by omega
          clear hy hz
          cases y
          · cases z
            · rw [Bool.or_false, Bool.false_and] at hst
              subst hst
              go_wp2_with (first | ((with_reducible refine (CLk.out _).mono ?_); rintro e w' ⟨rfl, rfl⟩) | ((with_reducible refine (CDk.out _).mono ?_); rintro e w' ⟨rfl, rfl⟩))
              go_ret
              exact ⟨rfl, rfl⟩
            · rw [Bool.or_true, Bool.true_and] at hst
              have HS := Lib.hid hst
              clear hst
              go_wp2_with (first | ((with_reducible refine (CLk.out _).mono ?_); rintro e w' ⟨rfl, rfl⟩) | ((with_reducible refine (CDk.out _).mono ?_); rintro e w' ⟨rfl, rfl⟩))
              go_round
              case rel => exact ⟨k + 1, h, by go_num, HS.out⟩
              case measure => simp [intOf]; omega
          · rw [Bool.true_or, Bool.true_and] at hst
            have HS := Lib.hid hst
            clear hst
            go_wp2_with (first | ((with_reducible refine (CLk.out _).mono ?_); rintro e w' ⟨rfl, rfl⟩) | ((with_reducible refine (CDk.out _).mono ?_); rintro e w' ⟨rfl, rfl⟩))
            go_round
            case rel => exact ⟨k + 1, h, by go_num, HS.out⟩
            case measure => simp [intOf]; omega
        · obtain rfl : k = s.size := by omega
          have e : g = true := by
            rw [HN.out, List.drop_eq_nil_of_le (by simp)]
            rfl
          subst e
          go_wp2_with fail
          go_ret
          exact ⟨rfl, rfl⟩
  · have h16i : (16 : Int) < (s.size : Int) := by omega
    have q0 : ((s.size : Int) == 0) = false := beq_eq_false_iff_ne.2 (by omega)
    have q16 : decide ((16 : Int) < (s.size : Int)) = true := decide_eq_true (by omega)
    have e : goodB s = false := by rw [E, decide_eq_false h16, Bool.and_false, Bool.false_and]
    rw [e]
    clear E e
    go_enter Tryd.func61, Tryd.ntmps61
    go_wp2_with fail
    go_ret
    exact ⟨rfl, rfl⟩
end Go.Proofs.YtmcbeclkocjlkaaDoor
