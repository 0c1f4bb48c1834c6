/- The reference's is: is a word that sign? -/
import Derived.Test.YtcdepfdfemmfhaaGreatDoorParTab
import Derived.Test.YtcdepfdfemmfhaaGreatDoorChecked
import Derived.WalkKit
import Derived.Lib.Hide
namespace Go.Proofs.YtcdepfdfemmfhaaGreatDoor
set_option linter.unusedVariables false
set_option linter.unusedSimpArgs false
open Go.RowKit
theorem strEq (a b : ByteArray) : (a.toList == b.toList) = decide (a = b) := by
  rw [ByteArray.toList_eq, ByteArray.toList_eq]
  by_cases h : a = b
  · subst h; simp
  · have : a.data.toList ≠ b.data.toList := fun e => h (ByteArray.ext (Array.ext' e))
    rw [decide_eq_false h, beq_eq_false_iff_ne.2 this]
set_option maxHeartbeats 1000000 in
theorem ris_any (v : Value) (l : List Tok) (few : l.length ≤ 1000000) (a : Int) (i : Nat) (ha : a = (i : Int)) (s : ByteArray) (w : World) (h : TokAt w v l) :
    Calls Tryz.prog 17 #[v, .int .i64 a, .string s] w fun e w' => e = .returned (.bool (isSg l i s)) ∧ w = w' := by
  subst ha
  obtain ⟨p, cap, rfl, hc, hl⟩ := h
  have i0 : (0 : Int) ≤ (i : Int) := Int.natCast_nonneg _
  cases ht : l[i]? with
  | none =>
    have hi : ¬ (i : Int) < (l.length : Int) := by have := List.getElem?_eq_none_iff.1 ht; omega
    rw [show isSg l i s = false by unfold isSg; rw [ht]]
    clear hl ht
    go_enter Tryz.func17, Tryz.ntmps17
    go_wp2_with fail
    go_ret
    exact ⟨rfl, rfl⟩
  | some t =>
    have hi := (List.getElem?_eq_some_iff.1 ht).1
    have hi' : (i : Int) < (l.length : Int) := by omega
    rcases hl with h0 | ⟨b, off, rfl, hb, hcell⟩
    · rw [h0] at hi; simp at hi
    · obtain ⟨c0, c1, c2, c3⟩ := hcell i t ht
      have e : isSg l i s = (decide (t.kind = 3) && decide (t.text = s)) := by unfold isSg; rw [ht]; rfl
      have st := strEq t.text s
      rw [e]
      clear hcell ht e
      rcases Bool.eq_false_or_eq_true (decide (t.kind = 3)) with d | d
      · have d' : (t.kind == 3) = true := by simpa using d
        rcases Bool.eq_false_or_eq_true (decide (t.text = s)) with f | f
        · rw [f] at st
          rw [d, f]
          go_enter Tryz.func17, Tryz.ntmps17
          go_wp2_with fail
          go_ret
          exact ⟨rfl, rfl⟩
        · rw [f] at st
          rw [d, f]
          go_enter Tryz.func17, Tryz.ntmps17
          go_wp2_with fail
          go_ret
          exact ⟨rfl, rfl⟩
      · have d' : (t.kind == 3) = false := by simpa using d
        rw [d]
        go_enter Tryz.func17, Tryz.ntmps17
        go_wp2_with fail
        go_ret
        exact ⟨rfl, rfl⟩
end Go.Proofs.YtcdepfdfemmfhaaGreatDoor
