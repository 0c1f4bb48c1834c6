/- The reference's Mem: words, then a register in brackets. -/
import Derived.Test.YtcdepfdfemmfhaaGreatDoorParReg
namespace Go.Proofs.YtcdepfdfemmfhaaGreatDoor
set_option linter.unusedVariables false
set_option linter.unusedSimpArgs false
open Go.RowKit
/-- What Mem answers. -/
def MemV (l : List Tok) (e : Ending) (w' : World) : Prop := match memL l with
  | none => e = .returned (.tuple #[.slice none 0 0, .int .i64 0, .bool false])
  | some (m, r) => ∃ v, e = .returned (.tuple #[v, .int .i64 r, .bool true]) ∧ TokAt w' v m
theorem MemV.no {l : List Tok} {w' : World} (h : memL l = none) : MemV l (.returned (.tuple #[.slice none 0 0, .int .i64 0, .bool false])) w' := by unfold MemV; rw [h]
theorem MemV.yes {l m : List Tok} {r : Nat} {w' : World} {v : Value} (h : memL l = some (m, r)) (hv : TokAt w' v m) : MemV l (.returned (.tuple #[v, .int .i64 r, .bool true])) w' := by unfold MemV; rw [h]; exact ⟨v, rfl, hv⟩
set_option maxHeartbeats 2000000 in
theorem rmem_any (v : Value) (l : List Tok) (few : l.length ≤ 1000000) (w : World) (h : TokAt w v l) :
    Calls Tryz.prog 12 #[v] w fun e w' => MemV l e w' ∧ Keep w w' := by
  have HT := Lib.hid h
  have h' := h
  obtain ⟨p, cap, rfl, hc, hl⟩ := h
  by_cases n3 : l.length < 3
  · have E : memL l = none := by unfold memL; rw [if_neg (by omega)]
    have HE := Lib.hid E
    have n3' : (l.length : Int) < 3 := by omega
    clear E h' hl
    go_enter Tryz.func12, Tryz.ntmps12
    go_wp2_with fail
    go_ret3
    exact ⟨MemV.no HE.out, Keep.refl _⟩
  · rcases hl with h0 | ⟨b, off, rfl, hb, hcell⟩
    · rw [h0] at n3; exact absurd (by decide) n3
    · have n3' : ¬ (l.length : Int) < 3 := by omega
      have C1 := Lib.hid (fun W (hW : TokAt W (.slice (some ⟨b, off, none⟩) l.length cap) l) => ris_any _ l few ((l.length : Int) - 1) (l.length - 1) (by omega) sRight W hW)
      have C2 := Lib.hid (fun W (hW : TokAt W (.slice (some ⟨b, off, none⟩) l.length cap) l) => ris_any _ l few ((l.length : Int) - 3) (l.length - 3) (by omega) sLeft W hW)
      unfold sRight at C1
      unfold sLeft at C2
      rcases Bool.eq_false_or_eq_true (isSg l (l.length - 1) sRight) with d1 | d1
      · rcases Bool.eq_false_or_eq_true (isSg l (l.length - 3) sLeft) with d2 | d2
        · unfold sRight at d1
          unfold sLeft at d2
          rw [d1] at C1
          rw [d2] at C2
          have E : memL l = match regL ((l.drop (l.length - 2)).take 1) with
              | none => none
              | some r => some (l.take (l.length - 3), r) := by
            unfold memL; rw [if_pos ⟨by omega, d1, d2⟩]; cases regL ((l.drop (l.length - 2)).take 1) <;> rfl
          have HE := Lib.hid E
          have e1 : ((l.length : Int) - 2).toNat = l.length - 2 := by omega
          have e2 : ((l.length : Int) - 1).toNat = l.length - 1 := by omega
          have e3 : ((l.length : Int) - 3).toNat = l.length - 3 := by omega
          have e4 : (0 : Int) ≤ (l.length : Int) - 2 := by omega
          have e5 : (l.length : Int) - 2 ≤ (l.length : Int) - 1 := by omega
          have e6 : (l.length : Int) - 1 ≤ (cap : Int) := by omega
          have e7 : (0 : Int) ≤ (l.length : Int) - 3 := by omega
          have e8 : (l.length : Int) - 3 ≤ (cap : Int) := by omega
          have e9 : l.length - 1 - (l.length - 2) = 1 := by omega
          clear E d1 d2 h' hcell
          go_enter Tryz.func12, Tryz.ntmps12
          go_wp2_with (first | ((with_reducible refine (C1.out _ HT.out).mono ?_); rintro e w' ⟨rfl, rfl⟩) | ((with_reducible refine (C2.out _ HT.out).mono ?_); rintro e w' ⟨rfl, rfl⟩))
          have hp1 := HT.out.part (l.length - 2) 1 (by omega) (some ⟨b, off + (l.length - 2) * 4, none⟩) (cap - (l.length - 2)) (fun _ => ⟨b, off, rfl, rfl⟩) (by omega)
          refine (rreg_any _ _ (by simp; omega) _ hp1).mono ?_
          rintro e w1 ⟨rfl, hk⟩
          have HK := Lib.hid hk
          have T1 := Lib.hid (HT.out.keep hk)
          clear hp1 hk C1 C2
          cases hr : regL ((l.drop (l.length - 2)).take 1) with
          | none =>
            have E := HE.out
            rw [hr] at E
            have HN : Hid (memL l = none) := Lib.hid E
            unfold regV
            clear E hr
            go_wp2_with fail
            go_ret3
            exact ⟨MemV.no HN.out, HK.out⟩
          | some r =>
            have E := HE.out
            rw [hr] at E
            have HN : Hid (memL l = some (l.take (l.length - 3), r)) := Lib.hid E
            unfold regV
            clear E hr
            go_wp2_with fail
            go_ret3
            refine ⟨MemV.yes HN.out ?_, HK.out⟩
            have := T1.out.part 0 (l.length - 3) (by omega) (some ⟨b, off, none⟩) cap (fun _ => ⟨b, off, rfl, rfl⟩) (by omega)
            simpa using this
        · unfold sRight at d1
          unfold sLeft at d2
          rw [d1] at C1
          rw [d2] at C2
          have E : memL l = none := by unfold memL; rw [if_neg (fun h => by have := h.2.2; unfold sLeft at this; rw [d2] at this; cases this)]
          have HE := Lib.hid E
          clear E d1 d2 h' hcell
          go_enter Tryz.func12, Tryz.ntmps12
          go_wp2_with (first | ((with_reducible refine (C1.out _ HT.out).mono ?_); rintro e w' ⟨rfl, rfl⟩) | ((with_reducible refine (C2.out _ HT.out).mono ?_); rintro e w' ⟨rfl, rfl⟩))
          go_ret3
          exact ⟨MemV.no HE.out, Keep.refl _⟩
      · unfold sRight at d1
        rw [d1] at C1
        have E : memL l = none := by unfold memL; rw [if_neg (fun h => by have := h.2.1; unfold sRight at this; rw [d1] at this; cases this)]
        have HE := Lib.hid E
        clear E d1 h' hcell
        go_enter Tryz.func12, Tryz.ntmps12
        go_wp2_with ((with_reducible refine (C1.out _ HT.out).mono ?_); rintro e w' ⟨rfl, rfl⟩)
        go_ret3
        exact ⟨MemV.no HE.out, Keep.refl _⟩
end Go.Proofs.YtcdepfdfemmfhaaGreatDoor
