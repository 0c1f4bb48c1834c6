/- The reference's Reg: one name c0 to c15. -/
import Derived.Test.YtcdepfdfemmfhaaGreatDoorParIs
import Derived.Test.YtcdepfdfemmfhaaGreatDoorDec
import Derived.Test.YtcdepfdfemmfhaaGreatDoorGBase
namespace Go.Proofs.YtcdepfdfemmfhaaGreatDoor
set_option linter.unusedVariables false
set_option linter.unusedSimpArgs false
open Go.RowKit
theorem cName_dec (i : Nat) (h : i < 16) : (⟨#[99]⟩ : ByteArray) ++ ⟨(Lib.decDigits i).toArray⟩ = cName i := by
  unfold cName
  by_cases h10 : i < 10
  · rw [dec_last i h10, if_pos h10]; rfl
  · rw [dec_step i (by omega), dec_last (i / 10) (by omega), if_neg h10]
    have e1 : digB (i / 10) = 49 := by rw [show i / 10 = 1 by omega]; rfl
    have e2 : i % 10 = i - 10 := by omega
    rw [e1, e2]; rfl
/-- What Reg answers. -/
def regV (o : Option Nat) : Value := match o with
  | none => .tuple #[.int .i64 0, .bool false]
  | some r => .tuple #[.int .i64 r, .bool true]
theorem regFrom_lt {s : ByteArray} : ∀ (n i r : Nat), regFrom s n i = some r → r < i + n
  | 0, i, r, h => by cases h
  | n + 1, i, r, h => by
    unfold regFrom at h
    split at h
    · cases h; omega
    · have := regFrom_lt n (i + 1) r h; omega
theorem regL_lt {l : List Tok} {r : Nat} (h : regL l = some r) : r < 16 := by
  unfold regL at h
  split at h
  · split at h
    · have := regFrom_lt 16 0 r h; omega
    · cases h
  · cases h
set_option maxHeartbeats 2000000 in
set_option maxRecDepth 100000 in
theorem rreg_any (v : Value) (l : List Tok) (few : l.length ≤ 1000000) (w : World) (h : TokAt w v l) :
    Calls Tryz.prog 10 #[v] w fun e w' => e = .returned (regV (regL l)) ∧ Keep w w' := by
  obtain ⟨p, cap, rfl, hc, hl⟩ := h
  match l, hl with
  | [], hl =>
    clear hl
    go_enter Tryz.func10, Tryz.ntmps10
    go_wp2_with fail
    go_ret2
    exact ⟨rfl, Keep.refl _⟩
  | t :: u :: r, hl =>
    have e : regL (t :: u :: r) = none := rfl
    have q : (((t :: u :: r).length : Int) != 1) = true := by simp; omega
    have q2 : (((t :: u :: r).length : Nat) != 1) = true := by simp
    rw [e]
    generalize (t :: u :: r).length = n at q q2
    clear hl
    go_enter Tryz.func10, Tryz.ntmps10
    go_wp2_with fail
    go_ret2
    exact ⟨rfl, Keep.refl _⟩
  | [t], hl =>
    rcases hl with h0 | ⟨b, off, rfl, hb, hcell⟩
    · cases h0
    · obtain ⟨c0, c1, c2, c3⟩ := hcell 0 t rfl
      rw [Nat.zero_mul, Nat.add_zero] at c0 c1
      clear hcell c2 c3
      show Calls Tryz.prog 10 #[.slice (some ⟨b, off, none⟩) 1 cap] w _
      rcases Bool.eq_false_or_eq_true (t.kind == 1) with d | d
      · have d' : (t.kind != 1) = false := by rw [bne, d]; rfl
        have e : regL [t] = regNo t.text := by show (if t.kind = 1 then regNo t.text else none) = _; rw [if_pos (beq_iff_eq.1 d)]
        have HE := Lib.hid e
        have C0 := Lib.hid c0
        have C1 := Lib.hid c1
        obtain ⟨R, hR⟩ : ∃ R, R = regV (regL [t]) := ⟨_, rfl⟩
        rw [← hR]
        have HR := Lib.hid (hR.trans (by rw [e]; rfl) : R = regV (regFrom t.text 16 0))
        clear e hR
        go_enter Tryz.func10, Tryz.ntmps10
        go_wp2_with fail
        clear c0 c1
        go_loopw [4] (fun i wr => ∃ k : Nat, k ≤ 16 ∧ i = .int .i64 (k : Int) ∧ R = regV (regFrom t.text (16 - k) k) ∧ Keep w wr) (fun i _ => 16 - (intOf i).toNat)
        case atStart => exact ⟨0, by omega, rfl, HR.out, Keep.refl _⟩
        case round =>
          obtain ⟨k, hk, rfl, hr, hk1⟩ := hrel
          have HK := Lib.hid hk1
          have HR2 := Lib.hid hr
          clear hk1 hr
          have k0 : (0 : Int) ≤ (k : Int) := Int.natCast_nonneg _
          by_cases h : k < 16
          · have hki : (k : Int) < 16 := by omega
            have D := Lib.hid (fun W => decimal_any k W (by omega))
            have sz : (⟨(Lib.decDigits k).toArray⟩ : ByteArray).size ≤ 20 := by
              show (Lib.decDigits k).toArray.size ≤ 20
              rw [List.size_toArray, Lib.decDigits_length]; exact Lib.nDigits_le20 k (by omega)
            have cn := cName_dec k h
            have st := strEq t.text (cName k)
            rw [← cn] at st
            have step : regFrom t.text (16 - k) k = if t.text = cName k then some k else regFrom t.text (16 - (k + 1)) (k + 1) := by
              rw [show 16 - k = (16 - (k + 1)) + 1 by omega]; rfl
            have hs2 := HR2.out
            rw [step, ← cn] at hs2
            generalize (⟨(Lib.decDigits k).toArray⟩ : ByteArray) = X at D sz st hs2
            have HS := Lib.hid hs2
            clear hs2 step cn
            by_cases f : t.text = (⟨#[99]⟩ : ByteArray) ++ X
            · have hs3 := HS.out
              rw [if_pos f] at hs3
              have HF := Lib.hid hs3
              rw [decide_eq_true f] at st
              have HX := Lib.hid f
              clear hs3 f
              go_wp2_with fail
              refine region_grows (Keep wr) (by kernel_rfl) (by kernel_rfl) (Keep.refl _).drew ?_
              repeat (first
                | (apply text_pass (by rfl)
                   go_simp)
                | (apply text_step (by rfl)
                   · intro W hW
                     have c1 := (HK.out.trans hW).cellOf C1.out
                     go_simp
                     first
                      | exact ⟨rfl, hW⟩
                      | (rw [if_neg (by omega)]; exact ⟨rfl, hW⟩)
                      | (apply yes_enter; go_at_call 22; refine (D.out _).mono ?_; rintro e w' ⟨rfl, hk⟩; exact ⟨rfl, hW.trans hk⟩)
                   go_simp))
              apply text_end
              intro W5 hk5
              have K5 := Lib.hid (HK.out.trans hk5)
              clear hk5
              go_wp2_with fail
              go_ret2
              exact ⟨by rw [HF.out] <;> rfl, K5.out⟩
            · have hs3 := HS.out
              rw [if_neg f] at hs3
              have HF := Lib.hid hs3
              rw [decide_eq_false f] at st
              have HX := Lib.hid f
              clear hs3 f
              go_wp2_with fail
              refine region_grows (Keep wr) (by kernel_rfl) (by kernel_rfl) (Keep.refl _).drew ?_
              repeat (first
                | (apply text_pass (by rfl)
                   go_simp)
                | (apply text_step (by rfl)
                   · intro W hW
                     have c1 := (HK.out.trans hW).cellOf C1.out
                     go_simp
                     first
                      | exact ⟨rfl, hW⟩
                      | (rw [if_neg (by omega)]; exact ⟨rfl, hW⟩)
                      | (apply yes_enter; go_at_call 22; refine (D.out _).mono ?_; rintro e w' ⟨rfl, hk⟩; exact ⟨rfl, hW.trans hk⟩)
                   go_simp))
              apply text_end
              intro W5 hk5
              have K5 := Lib.hid (HK.out.trans hk5)
              clear hk5
              go_wp2_with fail
              go_roundw
              case rel => exact ⟨k + 1, by omega, by go_num, HF.out, K5.out⟩
              case measure => simp [intOf]; omega
          · obtain rfl : k = 16 := by omega
            go_wp2_with fail
            go_ret2
            exact ⟨by rw [HR2.out] <;> rfl, HK.out⟩
      · have d' : (t.kind != 1) = true := by rw [bne, d]; rfl
        have e : regL [t] = none := by show (if t.kind = 1 then regNo t.text else none) = _; rw [if_neg (beq_eq_false_iff_ne.1 d)]
        rw [e]
        go_enter Tryz.func10, Tryz.ntmps10
        go_wp2_with fail
        go_ret2
        exact ⟨rfl, Keep.refl _⟩
end Go.Proofs.YtcdepfdfemmfhaaGreatDoor
