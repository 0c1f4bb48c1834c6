/- The reference's number: the one a text begins with. -/
import Derived.Test.YtcdepfdfemmfhaaGreatDoorLexOne
import Derived.Test.YtcdepfdfemmfhaaGreatDoorLexMath
namespace Go.Proofs.YtcdepfdfemmfhaaGreatDoor
set_option linter.unusedVariables false
set_option linter.unusedSimpArgs false
open Go.RowKit
theorem drop_at (s : ByteArray) (k : Nat) (h : k < s.size) : s.data.toList.drop k = s[k] :: s.data.toList.drop (k + 1) := by
  rw [List.drop_eq_getElem_cons (by simpa using h)]; rfl
theorem drop_end (s : ByteArray) (k : Nat) (h : s.size ≤ k) : s.data.toList.drop k = [] := List.drop_eq_nil_of_le (by simpa using h)
theorem byte_bd (c : UInt8) : (0 : Int) ≤ (c.toNat : Int) ∧ (c.toNat : Int) < 256 := ⟨by omega, by have := c.toNat_lt; omega⟩
def NumInv (l : List UInt8) (base : Int) (k : Nat) (n : Int) : Prop := numLen l = k + (numRun base (l.drop k) n).1 ∧ numVal l = (numRun base (l.drop k) n).2 ∧ 0 ≤ n ∧ n ≤ 1099511627776
theorem NumInv.step {s : ByteArray} {base n h : Int} {k : Nat} (hi : NumInv s.data.toList base k n) (hk : k < s.size) (hh : h = lxHex (s[k]'hk).toNat) (h0 : 0 ≤ h) (h1 : h < base) (m : Int) (hm : m = capBig (n * base + h)) : NumInv s.data.toList base (k + 1) m := by
  obtain ⟨a, b, c, d⟩ := hi
  rw [drop_at s k hk] at a b
  unfold numRun at a b
  rw [← hh, if_pos ⟨h0, h1⟩, ← hm] at a b
  have hn := Int.mul_nonneg c (by omega : 0 ≤ base)
  have := capBig_bd (n * base + h) (by omega)
  refine ⟨by rw [a]; simp; omega, b, by omega, by rw [hm]; exact this.2⟩
theorem NumInv.stop {s : ByteArray} {base n h : Int} {k : Nat} (hi : NumInv s.data.toList base k n) (hk : k < s.size) (hh : h = lxHex (s[k]'hk).toNat) (h0 : ¬ (0 ≤ h ∧ h < base)) : numLen s.data.toList = k ∧ numVal s.data.toList = n := by
  obtain ⟨a, b, c, d⟩ := hi
  rw [drop_at s k hk] at a b
  unfold numRun at a b
  rw [← hh, if_neg h0] at a b
  exact ⟨a, b⟩
theorem NumInv.over {s : ByteArray} {base n : Int} {k : Nat} (hi : NumInv s.data.toList base k n) (hk : s.size ≤ k) : numLen s.data.toList = k ∧ numVal s.data.toList = n := by
  obtain ⟨a, b, c, d⟩ := hi
  rw [drop_end s k hk] at a b
  exact ⟨a, b⟩
theorem NumInv.start (l : List UInt8) : NumInv l (numBase l) (numAt l) 0 := ⟨rfl, rfl, by decide, by decide⟩
theorem isHexL_at (s : ByteArray) (h : 2 < s.size) : isHexL s.data.toList = ((((s[0]'(by omega)).toNat : Int) == 48) && (((s[1]'(by omega)).toNat : Int) == 120) && decide (0 ≤ lxHex (s[2]'h).toNat)) := by
  have e0 := drop_at s 0 (by omega)
  have e1 := drop_at s 1 (by omega)
  have e2 := drop_at s 2 h
  rw [List.drop_zero] at e0
  rw [e0, e1, e2]
  rfl
theorem isHexL_short (s : ByteArray) (h : s.size ≤ 2) : isHexL s.data.toList = false := by
  have hl : s.data.toList.length ≤ 2 := by simpa using h
  match hs : s.data.toList, hl with
  | [], _ => rfl
  | [a], _ => rfl
  | [a, b], _ => rfl
/-- What number answers. -/
def numV (l : List UInt8) : Value := .tuple #[.int .i64 (numLen l), .int .i64 (if numErr l = 0 then numVal l else 0), .int .i64 (numErr l)]
theorem numV_at (l : List UInt8) {k : Nat} {n : Int} (h : numLen l = k ∧ numVal l = n) : numV l = if badNext (l.drop k) = true then .tuple #[.int .i64 k, .int .i64 0, .int .i64 11] else if lxBig ≤ n then .tuple #[.int .i64 k, .int .i64 0, .int .i64 14] else .tuple #[.int .i64 k, .int .i64 n, .int .i64 0] := by
  unfold numV numErr
  rw [h.1, h.2]
  split
  · simp
  · split <;> simp
set_option maxHeartbeats 4000000 in
theorem rnumber_any (s : ByteArray) (hs : s.size ≤ 140737488355328) (w : World) : Calls Tryz.prog 51 #[.string s] w fun e w' => e = .returned (numV s.data.toList) ∧ w = w' := by
  obtain ⟨R, hR⟩ : ∃ R, R = numV s.data.toList := ⟨_, rfl⟩
  rw [← hR]
  have HR := Lib.hid hR
  clear hR
  have HX := Lib.hid (fun (k : Nat) (h : k < s.size) W => rhex_any (s[k]'h).toNat (byte_bd _).1 (byte_bd _).2 W)
  have HI := Lib.hid (NumInv.start s.data.toList)
  have ways : (s.size ≤ 2 ∧ isHexL s.data.toList = false) ∨ ∃ h : 2 < s.size, ((((s[0]'(by omega)).toNat : Int) == 48) = false ∧ isHexL s.data.toList = false) ∨ (((s[0]'(by omega)).toNat : Int) = 48 ∧ (((s[1]'(by omega)).toNat : Int) == 120) = false ∧ isHexL s.data.toList = false) ∨
      (((s[0]'(by omega)).toNat : Int) = 48 ∧ ((s[1]'(by omega)).toNat : Int) = 120 ∧ lxHex (s[2]'h).toNat < 0 ∧ isHexL s.data.toList = false) ∨ (((s[0]'(by omega)).toNat : Int) = 48 ∧ ((s[1]'(by omega)).toNat : Int) = 120 ∧ 0 ≤ lxHex (s[2]'h).toNat ∧ isHexL s.data.toList = true) := by
    by_cases h : 2 < s.size
    · refine .inr ⟨h, ?_⟩
      have e := isHexL_at s h
      by_cases a : ((s[0]'(by omega)).toNat : Int) = 48
      · by_cases b : ((s[1]'(by omega)).toNat : Int) = 120
        · by_cases c : 0 ≤ lxHex (s[2]'h).toNat
          · exact .inr (.inr (.inr ⟨a, b, c, by rw [e, beq_iff_eq.2 a, beq_iff_eq.2 b, decide_eq_true c]; rfl⟩))
          · exact .inr (.inr (.inl ⟨a, b, by omega, by rw [e, decide_eq_false c]; simp⟩))
        · exact .inr (.inl ⟨a, beq_eq_false_iff_ne.2 b, by rw [e, beq_eq_false_iff_ne.2 b]; simp⟩)
      · exact .inl ⟨beq_eq_false_iff_ne.2 a, by rw [e, beq_eq_false_iff_ne.2 a]; simp⟩
    · exact .inl ⟨by omega, isHexL_short s (by omega)⟩
  rcases ways with ⟨h2, hx⟩ | ⟨h2, ⟨a0, hx⟩ | ⟨a0, a1, hx⟩ | ⟨a0, a1, a2, hx⟩ | ⟨a0, a1, a2, hx⟩⟩
  · have HB : Hid (NumInv s.data.toList 10 0 0) := Lib.hid (by have := HI.out; unfold numBase numAt at this; rwa [hx] at this)
    clear HI hx
    go_enter Tryz.func51, Tryz.ntmps51
    go_wp2_with fail

    go_loop [5, 7] (fun i n => ∃ (k : Nat) (m : Int), k ≤ s.size ∧ i = .int .i64 (k : Int) ∧ n = .int .i64 m ∧ 0 ≤ m ∧ m ≤ 1099511627776 ∧ NumInv s.data.toList 10 k m) (fun i _ => s.size - (intOf i).toNat)
    case atStart => exact ⟨0, 0, by omega, rfl, rfl, by decide, by decide, HB.out⟩
    case round =>
      obtain ⟨k, m, hk, rfl, rfl, m0, m1, hi⟩ := hrel
      have HN := Lib.hid hi
      clear hi
      by_cases h : k < s.size
      · obtain ⟨x, hx⟩ : ∃ x, x = lxHex (s[k]'h).toNat := ⟨_, rfl⟩
        have C := HX.out k h
        have xb := lxHex_lo (s[k]'h).toNat
        rw [← hx] at C xb
        have HC := Lib.hid C
        have HH := Lib.hid hx
        clear C hx
        obtain ⟨xl, xu⟩ := xb
        by_cases x0 : 0 ≤ x
        · by_cases x1 : x < 10
          · by_cases big : 1099511627776 < m * 10 + x
            · have HS := Lib.hid (HN.out.step h HH.out x0 x1 1099511627776 (by unfold capBig lxBig; rw [if_pos big]))
              go_wp2_with ((with_reducible refine (HC.out _).mono ?_); rintro e w' ⟨rfl, rfl⟩)
              go_round
              case rel => exact ⟨k + 1, _, h, by go_num, rfl, by decide, by decide, HS.out⟩
              case measure => simp [intOf]; omega
            · have HS := Lib.hid (HN.out.step h HH.out x0 x1 (m * 10 + x) (by unfold capBig lxBig; rw [if_neg big]))
              go_wp2_with ((with_reducible refine (HC.out _).mono ?_); rintro e w' ⟨rfl, rfl⟩)
              go_round
              case rel => exact ⟨k + 1, _, h, by go_num, rfl, by omega, by omega, HS.out⟩
              case measure => simp [intOf]; omega
          · have x1' : decide (x < 10) = false := decide_eq_false x1
            have RS := numV_at _ (HN.out.stop h HH.out (by omega))
            rw [drop_at s k h] at RS
            obtain ⟨y, hy⟩ : ∃ y, y = lxLetter (s[k]'h).toNat := ⟨_, rfl⟩
            obtain ⟨z, hz⟩ : ∃ z, z = lxDigit (s[k]'h).toNat := ⟨_, rfl⟩
            have HL := Lib.hid (fun W => rletter_any (s[k]'h).toNat W)
            have HD := Lib.hid (fun W => rdigit_any (s[k]'h).toNat W)
            have hb : badNext (s[k] :: s.data.toList.drop (k + 1)) = (y || z) := by rw [hy, hz]; rfl
            rw [hb] at RS
            rw [← hy] at HL
            rw [← hz] at HD
            clear hy hz hb
            unfold lxBig at RS
            cases y
            · cases z
              · by_cases big : 1099511627776 ≤ m
                · rw [if_neg (by decide), if_pos big] at RS
                  have RR := Lib.hid RS
                  clear RS
                  go_wp2_with (first | ((with_reducible refine (HC.out _).mono ?_); rintro e w' ⟨rfl, rfl⟩) | ((with_reducible refine (HL.out _).mono ?_); rintro e w' ⟨rfl, rfl⟩) | ((with_reducible refine (HD.out _).mono ?_); rintro e w' ⟨rfl, rfl⟩))
                  go_ret3
                  exact ⟨by rw [HR.out, RR.out] <;> rfl, rfl⟩
                · rw [if_neg (by decide), if_neg big] at RS
                  have RR := Lib.hid RS
                  clear RS
                  go_wp2_with (first | ((with_reducible refine (HC.out _).mono ?_); rintro e w' ⟨rfl, rfl⟩) | ((with_reducible refine (HL.out _).mono ?_); rintro e w' ⟨rfl, rfl⟩) | ((with_reducible refine (HD.out _).mono ?_); rintro e w' ⟨rfl, rfl⟩))
                  go_ret3
                  exact ⟨by rw [HR.out, RR.out] <;> rfl, rfl⟩
              · rw [if_pos (by rfl)] at RS
                have RR := Lib.hid RS
                clear RS
                go_wp2_with (first | ((with_reducible refine (HC.out _).mono ?_); rintro e w' ⟨rfl, rfl⟩) | ((with_reducible refine (HL.out _).mono ?_); rintro e w' ⟨rfl, rfl⟩) | ((with_reducible refine (HD.out _).mono ?_); rintro e w' ⟨rfl, rfl⟩))
                go_ret3
                exact ⟨by rw [HR.out, RR.out] <;> rfl, rfl⟩
            · rw [if_pos (by rfl)] at RS
              have RR := Lib.hid RS
              clear RS
              go_wp2_with (first | ((with_reducible refine (HC.out _).mono ?_); rintro e w' ⟨rfl, rfl⟩) | ((with_reducible refine (HL.out _).mono ?_); rintro e w' ⟨rfl, rfl⟩) | ((with_reducible refine (HD.out _).mono ?_); rintro e w' ⟨rfl, rfl⟩))
              go_ret3
              exact ⟨by rw [HR.out, RR.out] <;> rfl, rfl⟩
        · have x0' : decide (0 ≤ x) = false := decide_eq_false x0
          have RS := numV_at _ (HN.out.stop h HH.out (by omega))
          rw [drop_at s k h] at RS
          obtain ⟨y, hy⟩ : ∃ y, y = lxLetter (s[k]'h).toNat := ⟨_, rfl⟩
          obtain ⟨z, hz⟩ : ∃ z, z = lxDigit (s[k]'h).toNat := ⟨_, rfl⟩
          have HL := Lib.hid (fun W => rletter_any (s[k]'h).toNat W)
          have HD := Lib.hid (fun W => rdigit_any (s[k]'h).toNat W)
          have hb : badNext (s[k] :: s.data.toList.drop (k + 1)) = (y || z) := by rw [hy, hz]; rfl
          rw [hb] at RS
          rw [← hy] at HL
          rw [← hz] at HD
          clear hy hz hb
          unfold lxBig at RS
          cases y
          · cases z
            · by_cases big : 1099511627776 ≤ m
              · rw [if_neg (by decide), if_pos big] at RS
                have RR := Lib.hid RS
                clear RS
                go_wp2_with (first | ((with_reducible refine (HC.out _).mono ?_); rintro e w' ⟨rfl, rfl⟩) | ((with_reducible refine (HL.out _).mono ?_); rintro e w' ⟨rfl, rfl⟩) | ((with_reducible refine (HD.out _).mono ?_); rintro e w' ⟨rfl, rfl⟩))
                go_ret3
                exact ⟨by rw [HR.out, RR.out] <;> rfl, rfl⟩
              · rw [if_neg (by decide), if_neg big] at RS
                have RR := Lib.hid RS
                clear RS
                go_wp2_with (first | ((with_reducible refine (HC.out _).mono ?_); rintro e w' ⟨rfl, rfl⟩) | ((with_reducible refine (HL.out _).mono ?_); rintro e w' ⟨rfl, rfl⟩) | ((with_reducible refine (HD.out _).mono ?_); rintro e w' ⟨rfl, rfl⟩))
                go_ret3
                exact ⟨by rw [HR.out, RR.out] <;> rfl, rfl⟩
            · rw [if_pos (by rfl)] at RS
              have RR := Lib.hid RS
              clear RS
              go_wp2_with (first | ((with_reducible refine (HC.out _).mono ?_); rintro e w' ⟨rfl, rfl⟩) | ((with_reducible refine (HL.out _).mono ?_); rintro e w' ⟨rfl, rfl⟩) | ((with_reducible refine (HD.out _).mono ?_); rintro e w' ⟨rfl, rfl⟩))
              go_ret3
              exact ⟨by rw [HR.out, RR.out] <;> rfl, rfl⟩
          · rw [if_pos (by rfl)] at RS
            have RR := Lib.hid RS
            clear RS
            go_wp2_with (first | ((with_reducible refine (HC.out _).mono ?_); rintro e w' ⟨rfl, rfl⟩) | ((with_reducible refine (HL.out _).mono ?_); rintro e w' ⟨rfl, rfl⟩) | ((with_reducible refine (HD.out _).mono ?_); rintro e w' ⟨rfl, rfl⟩))
            go_ret3
            exact ⟨by rw [HR.out, RR.out] <;> rfl, rfl⟩
      · have RS := numV_at _ (HN.out.over (by omega))
        rw [drop_end s k (by omega)] at RS
        rw [if_neg (by decide)] at RS
        obtain rfl : k = s.size := by omega
        unfold lxBig at RS
        by_cases big : 1099511627776 ≤ m
        · rw [if_pos big] at RS
          have RR := Lib.hid RS
          clear RS
          go_wp2_with fail
          go_ret3
          exact ⟨by rw [HR.out, RR.out] <;> rfl, rfl⟩
        · rw [if_neg big] at RS
          have RR := Lib.hid RS
          clear RS
          go_wp2_with fail
          go_ret3
          exact ⟨by rw [HR.out, RR.out] <;> rfl, rfl⟩
  · have HB : Hid (NumInv s.data.toList 10 0 0) := Lib.hid (by have := HI.out; unfold numBase numAt at this; rwa [hx] at this)
    clear HI hx
    go_enter Tryz.func51, Tryz.ntmps51
    go_wp2_with fail

    go_loop [5, 7] (fun i n => ∃ (k : Nat) (m : Int), k ≤ s.size ∧ i = .int .i64 (k : Int) ∧ n = .int .i64 m ∧ 0 ≤ m ∧ m ≤ 1099511627776 ∧ NumInv s.data.toList 10 k m) (fun i _ => s.size - (intOf i).toNat)
    case atStart => exact ⟨0, 0, by omega, rfl, rfl, by decide, by decide, HB.out⟩
    case round =>
      obtain ⟨k, m, hk, rfl, rfl, m0, m1, hi⟩ := hrel
      have HN := Lib.hid hi
      clear hi
      by_cases h : k < s.size
      · obtain ⟨x, hx⟩ : ∃ x, x = lxHex (s[k]'h).toNat := ⟨_, rfl⟩
        have C := HX.out k h
        have xb := lxHex_lo (s[k]'h).toNat
        rw [← hx] at C xb
        have HC := Lib.hid C
        have HH := Lib.hid hx
        clear C hx
        obtain ⟨xl, xu⟩ := xb
        by_cases x0 : 0 ≤ x
        · by_cases x1 : x < 10
          · by_cases big : 1099511627776 < m * 10 + x
            · have HS := Lib.hid (HN.out.step h HH.out x0 x1 1099511627776 (by unfold capBig lxBig; rw [if_pos big]))
              go_wp2_with ((with_reducible refine (HC.out _).mono ?_); rintro e w' ⟨rfl, rfl⟩)
              go_round
              case rel => exact ⟨k + 1, _, h, by go_num, rfl, by decide, by decide, HS.out⟩
              case measure => simp [intOf]; omega
            · have HS := Lib.hid (HN.out.step h HH.out x0 x1 (m * 10 + x) (by unfold capBig lxBig; rw [if_neg big]))
              go_wp2_with ((with_reducible refine (HC.out _).mono ?_); rintro e w' ⟨rfl, rfl⟩)
              go_round
              case rel => exact ⟨k + 1, _, h, by go_num, rfl, by omega, by omega, HS.out⟩
              case measure => simp [intOf]; omega
          · have x1' : decide (x < 10) = false := decide_eq_false x1
            have RS := numV_at _ (HN.out.stop h HH.out (by omega))
            rw [drop_at s k h] at RS
            obtain ⟨y, hy⟩ : ∃ y, y = lxLetter (s[k]'h).toNat := ⟨_, rfl⟩
            obtain ⟨z, hz⟩ : ∃ z, z = lxDigit (s[k]'h).toNat := ⟨_, rfl⟩
            have HL := Lib.hid (fun W => rletter_any (s[k]'h).toNat W)
            have HD := Lib.hid (fun W => rdigit_any (s[k]'h).toNat W)
            have hb : badNext (s[k] :: s.data.toList.drop (k + 1)) = (y || z) := by rw [hy, hz]; rfl
            rw [hb] at RS
            rw [← hy] at HL
            rw [← hz] at HD
            clear hy hz hb
            unfold lxBig at RS
            cases y
            · cases z
              · by_cases big : 1099511627776 ≤ m
                · rw [if_neg (by decide), if_pos big] at RS
                  have RR := Lib.hid RS
                  clear RS
                  go_wp2_with (first | ((with_reducible refine (HC.out _).mono ?_); rintro e w' ⟨rfl, rfl⟩) | ((with_reducible refine (HL.out _).mono ?_); rintro e w' ⟨rfl, rfl⟩) | ((with_reducible refine (HD.out _).mono ?_); rintro e w' ⟨rfl, rfl⟩))
                  go_ret3
                  exact ⟨by rw [HR.out, RR.out] <;> rfl, rfl⟩
                · rw [if_neg (by decide), if_neg big] at RS
                  have RR := Lib.hid RS
                  clear RS
                  go_wp2_with (first | ((with_reducible refine (HC.out _).mono ?_); rintro e w' ⟨rfl, rfl⟩) | ((with_reducible refine (HL.out _).mono ?_); rintro e w' ⟨rfl, rfl⟩) | ((with_reducible refine (HD.out _).mono ?_); rintro e w' ⟨rfl, rfl⟩))
                  go_ret3
                  exact ⟨by rw [HR.out, RR.out] <;> rfl, rfl⟩
              · rw [if_pos (by rfl)] at RS
                have RR := Lib.hid RS
                clear RS
                go_wp2_with (first | ((with_reducible refine (HC.out _).mono ?_); rintro e w' ⟨rfl, rfl⟩) | ((with_reducible refine (HL.out _).mono ?_); rintro e w' ⟨rfl, rfl⟩) | ((with_reducible refine (HD.out _).mono ?_); rintro e w' ⟨rfl, rfl⟩))
                go_ret3
                exact ⟨by rw [HR.out, RR.out] <;> rfl, rfl⟩
            · rw [if_pos (by rfl)] at RS
              have RR := Lib.hid RS
              clear RS
              go_wp2_with (first | ((with_reducible refine (HC.out _).mono ?_); rintro e w' ⟨rfl, rfl⟩) | ((with_reducible refine (HL.out _).mono ?_); rintro e w' ⟨rfl, rfl⟩) | ((with_reducible refine (HD.out _).mono ?_); rintro e w' ⟨rfl, rfl⟩))
              go_ret3
              exact ⟨by rw [HR.out, RR.out] <;> rfl, rfl⟩
        · have x0' : decide (0 ≤ x) = false := decide_eq_false x0
          have RS := numV_at _ (HN.out.stop h HH.out (by omega))
          rw [drop_at s k h] at RS
          obtain ⟨y, hy⟩ : ∃ y, y = lxLetter (s[k]'h).toNat := ⟨_, rfl⟩
          obtain ⟨z, hz⟩ : ∃ z, z = lxDigit (s[k]'h).toNat := ⟨_, rfl⟩
          have HL := Lib.hid (fun W => rletter_any (s[k]'h).toNat W)
          have HD := Lib.hid (fun W => rdigit_any (s[k]'h).toNat W)
          have hb : badNext (s[k] :: s.data.toList.drop (k + 1)) = (y || z) := by rw [hy, hz]; rfl
          rw [hb] at RS
          rw [← hy] at HL
          rw [← hz] at HD
          clear hy hz hb
          unfold lxBig at RS
          cases y
          · cases z
            · by_cases big : 1099511627776 ≤ m
              · rw [if_neg (by decide), if_pos big] at RS
                have RR := Lib.hid RS
                clear RS
                go_wp2_with (first | ((with_reducible refine (HC.out _).mono ?_); rintro e w' ⟨rfl, rfl⟩) | ((with_reducible refine (HL.out _).mono ?_); rintro e w' ⟨rfl, rfl⟩) | ((with_reducible refine (HD.out _).mono ?_); rintro e w' ⟨rfl, rfl⟩))
                go_ret3
                exact ⟨by rw [HR.out, RR.out] <;> rfl, rfl⟩
              · rw [if_neg (by decide), if_neg big] at RS
                have RR := Lib.hid RS
                clear RS
                go_wp2_with (first | ((with_reducible refine (HC.out _).mono ?_); rintro e w' ⟨rfl, rfl⟩) | ((with_reducible refine (HL.out _).mono ?_); rintro e w' ⟨rfl, rfl⟩) | ((with_reducible refine (HD.out _).mono ?_); rintro e w' ⟨rfl, rfl⟩))
                go_ret3
                exact ⟨by rw [HR.out, RR.out] <;> rfl, rfl⟩
            · rw [if_pos (by rfl)] at RS
              have RR := Lib.hid RS
              clear RS
              go_wp2_with (first | ((with_reducible refine (HC.out _).mono ?_); rintro e w' ⟨rfl, rfl⟩) | ((with_reducible refine (HL.out _).mono ?_); rintro e w' ⟨rfl, rfl⟩) | ((with_reducible refine (HD.out _).mono ?_); rintro e w' ⟨rfl, rfl⟩))
              go_ret3
              exact ⟨by rw [HR.out, RR.out] <;> rfl, rfl⟩
          · rw [if_pos (by rfl)] at RS
            have RR := Lib.hid RS
            clear RS
            go_wp2_with (first | ((with_reducible refine (HC.out _).mono ?_); rintro e w' ⟨rfl, rfl⟩) | ((with_reducible refine (HL.out _).mono ?_); rintro e w' ⟨rfl, rfl⟩) | ((with_reducible refine (HD.out _).mono ?_); rintro e w' ⟨rfl, rfl⟩))
            go_ret3
            exact ⟨by rw [HR.out, RR.out] <;> rfl, rfl⟩
      · have RS := numV_at _ (HN.out.over (by omega))
        rw [drop_end s k (by omega)] at RS
        rw [if_neg (by decide)] at RS
        obtain rfl : k = s.size := by omega
        unfold lxBig at RS
        by_cases big : 1099511627776 ≤ m
        · rw [if_pos big] at RS
          have RR := Lib.hid RS
          clear RS
          go_wp2_with fail
          go_ret3
          exact ⟨by rw [HR.out, RR.out] <;> rfl, rfl⟩
        · rw [if_neg big] at RS
          have RR := Lib.hid RS
          clear RS
          go_wp2_with fail
          go_ret3
          exact ⟨by rw [HR.out, RR.out] <;> rfl, rfl⟩
  · have HB : Hid (NumInv s.data.toList 10 0 0) := Lib.hid (by have := HI.out; unfold numBase numAt at this; rwa [hx] at this)
    clear HI hx
    go_enter Tryz.func51, Tryz.ntmps51
    go_wp2_with fail

    go_loop [5, 7] (fun i n => ∃ (k : Nat) (m : Int), k ≤ s.size ∧ i = .int .i64 (k : Int) ∧ n = .int .i64 m ∧ 0 ≤ m ∧ m ≤ 1099511627776 ∧ NumInv s.data.toList 10 k m) (fun i _ => s.size - (intOf i).toNat)
    case atStart => exact ⟨0, 0, by omega, rfl, rfl, by decide, by decide, HB.out⟩
    case round =>
      obtain ⟨k, m, hk, rfl, rfl, m0, m1, hi⟩ := hrel
      have HN := Lib.hid hi
      clear hi
      by_cases h : k < s.size
      · obtain ⟨x, hx⟩ : ∃ x, x = lxHex (s[k]'h).toNat := ⟨_, rfl⟩
        have C := HX.out k h
        have xb := lxHex_lo (s[k]'h).toNat
        rw [← hx] at C xb
        have HC := Lib.hid C
        have HH := Lib.hid hx
        clear C hx
        obtain ⟨xl, xu⟩ := xb
        by_cases x0 : 0 ≤ x
        · by_cases x1 : x < 10
          · by_cases big : 1099511627776 < m * 10 + x
            · have HS := Lib.hid (HN.out.step h HH.out x0 x1 1099511627776 (by unfold capBig lxBig; rw [if_pos big]))
              go_wp2_with ((with_reducible refine (HC.out _).mono ?_); rintro e w' ⟨rfl, rfl⟩)
              go_round
              case rel => exact ⟨k + 1, _, h, by go_num, rfl, by decide, by decide, HS.out⟩
              case measure => simp [intOf]; omega
            · have HS := Lib.hid (HN.out.step h HH.out x0 x1 (m * 10 + x) (by unfold capBig lxBig; rw [if_neg big]))
              go_wp2_with ((with_reducible refine (HC.out _).mono ?_); rintro e w' ⟨rfl, rfl⟩)
              go_round
              case rel => exact ⟨k + 1, _, h, by go_num, rfl, by omega, by omega, HS.out⟩
              case measure => simp [intOf]; omega
          · have x1' : decide (x < 10) = false := decide_eq_false x1
            have RS := numV_at _ (HN.out.stop h HH.out (by omega))
            rw [drop_at s k h] at RS
            obtain ⟨y, hy⟩ : ∃ y, y = lxLetter (s[k]'h).toNat := ⟨_, rfl⟩
            obtain ⟨z, hz⟩ : ∃ z, z = lxDigit (s[k]'h).toNat := ⟨_, rfl⟩
            have HL := Lib.hid (fun W => rletter_any (s[k]'h).toNat W)
            have HD := Lib.hid (fun W => rdigit_any (s[k]'h).toNat W)
            have hb : badNext (s[k] :: s.data.toList.drop (k + 1)) = (y || z) := by rw [hy, hz]; rfl
            rw [hb] at RS
            rw [← hy] at HL
            rw [← hz] at HD
            clear hy hz hb
            unfold lxBig at RS
            cases y
            · cases z
              · by_cases big : 1099511627776 ≤ m
                · rw [if_neg (by decide), if_pos big] at RS
                  have RR := Lib.hid RS
                  clear RS
                  go_wp2_with (first | ((with_reducible refine (HC.out _).mono ?_); rintro e w' ⟨rfl, rfl⟩) | ((with_reducible refine (HL.out _).mono ?_); rintro e w' ⟨rfl, rfl⟩) | ((with_reducible refine (HD.out _).mono ?_); rintro e w' ⟨rfl, rfl⟩))
                  go_ret3
                  exact ⟨by rw [HR.out, RR.out] <;> rfl, rfl⟩
                · rw [if_neg (by decide), if_neg big] at RS
                  have RR := Lib.hid RS
                  clear RS
                  go_wp2_with (first | ((with_reducible refine (HC.out _).mono ?_); rintro e w' ⟨rfl, rfl⟩) | ((with_reducible refine (HL.out _).mono ?_); rintro e w' ⟨rfl, rfl⟩) | ((with_reducible refine (HD.out _).mono ?_); rintro e w' ⟨rfl, rfl⟩))
                  go_ret3
                  exact ⟨by rw [HR.out, RR.out] <;> rfl, rfl⟩
              · rw [if_pos (by rfl)] at RS
                have RR := Lib.hid RS
                clear RS
                go_wp2_with (first | ((with_reducible refine (HC.out _).mono ?_); rintro e w' ⟨rfl, rfl⟩) | ((with_reducible refine (HL.out _).mono ?_); rintro e w' ⟨rfl, rfl⟩) | ((with_reducible refine (HD.out _).mono ?_); rintro e w' ⟨rfl, rfl⟩))
                go_ret3
                exact ⟨by rw [HR.out, RR.out] <;> rfl, rfl⟩
            · rw [if_pos (by rfl)] at RS
              have RR := Lib.hid RS
              clear RS
              go_wp2_with (first | ((with_reducible refine (HC.out _).mono ?_); rintro e w' ⟨rfl, rfl⟩) | ((with_reducible refine (HL.out _).mono ?_); rintro e w' ⟨rfl, rfl⟩) | ((with_reducible refine (HD.out _).mono ?_); rintro e w' ⟨rfl, rfl⟩))
              go_ret3
              exact ⟨by rw [HR.out, RR.out] <;> rfl, rfl⟩
        · have x0' : decide (0 ≤ x) = false := decide_eq_false x0
          have RS := numV_at _ (HN.out.stop h HH.out (by omega))
          rw [drop_at s k h] at RS
          obtain ⟨y, hy⟩ : ∃ y, y = lxLetter (s[k]'h).toNat := ⟨_, rfl⟩
          obtain ⟨z, hz⟩ : ∃ z, z = lxDigit (s[k]'h).toNat := ⟨_, rfl⟩
          have HL := Lib.hid (fun W => rletter_any (s[k]'h).toNat W)
          have HD := Lib.hid (fun W => rdigit_any (s[k]'h).toNat W)
          have hb : badNext (s[k] :: s.data.toList.drop (k + 1)) = (y || z) := by rw [hy, hz]; rfl
          rw [hb] at RS
          rw [← hy] at HL
          rw [← hz] at HD
          clear hy hz hb
          unfold lxBig at RS
          cases y
          · cases z
            · by_cases big : 1099511627776 ≤ m
              · rw [if_neg (by decide), if_pos big] at RS
                have RR := Lib.hid RS
                clear RS
                go_wp2_with (first | ((with_reducible refine (HC.out _).mono ?_); rintro e w' ⟨rfl, rfl⟩) | ((with_reducible refine (HL.out _).mono ?_); rintro e w' ⟨rfl, rfl⟩) | ((with_reducible refine (HD.out _).mono ?_); rintro e w' ⟨rfl, rfl⟩))
                go_ret3
                exact ⟨by rw [HR.out, RR.out] <;> rfl, rfl⟩
              · rw [if_neg (by decide), if_neg big] at RS
                have RR := Lib.hid RS
                clear RS
                go_wp2_with (first | ((with_reducible refine (HC.out _).mono ?_); rintro e w' ⟨rfl, rfl⟩) | ((with_reducible refine (HL.out _).mono ?_); rintro e w' ⟨rfl, rfl⟩) | ((with_reducible refine (HD.out _).mono ?_); rintro e w' ⟨rfl, rfl⟩))
                go_ret3
                exact ⟨by rw [HR.out, RR.out] <;> rfl, rfl⟩
            · rw [if_pos (by rfl)] at RS
              have RR := Lib.hid RS
              clear RS
              go_wp2_with (first | ((with_reducible refine (HC.out _).mono ?_); rintro e w' ⟨rfl, rfl⟩) | ((with_reducible refine (HL.out _).mono ?_); rintro e w' ⟨rfl, rfl⟩) | ((with_reducible refine (HD.out _).mono ?_); rintro e w' ⟨rfl, rfl⟩))
              go_ret3
              exact ⟨by rw [HR.out, RR.out] <;> rfl, rfl⟩
          · rw [if_pos (by rfl)] at RS
            have RR := Lib.hid RS
            clear RS
            go_wp2_with (first | ((with_reducible refine (HC.out _).mono ?_); rintro e w' ⟨rfl, rfl⟩) | ((with_reducible refine (HL.out _).mono ?_); rintro e w' ⟨rfl, rfl⟩) | ((with_reducible refine (HD.out _).mono ?_); rintro e w' ⟨rfl, rfl⟩))
            go_ret3
            exact ⟨by rw [HR.out, RR.out] <;> rfl, rfl⟩
      · have RS := numV_at _ (HN.out.over (by omega))
        rw [drop_end s k (by omega)] at RS
        rw [if_neg (by decide)] at RS
        obtain rfl : k = s.size := by omega
        unfold lxBig at RS
        by_cases big : 1099511627776 ≤ m
        · rw [if_pos big] at RS
          have RR := Lib.hid RS
          clear RS
          go_wp2_with fail
          go_ret3
          exact ⟨by rw [HR.out, RR.out] <;> rfl, rfl⟩
        · rw [if_neg big] at RS
          have RR := Lib.hid RS
          clear RS
          go_wp2_with fail
          go_ret3
          exact ⟨by rw [HR.out, RR.out] <;> rfl, rfl⟩
  · have HB : Hid (NumInv s.data.toList 10 0 0) := Lib.hid (by have := HI.out; unfold numBase numAt at this; rwa [hx] at this)
    clear HI hx
    obtain ⟨x2, hx2⟩ : ∃ x, x = lxHex (s[2]'h2).toNat := ⟨_, rfl⟩
    have C2 := HX.out 2 h2
    rw [← hx2] at C2 a2
    have HC2 := Lib.hid C2
    clear hx2 C2
    have a2' : decide (0 ≤ x2) = false := decide_eq_false (by omega)
    go_enter Tryz.func51, Tryz.ntmps51
    go_wp2_with ((with_reducible refine (HC2.out _).mono ?_); rintro e w' ⟨rfl, rfl⟩)

    go_loop [5, 7] (fun i n => ∃ (k : Nat) (m : Int), k ≤ s.size ∧ i = .int .i64 (k : Int) ∧ n = .int .i64 m ∧ 0 ≤ m ∧ m ≤ 1099511627776 ∧ NumInv s.data.toList 10 k m) (fun i _ => s.size - (intOf i).toNat)
    case atStart => exact ⟨0, 0, by omega, rfl, rfl, by decide, by decide, HB.out⟩
    case round =>
      obtain ⟨k, m, hk, rfl, rfl, m0, m1, hi⟩ := hrel
      have HN := Lib.hid hi
      clear hi
      by_cases h : k < s.size
      · obtain ⟨x, hx⟩ : ∃ x, x = lxHex (s[k]'h).toNat := ⟨_, rfl⟩
        have C := HX.out k h
        have xb := lxHex_lo (s[k]'h).toNat
        rw [← hx] at C xb
        have HC := Lib.hid C
        have HH := Lib.hid hx
        clear C hx
        obtain ⟨xl, xu⟩ := xb
        by_cases x0 : 0 ≤ x
        · by_cases x1 : x < 10
          · by_cases big : 1099511627776 < m * 10 + x
            · have HS := Lib.hid (HN.out.step h HH.out x0 x1 1099511627776 (by unfold capBig lxBig; rw [if_pos big]))
              go_wp2_with ((with_reducible refine (HC.out _).mono ?_); rintro e w' ⟨rfl, rfl⟩)
              go_round
              case rel => exact ⟨k + 1, _, h, by go_num, rfl, by decide, by decide, HS.out⟩
              case measure => simp [intOf]; omega
            · have HS := Lib.hid (HN.out.step h HH.out x0 x1 (m * 10 + x) (by unfold capBig lxBig; rw [if_neg big]))
              go_wp2_with ((with_reducible refine (HC.out _).mono ?_); rintro e w' ⟨rfl, rfl⟩)
              go_round
              case rel => exact ⟨k + 1, _, h, by go_num, rfl, by omega, by omega, HS.out⟩
              case measure => simp [intOf]; omega
          · have x1' : decide (x < 10) = false := decide_eq_false x1
            have RS := numV_at _ (HN.out.stop h HH.out (by omega))
            rw [drop_at s k h] at RS
            obtain ⟨y, hy⟩ : ∃ y, y = lxLetter (s[k]'h).toNat := ⟨_, rfl⟩
            obtain ⟨z, hz⟩ : ∃ z, z = lxDigit (s[k]'h).toNat := ⟨_, rfl⟩
            have HL := Lib.hid (fun W => rletter_any (s[k]'h).toNat W)
            have HD := Lib.hid (fun W => rdigit_any (s[k]'h).toNat W)
            have hb : badNext (s[k] :: s.data.toList.drop (k + 1)) = (y || z) := by rw [hy, hz]; rfl
            rw [hb] at RS
            rw [← hy] at HL
            rw [← hz] at HD
            clear hy hz hb
            unfold lxBig at RS
            cases y
            · cases z
              · by_cases big : 1099511627776 ≤ m
                · rw [if_neg (by decide), if_pos big] at RS
                  have RR := Lib.hid RS
                  clear RS
                  go_wp2_with (first | ((with_reducible refine (HC.out _).mono ?_); rintro e w' ⟨rfl, rfl⟩) | ((with_reducible refine (HL.out _).mono ?_); rintro e w' ⟨rfl, rfl⟩) | ((with_reducible refine (HD.out _).mono ?_); rintro e w' ⟨rfl, rfl⟩))
                  go_ret3
                  exact ⟨by rw [HR.out, RR.out] <;> rfl, rfl⟩
                · rw [if_neg (by decide), if_neg big] at RS
                  have RR := Lib.hid RS
                  clear RS
                  go_wp2_with (first | ((with_reducible refine (HC.out _).mono ?_); rintro e w' ⟨rfl, rfl⟩) | ((with_reducible refine (HL.out _).mono ?_); rintro e w' ⟨rfl, rfl⟩) | ((with_reducible refine (HD.out _).mono ?_); rintro e w' ⟨rfl, rfl⟩))
                  go_ret3
                  exact ⟨by rw [HR.out, RR.out] <;> rfl, rfl⟩
              · rw [if_pos (by rfl)] at RS
                have RR := Lib.hid RS
                clear RS
                go_wp2_with (first | ((with_reducible refine (HC.out _).mono ?_); rintro e w' ⟨rfl, rfl⟩) | ((with_reducible refine (HL.out _).mono ?_); rintro e w' ⟨rfl, rfl⟩) | ((with_reducible refine (HD.out _).mono ?_); rintro e w' ⟨rfl, rfl⟩))
                go_ret3
                exact ⟨by rw [HR.out, RR.out] <;> rfl, rfl⟩
            · rw [if_pos (by rfl)] at RS
              have RR := Lib.hid RS
              clear RS
              go_wp2_with (first | ((with_reducible refine (HC.out _).mono ?_); rintro e w' ⟨rfl, rfl⟩) | ((with_reducible refine (HL.out _).mono ?_); rintro e w' ⟨rfl, rfl⟩) | ((with_reducible refine (HD.out _).mono ?_); rintro e w' ⟨rfl, rfl⟩))
              go_ret3
              exact ⟨by rw [HR.out, RR.out] <;> rfl, rfl⟩
        · have x0' : decide (0 ≤ x) = false := decide_eq_false x0
          have RS := numV_at _ (HN.out.stop h HH.out (by omega))
          rw [drop_at s k h] at RS
          obtain ⟨y, hy⟩ : ∃ y, y = lxLetter (s[k]'h).toNat := ⟨_, rfl⟩
          obtain ⟨z, hz⟩ : ∃ z, z = lxDigit (s[k]'h).toNat := ⟨_, rfl⟩
          have HL := Lib.hid (fun W => rletter_any (s[k]'h).toNat W)
          have HD := Lib.hid (fun W => rdigit_any (s[k]'h).toNat W)
          have hb : badNext (s[k] :: s.data.toList.drop (k + 1)) = (y || z) := by rw [hy, hz]; rfl
          rw [hb] at RS
          rw [← hy] at HL
          rw [← hz] at HD
          clear hy hz hb
          unfold lxBig at RS
          cases y
          · cases z
            · by_cases big : 1099511627776 ≤ m
              · rw [if_neg (by decide), if_pos big] at RS
                have RR := Lib.hid RS
                clear RS
                go_wp2_with (first | ((with_reducible refine (HC.out _).mono ?_); rintro e w' ⟨rfl, rfl⟩) | ((with_reducible refine (HL.out _).mono ?_); rintro e w' ⟨rfl, rfl⟩) | ((with_reducible refine (HD.out _).mono ?_); rintro e w' ⟨rfl, rfl⟩))
                go_ret3
                exact ⟨by rw [HR.out, RR.out] <;> rfl, rfl⟩
              · rw [if_neg (by decide), if_neg big] at RS
                have RR := Lib.hid RS
                clear RS
                go_wp2_with (first | ((with_reducible refine (HC.out _).mono ?_); rintro e w' ⟨rfl, rfl⟩) | ((with_reducible refine (HL.out _).mono ?_); rintro e w' ⟨rfl, rfl⟩) | ((with_reducible refine (HD.out _).mono ?_); rintro e w' ⟨rfl, rfl⟩))
                go_ret3
                exact ⟨by rw [HR.out, RR.out] <;> rfl, rfl⟩
            · rw [if_pos (by rfl)] at RS
              have RR := Lib.hid RS
              clear RS
              go_wp2_with (first | ((with_reducible refine (HC.out _).mono ?_); rintro e w' ⟨rfl, rfl⟩) | ((with_reducible refine (HL.out _).mono ?_); rintro e w' ⟨rfl, rfl⟩) | ((with_reducible refine (HD.out _).mono ?_); rintro e w' ⟨rfl, rfl⟩))
              go_ret3
              exact ⟨by rw [HR.out, RR.out] <;> rfl, rfl⟩
          · rw [if_pos (by rfl)] at RS
            have RR := Lib.hid RS
            clear RS
            go_wp2_with (first | ((with_reducible refine (HC.out _).mono ?_); rintro e w' ⟨rfl, rfl⟩) | ((with_reducible refine (HL.out _).mono ?_); rintro e w' ⟨rfl, rfl⟩) | ((with_reducible refine (HD.out _).mono ?_); rintro e w' ⟨rfl, rfl⟩))
            go_ret3
            exact ⟨by rw [HR.out, RR.out] <;> rfl, rfl⟩
      · have RS := numV_at _ (HN.out.over (by omega))
        rw [drop_end s k (by omega)] at RS
        rw [if_neg (by decide)] at RS
        obtain rfl : k = s.size := by omega
        unfold lxBig at RS
        by_cases big : 1099511627776 ≤ m
        · rw [if_pos big] at RS
          have RR := Lib.hid RS
          clear RS
          go_wp2_with fail
          go_ret3
          exact ⟨by rw [HR.out, RR.out] <;> rfl, rfl⟩
        · rw [if_neg big] at RS
          have RR := Lib.hid RS
          clear RS
          go_wp2_with fail
          go_ret3
          exact ⟨by rw [HR.out, RR.out] <;> rfl, rfl⟩
  · have HB : Hid (NumInv s.data.toList 16 2 0) := Lib.hid (by have := HI.out; unfold numBase numAt at this; rwa [hx] at this)
    clear HI hx
    obtain ⟨x2, hx2⟩ : ∃ x, x = lxHex (s[2]'h2).toNat := ⟨_, rfl⟩
    have C2 := HX.out 2 h2
    rw [← hx2] at C2 a2
    have HC2 := Lib.hid C2
    clear hx2 C2
    have a2' : decide (0 ≤ x2) = true := decide_eq_true a2
    go_enter Tryz.func51, Tryz.ntmps51
    go_wp2_with ((with_reducible refine (HC2.out _).mono ?_); rintro e w' ⟨rfl, rfl⟩)

    go_loop [5, 7] (fun i n => ∃ (k : Nat) (m : Int), k ≤ s.size ∧ i = .int .i64 (k : Int) ∧ n = .int .i64 m ∧ 0 ≤ m ∧ m ≤ 1099511627776 ∧ NumInv s.data.toList 16 k m) (fun i _ => s.size - (intOf i).toNat)
    case atStart => exact ⟨2, 0, by omega, rfl, rfl, by decide, by decide, HB.out⟩
    case round =>
      obtain ⟨k, m, hk, rfl, rfl, m0, m1, hi⟩ := hrel
      have HN := Lib.hid hi
      clear hi
      by_cases h : k < s.size
      · obtain ⟨x, hx⟩ : ∃ x, x = lxHex (s[k]'h).toNat := ⟨_, rfl⟩
        have C := HX.out k h
        have xb := lxHex_lo (s[k]'h).toNat
        rw [← hx] at C xb
        have HC := Lib.hid C
        have HH := Lib.hid hx
        clear C hx
        obtain ⟨xl, xu⟩ := xb
        by_cases x0 : 0 ≤ x
        · by_cases x1 : x < 16
          · by_cases big : 1099511627776 < m * 16 + x
            · have HS := Lib.hid (HN.out.step h HH.out x0 x1 1099511627776 (by unfold capBig lxBig; rw [if_pos big]))
              go_wp2_with ((with_reducible refine (HC.out _).mono ?_); rintro e w' ⟨rfl, rfl⟩)
              go_round
              case rel => exact ⟨k + 1, _, h, by go_num, rfl, by decide, by decide, HS.out⟩
              case measure => simp [intOf]; omega
            · have HS := Lib.hid (HN.out.step h HH.out x0 x1 (m * 16 + x) (by unfold capBig lxBig; rw [if_neg big]))
              go_wp2_with ((with_reducible refine (HC.out _).mono ?_); rintro e w' ⟨rfl, rfl⟩)
              go_round
              case rel => exact ⟨k + 1, _, h, by go_num, rfl, by omega, by omega, HS.out⟩
              case measure => simp [intOf]; omega
          · exact absurd (by omega : x < 16) x1
        · have x0' : decide (0 ≤ x) = false := decide_eq_false x0
          have RS := numV_at _ (HN.out.stop h HH.out (by omega))
          rw [drop_at s k h] at RS
          obtain ⟨y, hy⟩ : ∃ y, y = lxLetter (s[k]'h).toNat := ⟨_, rfl⟩
          obtain ⟨z, hz⟩ : ∃ z, z = lxDigit (s[k]'h).toNat := ⟨_, rfl⟩
          have HL := Lib.hid (fun W => rletter_any (s[k]'h).toNat W)
          have HD := Lib.hid (fun W => rdigit_any (s[k]'h).toNat W)
          have hb : badNext (s[k] :: s.data.toList.drop (k + 1)) = (y || z) := by rw [hy, hz]; rfl
          rw [hb] at RS
          rw [← hy] at HL
          rw [← hz] at HD
          clear hy hz hb
          unfold lxBig at RS
          cases y
          · cases z
            · by_cases big : 1099511627776 ≤ m
              · rw [if_neg (by decide), if_pos big] at RS
                have RR := Lib.hid RS
                clear RS
                go_wp2_with (first | ((with_reducible refine (HC.out _).mono ?_); rintro e w' ⟨rfl, rfl⟩) | ((with_reducible refine (HL.out _).mono ?_); rintro e w' ⟨rfl, rfl⟩) | ((with_reducible refine (HD.out _).mono ?_); rintro e w' ⟨rfl, rfl⟩))
                go_ret3
                exact ⟨by rw [HR.out, RR.out] <;> rfl, rfl⟩
              · rw [if_neg (by decide), if_neg big] at RS
                have RR := Lib.hid RS
                clear RS
                go_wp2_with (first | ((with_reducible refine (HC.out _).mono ?_); rintro e w' ⟨rfl, rfl⟩) | ((with_reducible refine (HL.out _).mono ?_); rintro e w' ⟨rfl, rfl⟩) | ((with_reducible refine (HD.out _).mono ?_); rintro e w' ⟨rfl, rfl⟩))
                go_ret3
                exact ⟨by rw [HR.out, RR.out] <;> rfl, rfl⟩
            · rw [if_pos (by rfl)] at RS
              have RR := Lib.hid RS
              clear RS
              go_wp2_with (first | ((with_reducible refine (HC.out _).mono ?_); rintro e w' ⟨rfl, rfl⟩) | ((with_reducible refine (HL.out _).mono ?_); rintro e w' ⟨rfl, rfl⟩) | ((with_reducible refine (HD.out _).mono ?_); rintro e w' ⟨rfl, rfl⟩))
              go_ret3
              exact ⟨by rw [HR.out, RR.out] <;> rfl, rfl⟩
          · rw [if_pos (by rfl)] at RS
            have RR := Lib.hid RS
            clear RS
            go_wp2_with (first | ((with_reducible refine (HC.out _).mono ?_); rintro e w' ⟨rfl, rfl⟩) | ((with_reducible refine (HL.out _).mono ?_); rintro e w' ⟨rfl, rfl⟩) | ((with_reducible refine (HD.out _).mono ?_); rintro e w' ⟨rfl, rfl⟩))
            go_ret3
            exact ⟨by rw [HR.out, RR.out] <;> rfl, rfl⟩
      · have RS := numV_at _ (HN.out.over (by omega))
        rw [drop_end s k (by omega)] at RS
        rw [if_neg (by decide)] at RS
        obtain rfl : k = s.size := by omega
        unfold lxBig at RS
        by_cases big : 1099511627776 ≤ m
        · rw [if_pos big] at RS
          have RR := Lib.hid RS
          clear RS
          go_wp2_with fail
          go_ret3
          exact ⟨by rw [HR.out, RR.out] <;> rfl, rfl⟩
        · rw [if_neg big] at RS
          have RR := Lib.hid RS
          clear RS
          go_wp2_with fail
          go_ret3
          exact ⟨by rw [HR.out, RR.out] <;> rfl, rfl⟩
end Go.Proofs.YtcdepfdfemmfhaaGreatDoor
