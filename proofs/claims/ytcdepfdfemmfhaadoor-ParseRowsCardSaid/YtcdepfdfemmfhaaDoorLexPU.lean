/- internal/strconv.ParseUint at 40 bits, of digits of base 10, of base 16 alone: the number, or that it is too great. -/
import Derived.Test.YtcdepfdfemmfhaaDoorLexCls
import Derived.Test.YtcdepfdfemmfhaaDoorLexNum
import Derived.Test.YtcdepfdfemmfhaaDoorShelf
import Derived.Lib.Strings
import Derived.Lib.Walk
import Derived.Lib.ConvBytes
import Derived.Laws.Strings3
import Derived.Laws.Closers25
import Derived.Laws.Closers25b
import Derived.BigCall
import Derived.BigGuard
import Derived.Shelf.Abstract
namespace Go.Proofs.YtcdepfdfemmfhaaDoor
set_option linter.unusedVariables false
set_option linter.unusedSimpArgs false
open Go.RowKit Go.Shelf
/-- What it answers, by the digits. -/
def puV (B : Int) (l : List UInt8) : Value := if (numRun B l 0).2 < lxBig then .tuple #[.int .u64 (numRun B l 0).2, .nilIface] else .tuple #[.int .u64 1099511627775, .iface 118 (.int .i64 1)]
theorem puV_small {B : Int} {l : List UInt8} {n : Int} (h : (numRun B l 0).2 = n) (hn : n < lxBig) : puV B l = .tuple #[.int .u64 n, .nilIface] := by unfold puV; rw [h, if_pos hn]
theorem puV_big {B : Int} {l : List UInt8} (h : (numRun B l 0).2 = lxBig) : puV B l = .tuple #[.int .u64 1099511627775, .iface 118 (.int .i64 1)] := by unfold puV; rw [h, if_neg (by decide)]
theorem numRun_big {B : Int} (hB : 1 ≤ B) : ∀ (l : List UInt8), (numRun B l lxBig).2 = lxBig
  | [] => rfl
  | c :: r => by
    unfold numRun
    split
    · rename_i h
      have e : capBig (lxBig * B + lxHex c.toNat) = lxBig := by
        have : lxBig * 1 ≤ lxBig * B := Int.mul_le_mul_of_nonneg_left hB (by decide)
        unfold capBig
        split
        · rfl
        · omega
      rw [e]
      exact numRun_big hB r
    · rfl
theorem numRun_step {B : Int} {c : UInt8} {r : List UInt8} {n m : Int} (h : 0 ≤ lxHex c.toNat ∧ lxHex c.toNat < B) (e : n * B + lxHex c.toNat = m) (hm : m < lxBig) : (numRun B (c :: r) n).2 = (numRun B r m).2 := by
  conv => lhs; unfold numRun
  rw [if_pos h, e]
  have : capBig m = m := by unfold capBig; rw [if_neg (by omega)]
  rw [this]
theorem numRun_over {B : Int} (hB : 1 ≤ B) {c : UInt8} {r : List UInt8} {n m : Int} (h : 0 ≤ lxHex c.toNat ∧ lxHex c.toNat < B) (e : n * B + lxHex c.toNat = m) (hm : lxBig ≤ m) : (numRun B (c :: r) n).2 = lxBig := by
  conv => lhs; unfold numRun
  rw [if_pos h, e]
  have : capBig m = lxBig := by unfold capBig; split <;> omega
  rw [this]
  exact numRun_big hB r
theorem lxHex_dig {c : Int} (h : 48 ≤ c ∧ c ≤ 57) : lxHex c = c - 48 := by unfold lxHex; rw [if_pos ((lxDigit_iff c).2 h)]
theorem lxHex_low {c : Int} (h : 97 ≤ c ∧ c ≤ 102) : lxHex c = c - 87 := by unfold lxHex; rw [if_neg (by rw [lxDigit_iff]; omega), if_pos h]
theorem lxHex_up {c : Int} (h : 65 ≤ c ∧ c ≤ 70) : lxHex c = c - 55 := by unfold lxHex; rw [if_neg (by rw [lxDigit_iff]; omega), if_neg (by omega), if_pos h]
theorem lower_up {c : Int} (h : 65 ≤ c ∧ c ≤ 70) : bits .or .u8 c 32 = c + 32 := by
  obtain ⟨h1, h2⟩ := h
  rcases (by omega : c = 65 ∨ c = 66 ∨ c = 67 ∨ c = 68 ∨ c = 69 ∨ c = 70) with rfl | rfl | rfl | rfl | rfl | rfl <;> decide +kernel
theorem lower_low {c : Int} (h : 97 ≤ c ∧ c ≤ 102) : bits .or .u8 c 32 = c := by
  obtain ⟨h1, h2⟩ := h
  rcases (by omega : c = 97 ∨ c = 98 ∨ c = 99 ∨ c = 100 ∨ c = 101 ∨ c = 102) with rfl | rfl | rfl | rfl | rfl | rfl <;> decide +kernel
theorem hex_ways {c : Int} {B : Int} (hB : B ≤ 16) (h : 0 ≤ lxHex c ∧ lxHex c < B) : (48 ≤ c ∧ c ≤ 57) ∨ (10 < B ∧ 97 ≤ c ∧ c ≤ 102) ∨ (10 < B ∧ 65 ≤ c ∧ c ≤ 70) := by
  unfold lxHex at h
  by_cases d : lxDigit c = true
  · rw [lxDigit_iff] at d; exact .inl d
  · rw [if_neg d] at h
    split at h
    · omega
    · split at h <;> omega
set_option maxHeartbeats 32000000 in
set_option maxRecDepth 100000 in
theorem pparse10 (t : ByteArray) (hne : t.size ≠ 0) (hmax : t.size ≤ 1000000) (hd : ∀ c ∈ t.data.toList, 0 ≤ lxHex c.toNat ∧ lxHex c.toNat < 10) (w : World) :
    Calls Tryd.prog 53 #[.string t, .int .i64 10, .int .i64 40] w fun e w' => e = .returned (puV 10 t.data.toList) ∧ w' = Lib.bytesWorld w 5 t := by
  have hemp : t.toList.isEmpty = false := by
    rw [← decide_eq_emptyBytes]
    exact decide_eq_false (fun h => hne (by rw [h]; rfl))
  have hcv := Lib.run_convert_string_bytes (P := Tryd.prog) w 9 22 5 t (u := .string) Tryd.underlying9 Tryd.underlying22 Tryd.underlying5
  have hB : ∀ j, j < t.size → (Lib.bytesWorld w 5 t).cell? ⟨w.heap.size, j, none⟩ = some (.int .u8 (t.data.toList.getD j 0).toNat) := fun j hj => Lib.bytesWorld_cell w 5 t j hj
  obtain ⟨W1, hW1⟩ : ∃ W1, W1 = Lib.bytesWorld w 5 t := ⟨_, rfl⟩
  rw [← hW1] at hcv hB ⊢
  clear hW1
  obtain ⟨R, hR⟩ : ∃ R, R = puV 10 t.data.toList := ⟨_, rfl⟩
  rw [← hR]
  have HR := Lib.hid hR
  clear hR
  obtain ⟨bs, hL⟩ : ∃ bs, bs = t.data.toList := ⟨_, rfl⟩
  have hLn : bs.length = t.size := by rw [hL, Lib.size_eq]
  rw [← hL] at hB hd HR
  clear hL
  have HD := Lib.hid hd
  clear hd
  have hmv : IntKind.u64.wrap (IntKind.u64.wrap 1099511627776 - 1) = 1099511627775 := by
    rw [IntKind.wrap_u64, IntKind.wrap_u64]
    decide
  go_enter Tryd.func53, Tryd.ntmps53
  go_wp2
  go_loop [12, 13, 101] (fun vu vn vi => ∃ (k : Nat) (a : Int), vu = .bool false ∧ vn = .int .u64 a ∧ vi = .int .i64 k ∧ k ≤ t.size ∧ 0 ≤ a ∧ a ≤ 1099511627775 ∧ Hid ((numRun 10 bs 0).2 = (numRun 10 (bs.drop k) a).2))
    (fun _ _ vi => t.size - (intOf vi).toNat)
  case atStart => exact ⟨0, 0, rfl, rfl, rfl, by omega, by omega, by omega, Lib.hid rfl⟩
  case round =>
    obtain ⟨k, a, rfl, rfl, rfl, hk, a0, a1, hh⟩ := hrel
    have hdec := hh.out
    clear hh
    by_cases hkn : k < t.size
    · have hc := hB k hkn
      have hdrop : bs.drop k = bs[k]'(by omega) :: bs.drop (k + 1) := List.drop_eq_getElem_cons (by omega)
      have hget : bs.getD k 0 = bs[k]'(by omega) := by simp [List.getD, List.getElem?_eq_getElem (show k < bs.length by omega)]
      have hdg := HD.out (bs[k]'(by omega)) (List.getElem_mem _)
      rw [hdrop] at hdec
      rw [hget] at hc
      generalize bs[k]'(by omega) = c at hc hdec hdg
      have hc256 : c.toNat < 256 := c.toNat_lt
      clear hB hdrop hget
      rcases hex_ways (by decide) hdg with ⟨c0, c1⟩ | ⟨hb, -⟩ | ⟨hb, -⟩
      · -- a digit
        have hx : lxHex (c.toNat : Int) = (c.toNat : Int) - 48 := lxHex_dig ⟨by omega, by omega⟩
        by_cases hov : 1099511627775 < a * 10 + ((c.toNat : Int) - 48)
        · have hF := (numRun_over (B := 10) (by decide) (r := bs.drop (k + 1)) hdg (by rw [hx]) (by unfold lxBig; omega : lxBig ≤ a * 10 + ((c.toNat : Int) - 48)))
          have HF := Lib.hid (puV_big (hdec.trans hF))
          clear hF hdec hx hdg
          go_wp2
          go_ret2
          exact ⟨by rw [HR.out, HF.out] <;> rfl, rfl⟩
        · have hF := (numRun_step (B := 10) (r := bs.drop (k + 1)) hdg (by rw [hx]) (by unfold lxBig; omega : a * 10 + ((c.toNat : Int) - 48) < lxBig))
          have HN := Lib.hid (hdec.trans hF)
          have iov : a * 10 + ((c.toNat : Int) - 48) ≤ 1099511627775 := by omega
          have i0 : 0 ≤ a * 10 + ((c.toNat : Int) - 48) := by omega
          clear hF hdec hx hov hdg
          go_wp2
          refine ⟨⟨k + 1, a * 10 + ((c.toNat : Int) - 48), rfl, (by first | rfl | (congr 1; omega)), (by first | rfl | (congr 1; omega)), by omega, by omega, by omega, HN⟩, by simp [intOf]; omega⟩
      · exact absurd hb (by decide)
      · exact absurd hb (by decide)
    · -- at the end
      have hkk : k = t.size := by omega
      subst hkk
      rw [List.drop_eq_nil_of_le (by omega)] at hdec
      have HF := Lib.hid (puV_small (B := 10) (l := bs) (n := a) hdec (by unfold lxBig; omega))
      clear hdec
      go_wp2
      go_ret2
      exact ⟨by rw [HR.out, HF.out] <;> rfl, rfl⟩
set_option maxHeartbeats 32000000 in
set_option maxRecDepth 100000 in
theorem pparse16 (t : ByteArray) (hne : t.size ≠ 0) (hmax : t.size ≤ 1000000) (hd : ∀ c ∈ t.data.toList, 0 ≤ lxHex c.toNat ∧ lxHex c.toNat < 16) (w : World) :
    Calls Tryd.prog 53 #[.string t, .int .i64 16, .int .i64 40] w fun e w' => e = .returned (puV 16 t.data.toList) ∧ w' = Lib.bytesWorld w 5 t := by
  have hemp : t.toList.isEmpty = false := by
    rw [← decide_eq_emptyBytes]
    exact decide_eq_false (fun h => hne (by rw [h]; rfl))
  have hcv := Lib.run_convert_string_bytes (P := Tryd.prog) w 9 22 5 t (u := .string) Tryd.underlying9 Tryd.underlying22 Tryd.underlying5
  have hB : ∀ j, j < t.size → (Lib.bytesWorld w 5 t).cell? ⟨w.heap.size, j, none⟩ = some (.int .u8 (t.data.toList.getD j 0).toNat) := fun j hj => Lib.bytesWorld_cell w 5 t j hj
  obtain ⟨W1, hW1⟩ : ∃ W1, W1 = Lib.bytesWorld w 5 t := ⟨_, rfl⟩
  rw [← hW1] at hcv hB ⊢
  clear hW1
  obtain ⟨R, hR⟩ : ∃ R, R = puV 16 t.data.toList := ⟨_, rfl⟩
  rw [← hR]
  have HR := Lib.hid hR
  clear hR
  obtain ⟨bs, hL⟩ : ∃ bs, bs = t.data.toList := ⟨_, rfl⟩
  have hLn : bs.length = t.size := by rw [hL, Lib.size_eq]
  rw [← hL] at hB hd HR
  clear hL
  have HD := Lib.hid hd
  clear hd
  have hmv : IntKind.u64.wrap (IntKind.u64.wrap 1099511627776 - 1) = 1099511627775 := by
    rw [IntKind.wrap_u64, IntKind.wrap_u64]
    decide
  go_enter Tryd.func53, Tryd.ntmps53
  go_wp2
  go_loop [12, 13, 101] (fun vu vn vi => ∃ (k : Nat) (a : Int), vu = .bool false ∧ vn = .int .u64 a ∧ vi = .int .i64 k ∧ k ≤ t.size ∧ 0 ≤ a ∧ a ≤ 1099511627775 ∧ Hid ((numRun 16 bs 0).2 = (numRun 16 (bs.drop k) a).2))
    (fun _ _ vi => t.size - (intOf vi).toNat)
  case atStart => exact ⟨0, 0, rfl, rfl, rfl, by omega, by omega, by omega, Lib.hid rfl⟩
  case round =>
    obtain ⟨k, a, rfl, rfl, rfl, hk, a0, a1, hh⟩ := hrel
    have hdec := hh.out
    clear hh
    by_cases hkn : k < t.size
    · have hc := hB k hkn
      have hdrop : bs.drop k = bs[k]'(by omega) :: bs.drop (k + 1) := List.drop_eq_getElem_cons (by omega)
      have hget : bs.getD k 0 = bs[k]'(by omega) := by simp [List.getD, List.getElem?_eq_getElem (show k < bs.length by omega)]
      have hdg := HD.out (bs[k]'(by omega)) (List.getElem_mem _)
      rw [hdrop] at hdec
      rw [hget] at hc
      generalize bs[k]'(by omega) = c at hc hdec hdg
      have hc256 : c.toNat < 256 := c.toNat_lt
      clear hB hdrop hget
      rcases hex_ways (by decide) hdg with ⟨c0, c1⟩ | ⟨-, c0, c1⟩ | ⟨-, c0, c1⟩
      · -- a digit
        have hx : lxHex (c.toNat : Int) = (c.toNat : Int) - 48 := lxHex_dig ⟨by omega, by omega⟩
        by_cases hov : 1099511627775 < a * 16 + ((c.toNat : Int) - 48)
        · have hF := (numRun_over (B := 16) (by decide) (r := bs.drop (k + 1)) hdg (by rw [hx]) (by unfold lxBig; omega : lxBig ≤ a * 16 + ((c.toNat : Int) - 48)))
          have HF := Lib.hid (puV_big (hdec.trans hF))
          clear hF hdec hx hdg
          go_wp2
          go_ret2
          exact ⟨by rw [HR.out, HF.out] <;> rfl, rfl⟩
        · have hF := (numRun_step (B := 16) (r := bs.drop (k + 1)) hdg (by rw [hx]) (by unfold lxBig; omega : a * 16 + ((c.toNat : Int) - 48) < lxBig))
          have HN := Lib.hid (hdec.trans hF)
          have iov : a * 16 + ((c.toNat : Int) - 48) ≤ 1099511627775 := by omega
          have i0 : 0 ≤ a * 16 + ((c.toNat : Int) - 48) := by omega
          clear hF hdec hx hov hdg
          go_wp2
          refine ⟨⟨k + 1, a * 16 + ((c.toNat : Int) - 48), rfl, (by first | rfl | (congr 1; omega)), (by first | rfl | (congr 1; omega)), by omega, by omega, by omega, HN⟩, by simp [intOf]; omega⟩
      · -- a small letter
        have hx : lxHex (c.toNat : Int) = (c.toNat : Int) - 87 := lxHex_low ⟨by omega, by omega⟩
        have lw : bits .or .u8 (c.toNat : Int) 32 = (c.toNat : Int) := lower_low ⟨by omega, by omega⟩
        have CL := Lib.hid (fun W => Tryd.internal_strconv_lower (c.toNat : Int) W)
        rw [lw] at CL
        clear lw
        by_cases hov : 1099511627775 < a * 16 + ((c.toNat : Int) - 87)
        · have hF := (numRun_over (B := 16) (by decide) (r := bs.drop (k + 1)) hdg (by rw [hx]) (by unfold lxBig; omega : lxBig ≤ a * 16 + ((c.toNat : Int) - 87)))
          have HF := Lib.hid (puV_big (hdec.trans hF))
          clear hF hdec hx hdg
          go_wp2_with ((with_reducible refine (CL.out _).mono ?_); rintro e w' ⟨rfl, rfl⟩)
          go_ret2
          exact ⟨by rw [HR.out, HF.out] <;> rfl, rfl⟩
        · have hF := (numRun_step (B := 16) (r := bs.drop (k + 1)) hdg (by rw [hx]) (by unfold lxBig; omega : a * 16 + ((c.toNat : Int) - 87) < lxBig))
          have HN := Lib.hid (hdec.trans hF)
          have iov : a * 16 + ((c.toNat : Int) - 87) ≤ 1099511627775 := by omega
          have i0 : 0 ≤ a * 16 + ((c.toNat : Int) - 87) := by omega
          clear hF hdec hx hov hdg
          go_wp2_with ((with_reducible refine (CL.out _).mono ?_); rintro e w' ⟨rfl, rfl⟩)
          refine ⟨⟨k + 1, a * 16 + ((c.toNat : Int) - 87), rfl, (by first | rfl | (congr 1; omega)), (by first | rfl | (congr 1; omega)), by omega, by omega, by omega, HN⟩, by simp [intOf]; omega⟩
      · -- a great letter
        have hx : lxHex (c.toNat : Int) = (c.toNat : Int) - 55 := lxHex_up ⟨by omega, by omega⟩
        have lw : bits .or .u8 (c.toNat : Int) 32 = (c.toNat : Int) + 32 := lower_up ⟨by omega, by omega⟩
        have CL := Lib.hid (fun W => Tryd.internal_strconv_lower (c.toNat : Int) W)
        rw [lw] at CL
        clear lw
        by_cases hov : 1099511627775 < a * 16 + ((c.toNat : Int) - 55)
        · have hF := (numRun_over (B := 16) (by decide) (r := bs.drop (k + 1)) hdg (by rw [hx]) (by unfold lxBig; omega : lxBig ≤ a * 16 + ((c.toNat : Int) - 55)))
          have HF := Lib.hid (puV_big (hdec.trans hF))
          clear hF hdec hx hdg
          go_wp2_with ((with_reducible refine (CL.out _).mono ?_); rintro e w' ⟨rfl, rfl⟩)
          go_ret2
          exact ⟨by rw [HR.out, HF.out] <;> rfl, rfl⟩
        · have hF := (numRun_step (B := 16) (r := bs.drop (k + 1)) hdg (by rw [hx]) (by unfold lxBig; omega : a * 16 + ((c.toNat : Int) - 55) < lxBig))
          have HN := Lib.hid (hdec.trans hF)
          have iov : a * 16 + ((c.toNat : Int) - 55) ≤ 1099511627775 := by omega
          have i0 : 0 ≤ a * 16 + ((c.toNat : Int) - 55) := by omega
          clear hF hdec hx hov hdg
          go_wp2_with ((with_reducible refine (CL.out _).mono ?_); rintro e w' ⟨rfl, rfl⟩)
          refine ⟨⟨k + 1, a * 16 + ((c.toNat : Int) - 55), rfl, (by first | rfl | (congr 1; omega)), (by first | rfl | (congr 1; omega)), by omega, by omega, by omega, HN⟩, by simp [intOf]; omega⟩
    · -- at the end
      have hkk : k = t.size := by omega
      subst hkk
      rw [List.drop_eq_nil_of_le (by omega)] at hdec
      have HF := Lib.hid (puV_small (B := 16) (l := bs) (n := a) hdec (by unfold lxBig; omega))
      clear hdec
      go_wp2
      go_ret2
      exact ⟨by rw [HR.out, HF.out] <;> rfl, rfl⟩
end Go.Proofs.YtcdepfdfemmfhaaDoor
