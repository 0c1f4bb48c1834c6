/- ParseRows's walk, over what the program's Parse, Reg, Mem are to answer. -/
import Derived.Test.YtcdepfdfemmfhaaDoorParKnown
import Derived.Test.YtcdepfdfemmfhaaDoorParRowsT
namespace Go.Proofs.YtcdepfdfemmfhaaDoor
set_option linter.unusedVariables false
set_option linter.unusedSimpArgs false
open Go.RowKit
set_option maxHeartbeats 4000000 in
set_option maxRecDepth 100000 in
theorem parseRows_walk {Pre : World → Prop} (hPre : PreOk Pre) (hP : PParse Pre) (hR : PReg) (hM : PMem) (v : Value) (xs : List Nat) (inn : Nat) (hin : inn < 256) (hx : ∀ x ∈ xs, x < 256) (hl : xs.length ≤ 9223372036854775807) (w : World) (hW : Pre w) (hv : BytesAt w v xs) : Calls Tryd.prog 3 #[v, .int .u8 (inn : Int)] w fun e w' => e = .returned (.bool true) ∧ Keep w w' := by
  have CK := Lib.hid (known14_any hPre hP hR hM w hW)
  have HPre := Lib.hid hPre
  have HP := Lib.hid hP
  have HR := Lib.hid hR
  have HW := Lib.hid hW
  clear hPre hP hR hM hW
  obtain ⟨p, cap, rfl, hv⟩ := hv
  have HX := Lib.hid hx
  clear hx
  have l0 : (0 : Int) ≤ (xs.length : Int) := Int.natCast_nonneg _
  by_cases big : 20 < xs.length
  · have bigi : (20 : Int) < (xs.length : Int) := by omega
    clear hv
    go_enter Tryd.func3, Tryd.ntmps3
    go_wp2_with fail
    refine CK.out.mono ?_
    rintro e w1 ⟨rfl, hk1⟩
    have K1 := Lib.hid hk1
    clear hk1
    go_wp2_with fail
    go_ret
    exact ⟨rfl, K1.out⟩
  · have sbi : decide ((20 : Int) < (xs.length : Int)) = false := decide_eq_false (by omega)
    by_cases zero : xs = []
    · subst zero
      clear hv
      go_enter Tryd.func3, Tryd.ntmps3
      go_wp2_with fail
      refine CK.out.mono ?_
      rintro e w1 ⟨rfl, hk1⟩
      have K1 := Lib.hid hk1
      clear hk1
      go_wp2_with fail
      go_ret
      exact ⟨rfl, K1.out⟩
    · have ln : 0 < xs.length := List.length_pos_iff.2 zero
      have lni : ((xs.length : Int) == 0) = false := by simp; exact zero
      have lnz : ¬ (xs.length : Int) = 0 := by omega
      obtain ⟨b, off, rfl, hb, hc⟩ := hv.resolve_left zero
      have HC := Lib.hid hc
      have HB := Lib.hid hb
      have HZ := Lib.hid zero
      clear hv hc hb zero
      obtain ⟨q, hq⟩ : ∃ q : Nat, q = inn % xs.length := ⟨_, rfl⟩
      have qlt : q < xs.length := by rw [hq]; exact Nat.mod_lt _ ln
      have hqi : (inn : Int) % (xs.length : Int) = (q : Int) := by rw [hq]; omega
      have hqt : Int.tmod (inn : Int) (xs.length : Int) = (q : Int) := by rw [hq]; rfl
      clear hq
      have RT := Lib.hid (rowText_line (xs := xs) (q := q) HZ.out)
      have LEN : ∃ L : Nat, L = xs.length := ⟨_, rfl⟩
      go_enter Tryd.func3, Tryd.ntmps3
      go_wp2_with fail
      refine CK.out.mono ?_
      rintro e w1 ⟨rfl, hk1⟩
      have K1 := Lib.hid hk1
      clear hk1 CK
      go_wp2_with fail
      go_loopw [5, 6] (fun s i wr => ∃ k : Nat, k ≤ xs.length ∧ s = .string (rowText xs q k) ∧ i = .int .i64 (k : Int) ∧ Keep w1 wr) (fun _ i _ => xs.length - (intOf i).toNat)
      case atStart => exact ⟨0, Nat.zero_le _, rfl, rfl, Keep.refl _⟩
      case round =>
        obtain ⟨k, hk, rfl, rfl, hK⟩ := hrel
        have HK := Lib.hid hK
        clear hK
        have k0 : (0 : Int) ≤ (k : Int) := Int.natCast_nonneg _
        have tsz := rowText_size (xs := xs) (q := q) k hk
        by_cases h : k < xs.length
        · have h' : (k : Int) < (xs.length : Int) := by omega
          obtain ⟨x, hx⟩ : ∃ x, xs[k]? = some x := ⟨_, List.getElem?_eq_getElem h⟩
          have TS := Lib.hid (rowText_succ (q := q) hx)
          have x256 := HX.out x (List.mem_of_getElem? hx)
          have cx := (K1.out.trans HK.out).cellOf (HC.out k x hx)
          clear hx
          generalize hS1 : rowText xs q (k + 1) = S1 at TS
          generalize rowText xs q k = S at TS tsz
          have HS1 := Lib.hid hS1
          clear hS1
          obtain ⟨n, hn⟩ : ∃ n : Nat, (x : Int) % 16 = (n : Int) := ⟨x % 16, by omega⟩
          have HN := Lib.hid (show n = x % 16 by omega)
          have n16 : n < 16 := by omega
          have n0 : (0 : Int) ≤ (n : Int) := Int.natCast_nonneg _
          have dsz := decB_size n16
          have CD := Lib.hid (fun W => decimal_any n W (by omega))
          have hx16 : xItem (decide (k = q)) (x % 16) = xItem (decide (k = q)) n := by rw [HN.out]
          rw [hx16] at TS
          unfold xItem at TS
          change Hid (∀ W, Calls Tryd.prog 5 #[.int .i64 (n : Int)] W fun e w' => e = .returned (.string (decB n)) ∧ Keep W w') at CD
          generalize decB n = D at TS CD dsz
          by_cases hk0 : k = 0
          · subst hk0
            rw [Nat.add_zero] at cx
            by_cases hkq : q = 0
            · subst hkq
              rw [if_pos rfl, if_pos (decide_eq_true rfl)] at TS
              go_wp2_with fail
              refine (CD.out _).mono ?_
              rintro e w2 ⟨rfl, hk2⟩
              have K2 := Lib.hid (HK.out.trans hk2)
              clear hk2 cx
              go_wp2_with fail
              go_roundw
              case rel => exact ⟨0 + 1, h, by rw [HS1.out, TS.out], by go_num, K2.out⟩
              case measure => simp [intOf]; omega
            · rw [if_pos rfl, if_neg (by simp; omega)] at TS
              have e1 : ((0 : Int) == (q : Int)) = false := by simp; omega
              have e2 : decide ((0 : Int) = (q : Int)) = false := decide_eq_false (by omega)
              have e3 : ¬ (0 : Int) = (q : Int) := by omega
              go_wp2_with fail
              refine (CD.out _).mono ?_
              rintro e w2 ⟨rfl, hk2⟩
              have K2 := Lib.hid (HK.out.trans hk2)
              clear hk2 cx
              go_wp2_with fail
              go_roundw
              case rel => exact ⟨0 + 1, h, by rw [HS1.out, TS.out], by go_num, K2.out⟩
              case measure => simp [intOf]; omega
          · have kp : (0 : Int) < (k : Int) := by omega
            have kpd : decide ((0 : Int) < (k : Int)) = true := decide_eq_true kp
            by_cases hkq : k = q
            · subst hkq
              rw [if_neg hk0, if_pos (decide_eq_true rfl)] at TS
              go_wp2_with fail
              refine (CD.out _).mono ?_
              rintro e w2 ⟨rfl, hk2⟩
              have K2 := Lib.hid (HK.out.trans hk2)
              clear hk2 cx
              go_wp2_with fail
              go_roundw
              case rel => exact ⟨k + 1, h, by rw [HS1.out, TS.out], by go_num, K2.out⟩
              case measure => simp [intOf]; omega
            · rw [if_neg hk0, if_neg (by simp; omega)] at TS
              have e1 : ((k : Int) == (q : Int)) = false := by simp; omega
              have e2 : decide ((k : Int) = (q : Int)) = false := decide_eq_false (by omega)
              have e3 : ¬ (k : Int) = (q : Int) := by omega
              go_wp2_with fail
              refine (CD.out _).mono ?_
              rintro e w2 ⟨rfl, hk2⟩
              have K2 := Lib.hid (HK.out.trans hk2)
              clear hk2 cx
              go_wp2_with fail
              go_roundw
              case rel => exact ⟨k + 1, h, by rw [HS1.out, TS.out], by go_num, K2.out⟩
              case measure => simp [intOf]; omega
        · obtain rfl : k = xs.length := by omega
          obtain ⟨ts, uss, h1, h2, hlen, hget⟩ := RT.out
          have L1 : lineOf (rowText xs q xs.length).data.toList = .ok ⟨labB, opB, false, uss⟩ := by unfold lineOf; rw [h1]; exact h2
          have L2 := Lib.hid L1
          have HG := Lib.hid hget
          clear RT h1 h2 hget L1
          generalize rowText xs q xs.length = S at L2 tsz
          go_wp2_with fail
          refine (HP.out S _ (by omega) (HPre.out.keep HW.out (K1.out.trans HK.out))).mono ?_
          intro e w2 hp
          obtain ⟨v, rfl, hu, hk2⟩ := hp.good L2.out
          have HU := Lib.hid hu
          obtain ⟨pu, cu, rfl⟩ := hu.slice
          have K2 := Lib.hid (K1.out.trans (HK.out.trans hk2))
          clear hp hu hk2 HK tsz L2
          unfold lineV labB opB
          dsimp only at HU ⊢
          rw [hlen] at HU ⊢
          have BP := Lib.hid (Box.new w2 #[.string ⟨#[108, 97, 98]⟩, .string ⟨#[111, 112]⟩, .bool false, .slice pu xs.length cu] 27)
          have KA := Lib.hid ((Keep.refl w2).alloc (.cells #[.string ⟨#[108, 97, 98]⟩, .string ⟨#[111, 112]⟩, .bool false, .slice pu xs.length cu] 27))
          have HLN := Lib.hid hlen
          clear hlen
          go_wp2_with fail
          go_loopw [10] (fun i wr => ∃ k : Nat, k ≤ xs.length ∧ i = .int .i64 (k : Int) ∧ Keep (w2.alloc (.cells #[.string ⟨#[108, 97, 98]⟩, .string ⟨#[111, 112]⟩, .bool false, .slice pu xs.length cu] 27)) wr) (fun i _ => xs.length - (intOf i).toNat)
          case atStart => exact ⟨0, Nat.zero_le _, rfl, Keep.refl _⟩
          case round =>
            obtain ⟨k, hk, rfl, hK⟩ := hrel
            have HK := Lib.hid hK
            clear hK
            have k0 : (0 : Int) ≤ (k : Int) := Int.natCast_nonneg _
            have r1 := (BP.out.keep HK.out).cells
            by_cases h : k < xs.length
            · have h' : (k : Int) < (xs.length : Int) := by omega
              obtain ⟨x, hx⟩ : ∃ x, xs[k]? = some x := ⟨_, List.getElem?_eq_getElem h⟩
              obtain ⟨u, hu, hu7, hreg⟩ := HG.out k x hx
              have x256 := HX.out x (List.mem_of_getElem? hx)
              have CX := Lib.hid (HC.out k x hx)
              clear hx
              obtain ⟨b2, off2, cap2, x1, y1, e1, hb2, ca, ta⟩ := HU.out.get hu
              rw [HLN.out] at e1
              cases e1
              have CA := Lib.hid ca
              have TA := Lib.hid ta
              have HREG := Lib.hid hreg
              have U7 := Lib.hid hu7
              have c1 := (KA.out.trans HK.out).cellOf ca
              clear ca ta hu hreg hu7
              go_wp2_with fail
              refine (HR.out _ u _ (by have := U7.out; omega) (TA.out.keep (KA.out.trans HK.out))).mono ?_
              rintro e wa ⟨rfl, ka⟩
              have HKA := Lib.hid (HK.out.trans ka)
              have s1 := (BP.out.keep HKA.out).cells
              have cx := (K2.out.trans (KA.out.trans HKA.out)).cellOf CX.out
              clear ka r1 c1
              obtain ⟨n, hn⟩ : ∃ n : Nat, (x : Int) % 16 = (n : Int) := ⟨x % 16, by omega⟩
              have HN := Lib.hid (show n = x % 16 by omega)
              have n16 : n < 16 := by omega
              have n0 : (0 : Int) ≤ (n : Int) := Int.natCast_nonneg _
              have hreg := HREG.out
              rw [← HN.out] at hreg
              by_cases hkq : k = q
              · subst hkq
                rw [if_pos rfl] at hreg
                rw [hreg]
                clear hreg
                unfold regV
                dsimp only
                go_wp2_with fail
                go_roundw
                case rel => exact ⟨k + 1, h, by go_num, HKA.out⟩
                case measure => simp [intOf]; omega
              · rw [if_neg hkq] at hreg
                rw [hreg]
                clear hreg
                unfold regV
                dsimp only
                have e1 : ((k : Int) == (q : Int)) = false := by simp; omega
                have e2 : ((k : Int) != (q : Int)) = true := by simp; omega
                have e3 : ¬ (k : Int) = (q : Int) := by omega
                go_wp2_with fail
                go_roundw
                case rel => exact ⟨k + 1, h, by go_num, HKA.out⟩
                case measure => simp [intOf]; omega
            · obtain rfl : k = xs.length := by omega
              go_wp2_with fail
              go_ret
              exact ⟨rfl, K2.out.trans (KA.out.trans HK.out)⟩
/-- For a byte as the frame has it. -/
theorem parseRows_u8 {Pre : World → Prop} (hPre : PreOk Pre) (hP : PParse Pre) (hR : PReg) (hM : PMem) (v : Value) (xs : List Nat) (z : Int) (hz : 0 ≤ z ∧ z ≤ 255) (hx : ∀ x ∈ xs, x < 256) (hl : xs.length ≤ 9223372036854775807) (w : World) (hW : Pre w) (hv : BytesAt w v xs) : Calls Tryd.prog 3 #[v, .int .u8 z] w fun e w' => e = .returned (.bool true) ∧ Keep w w' := by
  obtain ⟨n, rfl⟩ : ∃ n : Nat, z = (n : Int) := ⟨z.toNat, by omega⟩
  exact parseRows_walk hPre hP hR hM v xs n (by omega) hx hl w hW hv
end Go.Proofs.YtcdepfdfemmfhaaDoor
