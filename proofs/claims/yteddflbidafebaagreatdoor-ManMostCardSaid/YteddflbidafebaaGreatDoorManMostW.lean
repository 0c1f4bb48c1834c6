/- ManMost's walk, over what the program's man is to answer. -/
import Derived.Test.YteddflbidafebaaGreatDoorManKnown
import Derived.Test.YteddflbidafebaaGreatDoorDec
import Derived.Test.YteddflbidafebaaGreatDoorGBase
import Derived.Test.YteddflbidafebaaGreatDoorGErr
import Derived.Laws.BytesArg
namespace Go.Proofs.YteddflbidafebaaGreatDoor
set_option linter.unusedVariables false
set_option linter.unusedSimpArgs false
open Go Go.RowKit
theorem bsL_append (a b : List UInt8) : bsL a ++ bsL b = bsL (a ++ b) := by
  apply ByteArray.ext
  simp [bsL]
theorem bsL_size (a : List UInt8) : (bsL a).size = a.length := by
  show a.toArray.size = _
  simp
theorem dec_digs : ∀ (f n : Nat), n < 10 ^ f → 0 < f → decF f n = Lib.decDigits n
  | 0, _, _, h => absurd h (by decide)
  | f + 1, n, h, _ => by
    unfold decF
    by_cases hn : n < 10
    · rw [if_pos hn, dec_last n hn]; rfl
    · rw [if_neg hn, dec_step n (by omega), dec_digs f (n / 10) (by rw [Nat.pow_succ] at h; omega) (by
        rcases Nat.eq_zero_or_pos f with rfl | hf
        · simp at h; omega
        · exact hf)]
      rfl
theorem digs_of (n : Nat) (h : n < 4294967296) : DigsOf n (Lib.decDigits n) := by
  rw [← dec_digs 10 n (by omega) (by decide)]
  exact decF_digs 10 n (by omega) (by decide)
theorem cmpTx_succ (D : List UInt8) : ∀ (k j : Nat), cmpTx D j (k + 1) = cmpTx D j k ++ (cmpLn D (j + k) ++ [10])
  | 0, j => by simp [cmpTx]
  | k + 1, j => by
    show cmpLn D j ++ 10 :: cmpTx D (j + 1) (k + 1) = (cmpLn D j ++ 10 :: cmpTx D (j + 1) k) ++ _
    rw [cmpTx_succ D k (j + 1), show j + 1 + k = j + (k + 1) by omega]
    simp
theorem shrTx_succ : ∀ (k j : Nat), shrTx j (k + 1) = shrTx j k ++ (shrLn (j + k) ++ [10])
  | 0, j => by simp [shrTx]
  | k + 1, j => by
    show shrLn j ++ 10 :: shrTx (j + 1) (k + 1) = (shrLn j ++ 10 :: shrTx (j + 1) k) ++ _
    rw [shrTx_succ k (j + 1), show j + 1 + k = j + (k + 1) by omega]
    simp
theorem cmpTx_len (D : List UInt8) : ∀ (k j : Nat), (cmpTx D j k).length = k * (9 + D.length)
  | 0, j => by simp [cmpTx]
  | k + 1, j => by
    have e : compT.data.toList.length = 4 := rfl
    simp only [cmpTx, cmpLn, cmpN, List.length_append, List.length_cons, List.length_nil, cmpTx_len D k (j + 1), e, Nat.add_mul]
    omega
theorem shrTx_len : ∀ (k j : Nat), (shrTx j k).length = k * 12
  | 0, j => by simp [shrTx]
  | k + 1, j => by
    have e : shareT.data.toList.length = 5 := rfl
    simp only [shrTx, shrLn, shrN, List.length_append, List.length_cons, List.length_nil, shrTx_len k (j + 1), e, Nat.add_mul]
    omega
theorem conv_ltr {k : Nat} (hk : k < 26) {w : World} {g : Nat} (hc : w.cell? ⟨g, 0, none⟩ = some (.int .u8 (97 + (k : Int)))) : (convert 25 9 (.slice (some ⟨g, 0, none⟩) 1 1)).run Tryz.prog w = .ok (.string (bsL [ltr k])) w := by
  rw [run_convert_bytes_arg w 25 5 Tryz.underlying25 Tryz.underlying5 g 0 1 1 [97 + (k : Int)] rfl
    (fun i hi => by
      have : i = 0 := by omega
      subst this
      exact hc) 9 Tryz.underlying9]
  have e : strOfNums [97 + (k : Int)] = bsL [ltr k] := by
    unfold strOfNums bsL ltr
    simp only [List.map_cons, List.map_nil]
    rw [show (97 + (k : Int)).toNat = 97 + k by omega]
  rw [e]
theorem merr_box {w : World} {u : Value} {x : WrV} (h : OErr w u x) (hx : x.2.2 ≠ 0) : ∃ q, u = faultP q ∧ Box w q #[.string x.1, .int .i64 x.2.1, .iface 40 (.int .i64 x.2.2)] := by
  rcases h with ⟨h, _⟩ | ⟨q, p, a, n, hn, he, h, hB⟩
  · exfalso
    apply hx
    unfold wrVal okV wrongV at h
    simp at h
    exact h.2.2
  · unfold wrVal wrongV at he
    simp at he
    obtain ⟨rfl, rfl, rfl⟩ := he
    exact ⟨q, h, hB⟩
/-- A line of a comp behind what is there. -/
theorem cmp_more (D : List UInt8) (k : Nat) : ((((bsL (cmpTx D 0 k) ++ bsL [99, 111, 109, 112, 32, 99]) ++ bsL [ltr k]) ++ bsL [32]) ++ bsL D) ++ bsL [10] = bsL (cmpTx D 0 (k + 1)) := by
  simp only [bsL_append]
  rw [cmpTx_succ D k 0, Nat.zero_add]
  congr 1
  simp [cmpLn, cmpN, compT, bsL]
theorem shr_more (C : List UInt8) (k : Nat) : ((bsL (C ++ shrTx 0 k) ++ bsL [115, 104, 97, 114, 101, 32, 115]) ++ bsL [ltr k]) ++ bsL [32, 49, 54, 10] = bsL (C ++ shrTx 0 (k + 1)) := by
  simp only [bsL_append]
  rw [shrTx_succ k 0, Nat.zero_add]
  congr 1
  simp [shrLn, shrN, shareT, bsL]
theorem most_more (D : List UInt8) (a b : Nat) : bsL (cmpTx D 0 a ++ shrTx 0 b) ++ bsL [115, 116, 97, 114, 116, 32, 99, 97, 32, 102, 10] = bsL (mostT D a b) := by
  rw [bsL_append]
  congr 1
  simp [mostT, staLn]
set_option maxHeartbeats 4000000 in
set_option maxRecDepth 100000 in
theorem manMost_any {Pre : World → Prop} (hPre : OPreOk Pre) (hP : PManParse Pre) (hK : ∀ w, Pre w → Calls Tryz.prog 4 #[] w fun e w' => e = .returned (.bool true) ∧ Keep w w') (c h s : Nat) (hc : c < 256) (hh : h < 256) (hs : s < 65536) (w : World) (hW : Pre w) :
    Calls Tryz.prog 3 #[.int .u8 (c : Int), .int .u8 (h : Int), .int .u16 (s : Int)] w fun e w' => e = .returned (.bool true) ∧ Keep w w' := by
  have CK := Lib.hid (hK w hW)
  have HP := Lib.hid hP
  have HPre := Lib.hid hPre
  have HW := Lib.hid hW
  clear hPre hP hK hW
  obtain ⟨a, ha⟩ : ∃ a : Nat, 1 + (c : Int) % 12 = (a : Int) := ⟨1 + c % 12, by omega⟩
  obtain ⟨b, hb⟩ : ∃ b : Nat, (h : Int) % 12 = (b : Int) := ⟨h % 12, by omega⟩
  obtain ⟨n, hn⟩ : ∃ n : Nat, (s : Int) % 300 * 16 = (n : Int) := ⟨s % 300 * 16, by omega⟩
  have AB : Hid (0 < a ∧ a ≤ 12 ∧ b ≤ 11 ∧ n < 5000 ∧ n % 16 = 0) := Lib.hid (by omega)
  have a12 : a ≤ 12 := by omega
  have b11 : b ≤ 11 := by omega
  have n5 : n < 5000 := by omega
  have wn : IntKind.i64.wrap (n : Int) = (n : Int) := by rw [IntKind.wrap_i64]; omega
  obtain ⟨D, hD⟩ : ∃ D, D = Lib.decDigits n := ⟨_, rfl⟩
  have DG : Hid (DigsOf n D) := Lib.hid (by rw [hD]; exact digs_of n (by omega))
  have DL : D.length ≤ 20 := by rw [hD, Lib.decDigits_length]; exact Lib.nDigits_le20 n (by omega)
  have CD : Hid (∀ W, Calls Tryz.prog 5 #[.int .i64 (n : Int)] W fun e w' => e = .returned (.string (bsL D)) ∧ Keep W w') := Lib.hid (fun W => by rw [hD]; exact decimal_any n W (by omega))
  clear hD
  have dsz : (bsL D).size ≤ 20 := by rw [bsL_size]; exact DL
  go_enter Tryz.func3, Tryz.ntmps3
  go_wp2_with fail
  refine CK.out.mono ?_
  rintro e w1 ⟨rfl, hk1⟩
  have K1 := Lib.hid hk1
  clear hk1 CK
  go_wp2_with fail
  clear ha hb hn
  go_loopw [10, 11] (fun sv i wr => ∃ k : Nat, k ≤ a ∧ sv = .string (bsL (cmpTx D 0 k)) ∧ i = .int .i64 (k : Int) ∧ Keep w1 wr) (fun _ i _ => a - (intOf i).toNat)
  case atStart => exact ⟨0, Nat.zero_le _, rfl, rfl, Keep.refl _⟩
  case round =>
    obtain ⟨k, hk, rfl, rfl, hKr⟩ := hrel
    have HK := Lib.hid hKr
    clear hKr
    by_cases hlt : k < a
    · have hki : (k : Int) < (a : Int) := by omega
      have SM := Lib.hid (cmp_more D k)
      have ssz : (bsL (cmpTx D 0 k)).size ≤ 400 := by
        rw [bsL_size, cmpTx_len]
        have : k * (9 + D.length) ≤ 12 * 29 := Nat.mul_le_mul (by omega) (by omega)
        omega
      have lsz : (bsL [ltr k]).size = 1 := by rw [bsL_size]; rfl
      generalize hS1 : bsL (cmpTx D 0 (k + 1)) = S1 at SM
      generalize bsL (cmpTx D 0 k) = S0 at SM ssz
      generalize hDB : bsL D = DB at SM dsz CD
      have HS1 := Lib.hid hS1
      have HDB := Lib.hid hDB
      clear hS1 hDB
      have w97 : IntKind.i64.wrap (97 + (k : Int)) = 97 + (k : Int) := by rw [IntKind.wrap_i64]; omega
      have w98 : IntKind.u8.wrap (97 + (k : Int)) = 97 + (k : Int) := by rw [IntKind.wrap_u8]; omega
      go_wp2_with fail
      refine Rel.regionO (KeepBut (fun z => wr.heap.size ≤ z)) (butWay _) [5, 6] [0, 1, 2, 3, 4, 9, 10, 11, 5, 6, 7, 8, 12, 13, 14] (by kernel_rfl) (by kernel_rfl) (Keep.refl _) ?_
      repeat (apply Rel.ordK_step (by rfl) (by rfl) (by rfl)
              · intro W' hW'
                go_simp
                first
                  | (apply yes_enter; go_at_call 5; refine (CD.out _).mono ?_; rintro e w' ⟨rfl, hk⟩; exact ⟨rfl, hk⟩)
                  | (rw [if_neg (by first | omega | (simp; omega))]; exact ⟨rfl, Keep.refl _⟩)
                  | exact ⟨rfl, Keep.refl _⟩
              go_simp)
      apply Rel.ordK_loose (by rfl) (by rfl) (by rfl)
      intro W2 h2
      go_simp
      apply Rel.gives_value
      refine ⟨((Keep.refl _).alloc _).but _, ?_⟩
      have KB := Lib.hid (h2.alloc (.cells #[.int .u8 (97 + (k : Int))] 5))
      have BB := Lib.hid (Box.new W2 #[.int .u8 (97 + (k : Int))] 5)
      obtain ⟨gb, hgb⟩ : ∃ gb, gb = W2.heap.size := ⟨_, rfl⟩
      rw [← hgb] at BB ⊢
      obtain ⟨WB, hWB⟩ : ∃ WB, WB = W2.alloc (.cells #[.int .u8 (97 + (k : Int))] 5) := ⟨_, rfl⟩
      rw [← hWB] at KB BB ⊢
      clear hWB hgb h2
      go_simp
      apply Rel.ordK_loose (by rfl) (by rfl) (by rfl)
      intro W3 h3
      have CV := conv_ltr (k := k) (by omega) (show W3.cell? ⟨gb, 0, none⟩ = some (.int .u8 (97 + (k : Int))) by rw [(BB.out.keep h3).cells]; rfl)
      have K3 := Lib.hid (KB.out.trans h3)
      clear h3
      go_simp
      apply Rel.gives_value
      refine ⟨KeepBut.refl _ _, ?_⟩
      clear CV
      generalize hLB : bsL [ltr k] = LB at SM lsz
      have HLB := Lib.hid hLB
      clear hLB
      go_simp
      repeat (apply Rel.ordK_step (by rfl) (by rfl) (by rfl)
              · intro W' hW'
                go_simp
                first
                  | (rw [if_neg (by first | omega | (simp; omega))]; exact ⟨rfl, Keep.refl _⟩)
                  | exact ⟨rfl, Keep.refl _⟩
              go_simp)
      apply Rel.ordK_end
      intro W5 hW5
      have K5 := Lib.hid (HK.out.trans (K3.out.trans hW5))
      clear hW5
      go_wp2_with fail
      go_roundw
      case rel => exact ⟨k + 1, hlt, by rw [HS1.out, ← SM.out] <;> rfl, by go_num, K5.out⟩
      case measure => simp [intOf]; omega
    · obtain rfl : k = a := by omega
      have KL := Lib.hid (K1.out.trans HK.out)
      have hCL : (cmpTx D 0 k).length ≤ 400 := by
        rw [cmpTx_len]
        have : k * (9 + D.length) ≤ 12 * 29 := Nat.mul_le_mul (by omega) (by omega)
        omega
      have CLT : Hid (cmpTx D 0 k = cmpTx D 0 k) := Lib.hid rfl
      generalize hC : cmpTx D 0 k = C at hCL CLT
      have HCC := Lib.hid hC
      clear hC
      clear HK
      go_wp2_with fail
      have AS := Lib.hid (Keep.refl wr)
      go_loopw [10, 12] (fun sv i w' => ∃ j : Nat, j ≤ b ∧ sv = .string (bsL (C ++ shrTx 0 j)) ∧ i = .int .i64 (j : Int) ∧ Keep w w') (fun _ i _ => b - (intOf i).toNat)
      case atStart => exact ⟨0, Nat.zero_le _, by simp [shrTx], rfl, KL.out⟩
      case round =>
        obtain ⟨j, hj, rfl, rfl, hKr⟩ := hrel
        have HK := Lib.hid hKr
        clear hKr
        by_cases hlt : j < b
        · have hji : (j : Int) < (b : Int) := by omega
          have SM := Lib.hid (shr_more C j)
          have ssz : (bsL (C ++ shrTx 0 j)).size ≤ 600 := by
            rw [bsL_size, List.length_append, shrTx_len]
            omega
          have lsz : (bsL [ltr j]).size = 1 := by rw [bsL_size]; rfl
          have CV := conv_ltr (k := j) (by omega) (w := wr.alloc (.cells #[.int .u8 (97 + (j : Int))] 5)) (g := wr.heap.size) (by rw [(Box.new wr #[.int .u8 (97 + (j : Int))] 5).cells]; rfl)
          have w97 : IntKind.i64.wrap (97 + (j : Int)) = 97 + (j : Int) := by rw [IntKind.wrap_i64]; omega
          have w98 : IntKind.u8.wrap (97 + (j : Int)) = 97 + (j : Int) := by rw [IntKind.wrap_u8]; omega
          generalize hS1 : bsL (C ++ shrTx 0 (j + 1)) = S1 at SM
          generalize bsL (C ++ shrTx 0 j) = S0 at SM ssz
          generalize hLB : bsL [ltr j] = LB at SM lsz CV
          have HS1 := Lib.hid hS1
          clear hS1 hLB
          go_wp2_with fail
          go_roundw
          case rel => exact ⟨j + 1, hlt, by rw [HS1.out, ← SM.out] <;> rfl, by go_num, HK.out.alloc _⟩
          case measure => simp [intOf]; omega
        · obtain rfl : j = b := by omega
          have MT : bsL (C ++ shrTx 0 j) ++ bsL [115, 116, 97, 114, 116, 32, 99, 97, 32, 102, 10] = bsL (mostT D k j) := by rw [← HCC.out]; exact most_more D k j
          have hsz : (bsL (mostT D k j)).size ≤ 800 := by
            rw [← MT, bsL_append, bsL_size, List.length_append, List.length_append, shrTx_len]
            simp only [List.length_cons, List.length_nil]
            omega
          have ssz : (bsL (C ++ shrTx 0 j)).size ≤ 600 := by
            rw [bsL_size, List.length_append, shrTx_len]
            omega
          have CP := Lib.hid (HP.out (bsL (mostT D k j)) wr hsz (HPre.out.keep HW.out HK.out))
          have SAYS := Lib.hid (most_says DG.out (by omega) AB.out.2.2.2.2 k j AB.out.1 AB.out.2.1 AB.out.2.2.1)
          have hbs : (bsL (mostT D k j)).data.toList = mostT D k j := rfl
          have HBS := Lib.hid hbs
          generalize hTT : bsL (mostT D k j) = TT at MT hsz CP HBS
          rw [← MT] at CP
          have HMT := Lib.hid MT
          clear MT hsz hTT
          generalize bsL (C ++ shrTx 0 j) = S0 at ssz CP HMT
          clear hCL
          go_wp2_with fail
          refine CP.out.mono ?_
          rintro e w3 ⟨hk3, m, vc, vi, vs, vg, u, rfl, hM, hu, _⟩
          obtain ⟨p1, c1, rfl, _, _, _⟩ := hM.comps
          obtain ⟨p2, c2, rfl, _, _, _⟩ := hM.imps
          obtain ⟨p3, c3, rfl, _, _, _⟩ := hM.shrs
          obtain ⟨p4, c4, rfl, _, _, _⟩ := hM.grns
          rw [HMT.out] at hu
          have HU := Lib.hid hu
          have K3 := Lib.hid (HK.out.trans hk3)
          obtain ⟨l1, h1⟩ : ∃ l, l = m.comps.length := ⟨_, rfl⟩
          obtain ⟨l2, h2⟩ : ∃ l, l = m.imps.length := ⟨_, rfl⟩
          obtain ⟨l3, h3⟩ : ∃ l, l = m.shrs.length := ⟨_, rfl⟩
          obtain ⟨l4, h4⟩ : ∃ l, l = m.grns.length := ⟨_, rfl⟩
          unfold manVal
          rw [← h1, ← h2, ← h3, ← h4]
          clear h1 h2 h3 h4 hM hu hk3 CP ssz
          have KM := Lib.hid (K3.out.alloc (.cells #[.slice p1 l1 c1, .slice p2 l2 c2, .slice p3 l3 c3, .slice p4 l4 c4, .string m.start.comp, .string m.start.from_, .string m.start.name] 34))
          by_cases a8 : 8 < k
          · have d8 : decide ((8 : Int) < (k : Int)) = true := decide_eq_true (by omega)
            have hu2 := HU.out
            rw [manPW_err (by rw [HBS.out]; exact SAYS.out.1 a8)] at hu2
            obtain ⟨q, hq, hB⟩ := merr_box hu2 (show (15 : Int) ≠ 0 by decide)
            subst hq
            have CI := Lib.hid (is_wrapped q _ _ 15 _ (hB.alloc (.cells #[.slice p1 l1 c1, .slice p2 l2 c2, .slice p3 l3 c3, .slice p4 l4 c4, .string m.start.comp, .string m.start.from_, .string m.start.name] 34)))
            clear hu2 hB HU
            unfold faultP
            skip
            go_wp2_with fail
            refine CI.out.mono ?_
            rintro e w4 ⟨rfl, hk4⟩
            have K4 := Lib.hid (KM.out.trans hk4)
            clear hk4
            go_wp2_with fail
            go_ret
            exact ⟨rfl, K4.out⟩
          have d8 : decide ((8 : Int) < (k : Int)) = false := decide_eq_false (by omega)
          by_cases nz : n = 0
          · have e0 : ((n : Int) == 0) = true := by subst nz; rfl
            have hu2 := HU.out
            rw [manPW_err (by rw [HBS.out]; exact SAYS.out.2.1 (by omega) (.inl nz))] at hu2
            obtain ⟨q, hq, hB⟩ := merr_box hu2 (show (14 : Int) ≠ 0 by decide)
            subst hq
            have CI := Lib.hid (is_wrapped q _ _ 14 _ (hB.alloc (.cells #[.slice p1 l1 c1, .slice p2 l2 c2, .slice p3 l3 c3, .slice p4 l4 c4, .string m.start.comp, .string m.start.from_, .string m.start.name] 34)))
            clear hu2 hB HU
            unfold faultP
            skip
            go_wp2_with fail
            refine CI.out.mono ?_
            rintro e w4 ⟨rfl, hk4⟩
            have K4 := Lib.hid (KM.out.trans hk4)
            clear hk4
            go_wp2_with fail
            go_ret
            exact ⟨rfl, K4.out⟩
          have e0 : ((n : Int) == 0) = false := beq_eq_false_iff_ne.2 (by omega)
          by_cases nb : 4096 < n
          · have e1 : decide ((4096 : Int) < (n : Int)) = true := decide_eq_true (by omega)
            have hu2 := HU.out
            rw [manPW_err (by rw [HBS.out]; exact SAYS.out.2.1 (by omega) (.inr nb))] at hu2
            obtain ⟨q, hq, hB⟩ := merr_box hu2 (show (14 : Int) ≠ 0 by decide)
            subst hq
            have CI := Lib.hid (is_wrapped q _ _ 14 _ (hB.alloc (.cells #[.slice p1 l1 c1, .slice p2 l2 c2, .slice p3 l3 c3, .slice p4 l4 c4, .string m.start.comp, .string m.start.from_, .string m.start.name] 34)))
            clear hu2 hB HU
            unfold faultP
            skip
            go_wp2_with fail
            refine CI.out.mono ?_
            rintro e w4 ⟨rfl, hk4⟩
            have K4 := Lib.hid (KM.out.trans hk4)
            clear hk4
            go_wp2_with fail
            go_ret
            exact ⟨rfl, K4.out⟩
          have e1 : decide ((4096 : Int) < (n : Int)) = false := decide_eq_false (by omega)
          by_cases b8 : 8 < j
          · have d9 : decide ((8 : Int) < (j : Int)) = true := decide_eq_true (by omega)
            have hu2 := HU.out
            rw [manPW_err (by rw [HBS.out]; exact SAYS.out.2.2.1 (by omega) (by omega) b8)] at hu2
            obtain ⟨q, hq, hB⟩ := merr_box hu2 (show (15 : Int) ≠ 0 by decide)
            subst hq
            have CI := Lib.hid (is_wrapped q _ _ 15 _ (hB.alloc (.cells #[.slice p1 l1 c1, .slice p2 l2 c2, .slice p3 l3 c3, .slice p4 l4 c4, .string m.start.comp, .string m.start.from_, .string m.start.name] 34)))
            clear hu2 hB HU
            unfold faultP
            skip
            go_wp2_with fail
            refine CI.out.mono ?_
            rintro e w4 ⟨rfl, hk4⟩
            have K4 := Lib.hid (KM.out.trans hk4)
            clear hk4
            go_wp2_with fail
            go_ret
            exact ⟨rfl, K4.out⟩
          have d9 : decide ((8 : Int) < (j : Int)) = false := decide_eq_false (by omega)
          obtain rfl : u = .nilIface := OErr.good HU.out (by rw [manPW_ok (by rw [HBS.out]; exact SAYS.out.2.2.2 (by omega) (by omega) (by omega))]; rfl)
          clear HU
          go_wp2_with fail
          go_ret
          exact ⟨rfl, KM.out⟩
end Go.Proofs.YteddflbidafebaaGreatDoor
