/- MemTags's walk. -/
import Derived.Test.YtnnelghngekbpaaDoorMemApartWalk
namespace Go.Proofs.YtnnelghngekbpaaDoor
set_option linter.unusedVariables false
set_option linter.unusedSimpArgs false
open Go.RowKit
/-- Each of the first k granules holds its own root. -/
def Roots (bs : List Int) (ts : List Bool) (k : Nat) : Prop := ∀ g, g < k → sixteen bs (16 * g) = putL 0 (g : Int) 0 127 0 ∧ ts.getD g false = true
theorem Roots.step {bs : List Int} {ts : List Bool} {k N : Nat} (h : Roots bs ts k) (hl : bs.length = 16 * N) (ht : ts.length = N) (hk : k < N) :
    Roots (putAt bs (16 * k) (putL 0 (k : Int) 0 127 0)) (ts.set k true) (k + 1) := by
  intro g hg
  by_cases e : g = k
  · subst e
    exact ⟨sixteen_put _ _ _ (putL_length _ _ _ _ _) (by omega), by rw [set_getD _ _ _ _ (by omega), if_pos rfl]⟩
  · obtain ⟨h1, h2⟩ := h g (by omega)
    refine ⟨?_, by rw [set_getD _ _ _ _ (by omega), if_neg e]; exact h2⟩
    rw [sixteen_far _ _ _ _ (by rw [putL_length]; omega) (by omega) (by rw [putL_length]; omega)]
    exact h1
theorem tagsAt_all (ts : List Bool) : ∀ k, (∀ g, g < k → ts.getD g false = true) → (tagsAt ts k).length = k
  | 0, _ => rfl
  | k + 1, h => by
    rw [tagsAt, if_pos (h k (by omega)), List.length_append, tagsAt_all ts k (fun g hg => h g (by omega))]
    rfl
set_option maxRecDepth 100000 in
set_option maxHeartbeats 2000000 in
theorem memTags_walk (p : Int) (vx : Value) (xs : List Int) {W : World} (hp : 0 ≤ p ∧ p ≤ 255) (hLx : Lies W vx xs (fun _ => False)) (hBx : ∀ z ∈ xs, IsByte z) (hNx : xs.length ≤ 140737488351232) (hE : ErrT W) :
    Calls Tryd.prog 4 #[.int .u8 p, vx] W fun e W' => e = .returned (.bool true) ∧ Keep W W' := by
  have HE := Lib.hid hE
  have HLx := Lib.hid hLx
  have HBx := Lib.hid hBx
  obtain ⟨adx, csx, rfl, hcx, -⟩ := hLx
  obtain ⟨X, hX⟩ : ∃ X, X = xs.length := ⟨_, rfl⟩
  rw [← hX] at hNx ⊢
  have HX := Lib.hid hX
  clear hE hBx hX hcx
  have x0 : (0 : Int) ≤ (X : Int) := Int.natCast_nonneg _
  have x1 : (X : Int) ≤ 140737488351232 := by omega
  obtain ⟨P, rfl⟩ := Int.eq_ofNat_of_zero_le hp.1
  go_enter Tryd.func4, Tryd.ntmps4
  go_wp2_with fail
  refine (mknown_any _ HE.out).mono ?_
  rintro e w1 ⟨rfl, hk1⟩
  have K1 := Lib.hid hk1
  clear hk1
  go_wp2_with fail
  · go_ret
    exact ⟨rfl, K1.out⟩
  refine (dnew_good 256 16 (by decide) (by decide) (by decide) _ (HE.out.keep K1.out)).mono ?_
  rintro e w2 ⟨m, O, rfl, hD, hk2, hO⟩
  have K2 := Lib.hid (K1.out.trans hk2)
  have D2 := Lib.hid hD
  have OL := Lib.hid (fun z (h : O z) => Nat.le_trans K1.out.size (hO z h))
  clear hk2 hD hO
  unfold ptrV
  go_wp2_with fail
  have xle : X ≤ 200 := by omega
  go_loopw [7] (fun i wr => ∃ (k : Nat) (bs : List Int) (ts : List Bool), k ≤ 16 ∧ i = .int .i64 (k : Int) ∧ DMem wr m O bs ts ∧ bs.length = 16 * 16 ∧ Roots bs ts k ∧ KeepBut O w2 wr) (fun i _ => 16 - (intOf i).toNat)
  case atStart => exact ⟨0, _, _, by decide, rfl, D2.out, by simp, fun g hg => by omega, KeepBut.refl _ _⟩
  case round =>
    obtain ⟨k, bs, ts, hk, rfl, hM, hL, hF, hK⟩ := hrel
    have k0 : (0 : Int) ≤ (k : Int) := Int.natCast_nonneg _
    have HM := Lib.hid hM
    have HK := Lib.hid hK
    have HL := Lib.hid hL
    have HF := Lib.hid hF
    clear hM hK hL hF
    by_cases h : k < 16
    · have hk16 : (k : Int) < 16 := by omega
      go_wp2_with fail
      refine (croot_any _ _).mono ?_
      rintro e w4 ⟨rfl, hk4⟩
      go_wp2_with fail
      refine (dstoreCap_at k HL.out h true 0 (k : Int) 0 127 0 (by decide) (by omega) (by decide) (by decide) (by decide) (HM.out.keep hk4) (HE.out.keep ((K2.out.butNew HK.out OL.out).trans hk4))).mono ?_
      rintro e w5 ⟨rfl, hD5, hB5⟩
      have htl := HM.out.len
      have hF5 := HF.out.step HL.out (by rw [HL.out] at htl; omega) h
      have M5 := Lib.hid hD5
      have F5 := Lib.hid hF5
      have K5 := Lib.hid ((HK.out.trans (hk4.but _)).trans hB5)
      clear hk4 hD5 hB5 HM HK htl hF5
      go_wp2_with fail
      refine ⟨⟨k + 1, _, _, h, by simp, M5.out, by rw [putAt_length]; exact HL.out, F5.out, K5.out⟩, by simp [intOf]; omega⟩
    · obtain rfl : k = 16 := by omega
      have KW := Lib.hid (K2.out.butNew HK.out OL.out)
      have htl := HM.out.len
      rw [HL.out] at htl
      have HTL : Hid (ts.length = 16) := Lib.hid (by omega)
      by_cases hbig : 256 < (P : Int) + (X : Int)
      · go_wp2_with fail
        refine (dstore_any (P : Int) (by unfold In64; omega) _ xs HBx.out HM.out (by rw [HX.out]; exact HLx.out.apart KW.out OL.out)).mono ?_
        rintro e w6 ⟨u, rfl, h6⟩
        obtain ⟨hu, hk6⟩ : ErrV w6 u (rangeV P) ∧ Keep wr w6 := by
          rcases h6 with ⟨_, h⟩ | ⟨hn, _⟩
          · exact h
          · exfalso
            have := reachB_true hn
            rw [HL.out, ← HX.out] at this
            omega
        obtain ⟨q, rfl⟩ := hu.fault (fun h => absurd (okV_wrong h.symm) (by decide))
        have M6 := Lib.hid (HM.out.keep hk6)
        have K6 := Lib.hid (KW.out.trans hk6)
        have CT := Lib.hid (fun W' (k : Keep w6 W') => dtags_any (M6.out.keep k))
        rw [HTL.out] at CT
        rw [tagsAt_all ts 16 (fun g hg => (HF.out g hg).2)] at CT
        unfold ptrV at CT
        unfold faultP
        clear h6 hu hk6 htl
        go_wp2_with fail
        refine (CT.out _ (Keep.refl _)).mono ?_
        rintro e w7 ⟨v, rfl, ho, hk7⟩
        obtain ⟨g, cap, rfl, _, _, _, _, _⟩ := own_ints ho (tagsAt_all ts 16 (fun g hg => (HF.out g hg).2)) (by decide)
        go_wp2_with fail
        go_ret
        exact ⟨rfl, K6.out.trans hk7⟩
      · have hle : (P : Int) + (X : Int) ≤ 256 := by omega
        go_wp2_with fail
        refine (dstore_in (P : Int) adx X csx xs HX.out (by omega) (by rw [HL.out]; omega) HBx.out HM.out (HLx.out.apart KW.out OL.out)).mono ?_
        rintro e w6 ⟨rfl, hD6, hB6⟩
        rw [Int.toNat_natCast] at hD6
        have HX6 := Lib.hid (show ∀ g, g < 16 → (offAt ts P xs.length).getD g false = !(decide (0 < X) && decide (P / 16 ≤ g) && decide (g ≤ (P + X - 1) / 16)) from fun g hg => by rw [offAt_getD, (HF.out g hg).2, Bool.true_and, HX.out])
        have HS6 := Lib.hid (show ∀ g, g < 16 → (16 * g + 16 ≤ P ∨ P + X ≤ 16 * g ∨ X = 0) → sixteen (putAt bs P xs) (16 * g) = putL 0 (g : Int) 0 127 0 from fun g hg hd => by
          rw [← (HF.out g hg).1]
          have l1 := HL.out
          have l2 := HX.out
          rcases Nat.eq_zero_or_pos X with h0 | h0
          · have : xs = [] := List.eq_nil_of_length_eq_zero (by omega)
            rw [this]; rfl
          · exact sixteen_far _ _ _ _ (by omega) (by omega) (by omega))
        have HL6 : Hid ((putAt bs P xs).length = 16 * 16) := Lib.hid (by rw [putAt_length]; exact HL.out)
        obtain ⟨bs6, hbs6⟩ : ∃ bs6, bs6 = putAt bs P xs := ⟨_, rfl⟩
        obtain ⟨ts6, hts6⟩ : ∃ ts6, ts6 = offAt ts P xs.length := ⟨_, rfl⟩
        rw [← hbs6, ← hts6] at hD6
        rw [← hbs6] at HL6 HS6
        rw [← hts6] at HX6
        have M6 := Lib.hid hD6
        have KW6 := Lib.hid (KW.out.butNew hB6 OL.out)
        clear hD6 hB6 hbs6 hts6 HM HK HL HF htl
        go_wp2_with fail
        go_loopw [10] (fun i wr => ∃ k : Nat, k ≤ 16 ∧ i = .int .i64 (k : Int) ∧ Keep w6 wr) (fun i _ => 16 - (intOf i).toNat)
        case atStart => exact ⟨0, by decide, rfl, Keep.refl _⟩
        case round =>
        obtain ⟨k, hk, rfl, hK⟩ := hrel
        have k0 : (0 : Int) ≤ (k : Int) := Int.natCast_nonneg _
        by_cases h : k < 16
        · have hk16 : (k : Int) < 16 := by omega
          have wk2 : IntKind.i64.wrap (16 * (k : Int)) = 16 * (k : Int) := by rw [IntKind.wrap_i64]; omega
          have wk : IntKind.u32.wrap (k : Int) = (k : Int) := by rw [IntKind.wrap_u32]; omega
          have HK := Lib.hid hK
          have hd1 := dec_or ((0 : Int) < (X : Int))
          have hd2 := dec_or ((P : Int) < 16 * (k : Int) + 16)
          have hd3 := dec_or ((16 : Int) * (k : Int) < (P : Int) + (X : Int))
          clear hK
          rcases hd1 with ⟨d1, q1⟩ | ⟨d1, q1⟩
          rcases hd2 with ⟨d2, q2⟩ | ⟨d2, q2⟩
          rcases hd3 with ⟨d3, q3⟩ | ⟨d3, q3⟩
          · have hv : (decide (0 ≤ 16 * (k : Int)) && decide (16 * (k : Int) < (bs6.length : Int)) && ts6.getD ((16 * (k : Int)).toNat / 16) false) = false := by
              rw [HL6.out, show (16 * (k : Int)).toNat / 16 = k by omega, HX6.out k h]
              have r1 : decide (0 ≤ 16 * (k : Int)) = true := decide_eq_true (by omega)
              have r2 : decide (16 * (k : Int) < ((16 * 16 : Nat) : Int)) = true := decide_eq_true (by omega)
              rw [r1, r2]
              rw [decide_eq_true (show 0 < X by omega), decide_eq_true (show P / 16 ≤ k by omega), decide_eq_true (show k ≤ (P + X - 1) / 16 by omega)]
              rfl
            obtain ⟨x1', x2', x3', x4', x5', hc⟩ : ∃ x1 x2 x3 x4 x5 : Int, capV (ts6.getD k false) (sixteen bs6 (16 * k)) = .agg #[.bool (ts6.getD k false), .int .u32 x1, .int .u32 x2, .int .u32 x3, .int .u16 x4, .int .u16 x5] := ⟨_, _, _, _, _, rfl⟩
            obtain ⟨tt, htt⟩ : ∃ tt, tt = ts6.getD k false := ⟨_, rfl⟩
            have HTT := Lib.hid htt
            rw [← htt] at hc
            clear htt
            have hcc : capV (ts6.getD k false) (sixteen bs6 (16 * k)) = .agg #[.bool tt, .int .u32 x1', .int .u32 x2', .int .u32 x3', .int .u16 x4', .int .u16 x5'] := by rw [← HTT.out]; exact hc
            have HC := Lib.hid hcc
            clear hc hcc
            have CTg := Lib.hid (fun W' (kk : Keep w6 W') => dtag_any (16 * (k : Int)) (by unfold In64; omega) (M6.out.keep kk))
            rw [hv] at CTg
            unfold ptrV at CTg
            clear hv
            go_wp2_with fail
            refine (dloadCap_at k HL6.out h (by decide) _ HC.out (M6.out.keep HK.out) (HE.out.keep (KW6.out.trans HK.out))).mono ?_
            rintro e w7 ⟨rfl, hk7⟩
            have HK7 := Lib.hid (HK.out.trans hk7)
            clear hk7
            go_wp2_with fail
            refine region_grows (Keep _) (by kernel_rfl) (by kernel_rfl) (Keep.refl _).drew ?_
            repeat (first
              | (apply text_pass (by rfl)
                 go_simp)
              | (apply text_step (by rfl)
                 · intro W hW
                   have c1 := ((Box.new w7 #[.bool tt, .int .u32 x1', .int .u32 x2', .int .u32 x3', .int .u16 x4', .int .u16 x5'] 39).keep hW).cells
                   go_simp
                   first
                    | exact ⟨rfl, hW⟩
                    | (apply yes_enter; go_at_call 23; with_reducible refine (CTg.out _ ((HK7.out.alloc _).trans hW)).mono ?_; rintro e w' ⟨rfl, hk⟩; exact ⟨rfl, hW.trans hk⟩)
                    | (apply yes_enter; go_at_call 25; refine (croot_any _ _).mono ?_; rintro e w' ⟨rfl, hk⟩; exact ⟨rfl, hW.trans hk⟩)
                 go_simp))
            apply text_end
            intro W hW
            have HKW := Lib.hid ((HK7.out.alloc _).trans hW)
            clear hW
            go_wp2_with fail
            exact ⟨⟨k + 1, h, by simp, HKW.out⟩, by simp [intOf]; omega⟩
          · have hv : (decide (0 ≤ 16 * (k : Int)) && decide (16 * (k : Int) < (bs6.length : Int)) && ts6.getD ((16 * (k : Int)).toNat / 16) false) = true := by
              rw [HL6.out, show (16 * (k : Int)).toNat / 16 = k by omega, HX6.out k h]
              have r1 : decide (0 ≤ 16 * (k : Int)) = true := decide_eq_true (by omega)
              have r2 : decide (16 * (k : Int) < ((16 * 16 : Nat) : Int)) = true := decide_eq_true (by omega)
              rw [r1, r2]
              rw [decide_eq_false (show ¬ k ≤ (P + X - 1) / 16 by omega), Bool.and_false]
              rfl
            have HC := Lib.hid (show capV (ts6.getD k false) (sixteen bs6 (16 * k)) = .agg #[.bool true, .int .u32 0, .int .u32 (k : Int), .int .u32 0, .int .u16 127, .int .u16 0] from by
              have hs := HS6.out k h (by omega)
              have hg : ts6.getD k false = true := by
                rw [HX6.out k h]
                rw [decide_eq_false (show ¬ k ≤ (P + X - 1) / 16 by omega), Bool.and_false]
                rfl
              rw [hs, hg, capV_put true 0 (k : Int) 0 127 0 (by decide) (by omega) (by decide) (by decide) (by decide)])
            have hE : ∀ W, (Op.equalIn 10000 39 (.agg #[.bool true, .int .u32 0, .int .u32 (k : Int), .int .u32 0, .int .u16 127, .int .u16 0]) (.agg #[.bool true, .int .u32 0, .int .u32 (k : Int), .int .u32 0, .int .u16 127, .int .u16 0])).run Tryd.prog W = .ok true W := fun W => by
              rw [eqin_cap]
              simp
            have CTg := Lib.hid (fun W' (kk : Keep w6 W') => dtag_any (16 * (k : Int)) (by unfold In64; omega) (M6.out.keep kk))
            rw [hv] at CTg
            unfold ptrV at CTg
            clear hv
            go_wp2_with fail
            refine (dloadCap_at k HL6.out h (by decide) _ HC.out (M6.out.keep HK.out) (HE.out.keep (KW6.out.trans HK.out))).mono ?_
            rintro e w7 ⟨rfl, hk7⟩
            have HK7 := Lib.hid (HK.out.trans hk7)
            clear hk7
            go_wp2_with fail
            refine region_grows (Keep _) (by kernel_rfl) (by kernel_rfl) (Keep.refl _).drew ?_
            repeat (first
              | (apply text_pass (by rfl)
                 go_simp)
              | (apply text_step (by rfl)
                 · intro W hW
                   have c1 := ((Box.new w7 #[.bool true, .int .u32 0, .int .u32 (k : Int), .int .u32 0, .int .u16 127, .int .u16 0] 39).keep hW).cells
                   go_simp
                   first
                    | exact ⟨rfl, hW⟩
                    | (apply yes_enter; go_at_call 23; with_reducible refine (CTg.out _ ((HK7.out.alloc _).trans hW)).mono ?_; rintro e w' ⟨rfl, hk⟩; exact ⟨rfl, hW.trans hk⟩)
                    | (apply yes_enter; go_at_call 25; refine (croot_any _ _).mono ?_; rintro e w' ⟨rfl, hk⟩; exact ⟨rfl, hW.trans hk⟩)
                 go_simp))
            apply text_end
            intro W hW
            have HKW := Lib.hid ((HK7.out.alloc _).trans hW)
            clear hW
            go_wp2_with fail
            exact ⟨⟨k + 1, h, by simp, HKW.out⟩, by simp [intOf]; omega⟩
          · have hv : (decide (0 ≤ 16 * (k : Int)) && decide (16 * (k : Int) < (bs6.length : Int)) && ts6.getD ((16 * (k : Int)).toNat / 16) false) = true := by
              rw [HL6.out, show (16 * (k : Int)).toNat / 16 = k by omega, HX6.out k h]
              have r1 : decide (0 ≤ 16 * (k : Int)) = true := decide_eq_true (by omega)
              have r2 : decide (16 * (k : Int) < ((16 * 16 : Nat) : Int)) = true := decide_eq_true (by omega)
              rw [r1, r2]
              rw [decide_eq_false (show ¬ P / 16 ≤ k by omega), Bool.and_false]
              rfl
            have HC := Lib.hid (show capV (ts6.getD k false) (sixteen bs6 (16 * k)) = .agg #[.bool true, .int .u32 0, .int .u32 (k : Int), .int .u32 0, .int .u16 127, .int .u16 0] from by
              have hs := HS6.out k h (by omega)
              have hg : ts6.getD k false = true := by
                rw [HX6.out k h]
                rw [decide_eq_false (show ¬ P / 16 ≤ k by omega), Bool.and_false]
                rfl
              rw [hs, hg, capV_put true 0 (k : Int) 0 127 0 (by decide) (by omega) (by decide) (by decide) (by decide)])
            have hE : ∀ W, (Op.equalIn 10000 39 (.agg #[.bool true, .int .u32 0, .int .u32 (k : Int), .int .u32 0, .int .u16 127, .int .u16 0]) (.agg #[.bool true, .int .u32 0, .int .u32 (k : Int), .int .u32 0, .int .u16 127, .int .u16 0])).run Tryd.prog W = .ok true W := fun W => by
              rw [eqin_cap]
              simp
            have CTg := Lib.hid (fun W' (kk : Keep w6 W') => dtag_any (16 * (k : Int)) (by unfold In64; omega) (M6.out.keep kk))
            rw [hv] at CTg
            unfold ptrV at CTg
            clear hv
            go_wp2_with fail
            refine (dloadCap_at k HL6.out h (by decide) _ HC.out (M6.out.keep HK.out) (HE.out.keep (KW6.out.trans HK.out))).mono ?_
            rintro e w7 ⟨rfl, hk7⟩
            have HK7 := Lib.hid (HK.out.trans hk7)
            clear hk7
            go_wp2_with fail
            refine region_grows (Keep _) (by kernel_rfl) (by kernel_rfl) (Keep.refl _).drew ?_
            repeat (first
              | (apply text_pass (by rfl)
                 go_simp)
              | (apply text_step (by rfl)
                 · intro W hW
                   have c1 := ((Box.new w7 #[.bool true, .int .u32 0, .int .u32 (k : Int), .int .u32 0, .int .u16 127, .int .u16 0] 39).keep hW).cells
                   go_simp
                   first
                    | exact ⟨rfl, hW⟩
                    | (apply yes_enter; go_at_call 23; with_reducible refine (CTg.out _ ((HK7.out.alloc _).trans hW)).mono ?_; rintro e w' ⟨rfl, hk⟩; exact ⟨rfl, hW.trans hk⟩)
                    | (apply yes_enter; go_at_call 25; refine (croot_any _ _).mono ?_; rintro e w' ⟨rfl, hk⟩; exact ⟨rfl, hW.trans hk⟩)
                 go_simp))
            apply text_end
            intro W hW
            have HKW := Lib.hid ((HK7.out.alloc _).trans hW)
            clear hW
            go_wp2_with fail
            exact ⟨⟨k + 1, h, by simp, HKW.out⟩, by simp [intOf]; omega⟩
          · have hv : (decide (0 ≤ 16 * (k : Int)) && decide (16 * (k : Int) < (bs6.length : Int)) && ts6.getD ((16 * (k : Int)).toNat / 16) false) = true := by
              rw [HL6.out, show (16 * (k : Int)).toNat / 16 = k by omega, HX6.out k h]
              have r1 : decide (0 ≤ 16 * (k : Int)) = true := decide_eq_true (by omega)
              have r2 : decide (16 * (k : Int) < ((16 * 16 : Nat) : Int)) = true := decide_eq_true (by omega)
              rw [r1, r2]
              rw [decide_eq_false (show ¬ 0 < X by omega)]
              rfl
            have HC := Lib.hid (show capV (ts6.getD k false) (sixteen bs6 (16 * k)) = .agg #[.bool true, .int .u32 0, .int .u32 (k : Int), .int .u32 0, .int .u16 127, .int .u16 0] from by
              have hs := HS6.out k h (by omega)
              have hg : ts6.getD k false = true := by
                rw [HX6.out k h]
                rw [decide_eq_false (show ¬ 0 < X by omega)]
                rfl
              rw [hs, hg, capV_put true 0 (k : Int) 0 127 0 (by decide) (by omega) (by decide) (by decide) (by decide)])
            have hE : ∀ W, (Op.equalIn 10000 39 (.agg #[.bool true, .int .u32 0, .int .u32 (k : Int), .int .u32 0, .int .u16 127, .int .u16 0]) (.agg #[.bool true, .int .u32 0, .int .u32 (k : Int), .int .u32 0, .int .u16 127, .int .u16 0])).run Tryd.prog W = .ok true W := fun W => by
              rw [eqin_cap]
              simp
            have CTg := Lib.hid (fun W' (kk : Keep w6 W') => dtag_any (16 * (k : Int)) (by unfold In64; omega) (M6.out.keep kk))
            rw [hv] at CTg
            unfold ptrV at CTg
            clear hv
            go_wp2_with fail
            refine (dloadCap_at k HL6.out h (by decide) _ HC.out (M6.out.keep HK.out) (HE.out.keep (KW6.out.trans HK.out))).mono ?_
            rintro e w7 ⟨rfl, hk7⟩
            have HK7 := Lib.hid (HK.out.trans hk7)
            clear hk7
            go_wp2_with fail
            refine region_grows (Keep _) (by kernel_rfl) (by kernel_rfl) (Keep.refl _).drew ?_
            repeat (first
              | (apply text_pass (by rfl)
                 go_simp)
              | (apply text_step (by rfl)
                 · intro W hW
                   have c1 := ((Box.new w7 #[.bool true, .int .u32 0, .int .u32 (k : Int), .int .u32 0, .int .u16 127, .int .u16 0] 39).keep hW).cells
                   go_simp
                   first
                    | exact ⟨rfl, hW⟩
                    | (apply yes_enter; go_at_call 23; with_reducible refine (CTg.out _ ((HK7.out.alloc _).trans hW)).mono ?_; rintro e w' ⟨rfl, hk⟩; exact ⟨rfl, hW.trans hk⟩)
                    | (apply yes_enter; go_at_call 25; refine (croot_any _ _).mono ?_; rintro e w' ⟨rfl, hk⟩; exact ⟨rfl, hW.trans hk⟩)
                 go_simp))
            apply text_end
            intro W hW
            have HKW := Lib.hid ((HK7.out.alloc _).trans hW)
            clear hW
            go_wp2_with fail
            exact ⟨⟨k + 1, h, by simp, HKW.out⟩, by simp [intOf]; omega⟩
        · obtain rfl : k = 16 := by omega
          go_wp2_with fail
          go_ret
          exact ⟨rfl, KW6.out.trans hK⟩
end Go.Proofs.YtnnelghngekbpaaDoor
