/- AccessKeeps's walk. -/
import Derived.Test.YtgfoohiaioojoaaDoorAccKnown
import Derived.Test.YtgfoohiaioojoaaDoorGMemC
import Derived.Test.YtgfoohiaioojoaaDoorGPlay
namespace Go.Proofs.YtgfoohiaioojoaaDoor
set_option linter.unusedVariables false
set_option linter.unusedSimpArgs false
open Go.RowKit
theorem zeros_at16 (b p a m y : Int) : sixteen (putAt (List.replicate 64 0) 16 (putL b p a m y)) 16 = putL b p a m y := sixteen_put _ _ _ (putL_length _ _ _ _ _) (by simp)
set_option maxRecDepth 100000 in
set_option maxHeartbeats 4000000 in
theorem accessKeeps_walk (t : Bool) (b p a m y : Int) {W : World} (hb : 0 ≤ b ∧ b ≤ 4294967295) (hp : 0 ≤ p ∧ p ≤ 4294967295) (ha : 0 ≤ a ∧ a ≤ 4294967295) (hm : 0 ≤ m ∧ m ≤ 65535) (hy : 0 ≤ y ∧ y ≤ 65535) (hE : ErrT W) :
    Calls Tryd.prog 7 #[.agg #[.bool t, .int .u32 b, .int .u32 p, .int .u32 a, .int .u16 m, .int .u16 y]] W fun e W' => e = .returned (.bool true) ∧ Keep W W' := by
  have HE := Lib.hid hE
  clear hE
  go_enter Tryd.func7, Tryd.ntmps7
  go_wp2_with fail
  refine (aknown_any _ (HE.out.keep ((Keep.refl _).alloc _))).mono ?_
  rintro e w1 ⟨rfl, hk1⟩
  have BC : Box w1 W.heap.size #[.bool t, .int .u32 b, .int .u32 p, .int .u32 a, .int .u16 m, .int .u16 y] := (Box.new _ _ _).keep hk1
  have K1 := Lib.hid (((Keep.refl _).alloc _).trans hk1)
  clear hk1
  go_wp2_with fail
  refine (dnew_good 64 4 (by decide) (by decide) (by decide) _ (HE.out.keep K1.out)).mono ?_
  rintro e w2 ⟨dm, O, rfl, hD, hk2, hO⟩
  have NC : Hid (¬ O W.heap.size) := Lib.hid (fun h => by have := hO _ h; have := BC.lt; omega)
  have OW : Hid (∀ z, O z → W.heap.size ≤ z) := Lib.hid (fun z h => by have := hO _ h; have := K1.out.size; omega)
  have K2 := Lib.hid (K1.out.trans hk2)
  have D2 := Lib.hid hD
  replace BC := BC.keep hk2
  clear hk2 K1 hD hO
  unfold ptrV
  go_wp2_with fail
  refine (croot_any 64 _).mono ?_
  rintro e w3 ⟨rfl, hk3⟩
  have K3 := Lib.hid (K2.out.trans hk3)
  have D3 := Lib.hid (D2.out.keep hk3)
  replace BC := BC.keep hk3
  have c0 := BC.cells
  have l0 := BC.lt
  clear hk3 K2 D2
  go_wp2_with fail
  have BR : Box (w3.alloc (.cells #[.bool true, .int .u32 0, .int .u32 64, .int .u32 0, .int .u16 127, .int .u16 0] 25)) w3.heap.size #[.bool true, .int .u32 0, .int .u32 64, .int .u32 0, .int .u16 127, .int .u16 0] := Box.new _ _ _
  have NR : Hid (¬ O w3.heap.size) := Lib.hid (fun h => absurd (D3.out.lt _ h) (by omega))
  have hcE : ∀ tv, capE (List.replicate 64 (0 : Int)).length true 0 64 0 127 0 16 (needs tv) = okV := by intro tv; cases tv <;> rfl
  refine (astoreCap_is true 0 64 0 127 0 16 t b p a m y (by decide) (by decide) (by decide) (by decide) hb hp ha hm hy (hcE t) (D3.out.keep ((Keep.refl _).alloc _)) (HE.out.keep (K3.out.alloc _))).mono ?_
  rintro e w4 ⟨rfl, hD4, hB4⟩
  have hcO : ∀ tv, capOk true 0 64 0 127 0 16 (needs tv) := by intro tv; cases tv <;> decide
  have eB : wcapB (List.replicate 64 (0 : Int)) true 0 64 0 127 0 16 t b p a m y = putAt (List.replicate 64 0) 16 (putL b p a m y) := (if_pos (hcO t)).trans (if_pos (by decide))
  have eT : wcapT (List.replicate 64 (0 : Int)).length (List.replicate 4 false) true 0 64 0 127 0 16 t = (List.replicate 4 false).set 1 t := (if_pos (hcO t)).trans (if_pos (by decide))
  rw [eB, eT] at hD4
  obtain ⟨bs1, hbs1⟩ : ∃ bs1, bs1 = putAt (List.replicate 64 0) 16 (putL b p a m y) := ⟨_, rfl⟩
  obtain ⟨ts1, hts1⟩ : ∃ ts1, ts1 = (List.replicate 4 false).set 1 t := ⟨_, rfl⟩
  rw [← hbs1, ← hts1] at hD4
  have L1 : bs1.length = 64 := by rw [hbs1, putAt_length]; rfl
  have G1 : ts1.getD 1 false = t := by rw [hts1]; rfl
  have S1 : sixteen bs1 16 = putL b p a m y := by rw [hbs1]; exact zeros_at16 b p a m y
  have V1 : rcapV bs1 ts1 true 0 64 0 127 0 16 = .agg #[.bool t, .int .u32 b, .int .u32 p, .int .u32 a, .int .u16 m, .int .u16 y] := by
    have e1 : rcapV bs1 ts1 true 0 64 0 127 0 16 = capV (ts1.getD 1 false && hasLC 127) (sixteen bs1 16) := if_pos ⟨by decide, by rw [L1]; decide⟩
    rw [e1, G1, S1, show hasLC 127 = true by decide, Bool.and_true, capV_put t b p a m y hb hp ha hm hy]
  have V2 : rcapV bs1 ts1 true 0 64 0 1 0 16 = .agg #[.bool false, .int .u32 b, .int .u32 p, .int .u32 a, .int .u16 m, .int .u16 y] := by
    have e1 : rcapV bs1 ts1 true 0 64 0 1 0 16 = capV (ts1.getD 1 false && hasLC 1) (sixteen bs1 16) := if_pos ⟨by decide, by rw [L1]; decide⟩
    rw [e1, G1, S1, show hasLC 1 = false by decide, Bool.and_false, capV_put false b p a m y hb hp ha hm hy]
  have E1 : capE bs1.length true 0 64 0 127 0 16 1 = okV := by rw [L1]; rfl
  have E2 : capE bs1.length true 0 64 0 1 0 16 1 = okV := by rw [L1]; rfl
  have HV1 := Lib.hid V1
  have HV2 := Lib.hid V2
  have HE1 := Lib.hid E1
  have HE2 := Lib.hid E2
  have HL1 := Lib.hid L1
  have K4 := Lib.hid (Keep.butNew (K3.out.alloc _) hB4 OW.out)
  have D4 := Lib.hid hD4
  replace BC := (BC.alloc (.cells #[.bool true, .int .u32 0, .int .u32 64, .int .u32 0, .int .u16 127, .int .u16 0] 25)).but hB4 NC.out
  replace BR := BR.but hB4 NR.out
  replace c0 := BC.cells
  replace l0 := BC.lt
  have c1 := BR.cells
  have l1 := BR.lt
  clear hD4 hB4 K3 D3 eB eT hbs1 hts1 L1 G1 S1 V1 V2 E1 E2 hcE hcO
  go_wp2_with fail
  refine (aloadCap_is true 0 64 0 127 0 16 _ (by decide) (by decide) (by decide) (by decide) HV1.out HE1.out D4.out (HE.out.keep K4.out)).mono ?_
  rintro e w5 ⟨rfl, hk5⟩
  have K5 := Lib.hid (K4.out.trans hk5)
  have D5 := Lib.hid (D4.out.keep hk5)
  have D5L := Lib.hid (fun z (h : O z) => D5.out.lt z h)
  replace BC := BC.keep hk5
  replace BR := BR.keep hk5
  replace c0 := BC.cells
  replace l0 := BC.lt
  replace c1 := BR.cells
  replace l1 := BR.lt
  clear hk5 K4 D4
  go_wp2_with fail
  have BA : Box (w5.alloc (.cells #[.bool t, .int .u32 b, .int .u32 p, .int .u32 a, .int .u16 m, .int .u16 y] 25)) w5.heap.size #[.bool t, .int .u32 b, .int .u32 p, .int .u32 a, .int .u16 m, .int .u16 y] := Box.new _ _ _
  refine (andPerm_any true 0 64 0 127 0 1 (by decide) (by decide) (by decide) (by decide) (by decide) _).mono ?_
  rintro e w6 ⟨rfl, hk6⟩
  have K6 := Lib.hid ((K5.out.alloc _).trans hk6)
  have D6 := Lib.hid ((D5.out.keep ((Keep.refl _).alloc _)).keep hk6)
  replace BC := (BC.alloc _).keep hk6
  replace BR := (BR.alloc _).keep hk6
  replace BA := BA.keep hk6
  replace c0 := BC.cells
  replace l0 := BC.lt
  replace c1 := BR.cells
  replace l1 := BR.lt
  clear hk6 K5 D5
  rw [show tagOpen true 0 = true from rfl, show bits .and .u16 127 1 = 1 by decide]
  go_wp2_with fail
  refine (aloadCap_is true 0 64 0 1 0 16 _ (by decide) (by decide) (by decide) (by decide) HV2.out HE2.out D6.out (HE.out.keep K6.out)).mono ?_
  rintro e w7 ⟨rfl, hk7⟩
  have K7 := Lib.hid (K6.out.trans hk7)
  have D7 := Lib.hid (D6.out.keep hk7)
  replace BC := BC.keep hk7
  replace BR := BR.keep hk7
  replace BA := BA.keep hk7
  replace c0 := BC.cells
  replace l0 := BC.lt
  replace c1 := BR.cells
  replace l1 := BR.lt
  have l2 := BA.lt
  clear hk7 K6 D6
  have BB : Box (w7.alloc (.cells #[.bool false, .int .u32 b, .int .u32 p, .int .u32 a, .int .u16 m, .int .u16 y] 25)) w7.heap.size #[.bool false, .int .u32 b, .int .u32 p, .int .u32 a, .int .u16 m, .int .u16 y] := Box.new _ _ _
  go_wp2_with fail
  have BC8 := BC.alloc (.cells #[.bool false, .int .u32 b, .int .u32 p, .int .u32 a, .int .u16 m, .int .u16 y] 25)
  have BR8 := BR.alloc (.cells #[.bool false, .int .u32 b, .int .u32 p, .int .u32 a, .int .u16 m, .int .u16 y] 25)
  have BA8 := BA.alloc (.cells #[.bool false, .int .u32 b, .int .u32 p, .int .u32 a, .int .u16 m, .int .u16 y] 25)
  have NA : Hid (¬ O w5.heap.size) := Lib.hid (fun h => absurd (D5L.out _ h) (by omega))
  have NB : Hid (¬ O w7.heap.size) := Lib.hid (fun h => absurd (D7.out.lt _ h) (by omega))
  clear BC BR BA c0 c1 l0 l1 l2
  cases t
  · refine Rel.regionO (KeepBut O) (butWay _) [4] [0, 1, 3, 2, 4, 5] (by kernel_rfl) (by kernel_rfl) (Keep.refl _) ?_
    repeat (apply Rel.ordK_step (by rfl) (by rfl) (by rfl)
            · intro W' hW'
              have c0' := (BC8.but hW' NC.out).cells
              have c1' := (BR8.but hW' NR.out).cells
              go_simp
              first
                | exact ⟨rfl, Keep.refl _⟩
                | (apply yes_enter; go_at_call 31; refine (andPerm_any true 0 64 0 127 0 2 (by decide) (by decide) (by decide) (by decide) (by decide) _).mono ?_; rintro e w' ⟨rfl, hk⟩; exact ⟨rfl, hk⟩)
            go_simp)
    apply Rel.ordK_loose (by rfl) (by rfl) (by rfl)
    intro W9 hW9
    rw [show tagOpen true 0 = true from rfl, show bits .and .u16 127 2 = 2 by decide]
    go_simp
    apply Rel.gives_enter
    go_at_call 22
    refine (astoreCap_any true 0 64 0 2 0 32 false b p a m y (by decide) (by decide) (by decide) (by decide) hb hp ha hm hy ((D7.out.keep ((Keep.refl _).alloc _)).keep hW9) (HE.out.keep ((K7.out.alloc _).trans hW9))).mono ?_
    rintro e w9 ⟨u, rfl, hu, hD9, hB9⟩
    rw [show capE bs1.length true 0 64 0 2 0 32 (needs false) = okV by rw [HL1.out]; rfl] at hu
    obtain rfl := hu.ok
    refine ⟨_, rfl, hB9, ?_⟩
    have BC9 := (BC8.keep hW9).but hB9 NC.out
    have BA9 := (BA8.keep hW9).but hB9 NA.out
    have BB9 := (BB.keep hW9).but hB9 NB.out
    have K9 := Lib.hid (Keep.butNew ((K7.out.alloc (.cells #[.bool false, .int .u32 b, .int .u32 p, .int .u32 a, .int .u16 m, .int .u16 y] 25)).trans hW9) hB9 OW.out)
    clear hu hD9 hB9 hW9
    go_simp
    repeat (apply Rel.ordK_step (by rfl) (by rfl) (by rfl)
            · intro W' hW'
              go_simp
              exact ⟨rfl, Keep.refl _⟩
            go_simp)
    apply Rel.ordK_end
    intro Wa hWa
    have BCa := BC9.keep hWa
    have BAa := BA9.keep hWa
    have BBa := BB9.keep hWa
    have Ka := Lib.hid (K9.out.trans hWa)
    have c0 := BCa.cells
    have l0 := BCa.lt
    have la := BAa.lt
    have lb := BBa.lt
    clear hWa K9 BC9 BA9 BB9
    have E1 : ∀ W, (Op.equalIn 10000 25 (.agg #[.bool false, .int .u32 b, .int .u32 p, .int .u32 a, .int .u16 m, .int .u16 y]) (.agg #[.bool false, .int .u32 b, .int .u32 p, .int .u32 a, .int .u16 m, .int .u16 y])).run Tryd.prog W = .ok true W := fun W => by rw [eqin_cap]; simp
    have E2 : ∀ W, (Op.equalIn 10000 25 (.agg #[.bool false, .int .u32 b, .int .u32 p, .int .u32 a, .int .u16 m, .int .u16 y]) (.agg #[.bool false, .int .u32 b, .int .u32 p, .int .u32 a, .int .u16 m, .int .u16 y])).run Tryd.prog W = .ok true W := fun W => by rw [eqin_cap]; simp
    go_wp2_with fail
    refine region_grows (Keep _) (by kernel_rfl) (by kernel_rfl) (Keep.refl _).drew ?_
    have BX : Box (Wa.alloc (.cells #[.bool false, .int .u32 b, .int .u32 p, .int .u32 a, .int .u16 m, .int .u16 y] 25)) Wa.heap.size #[.bool false, .int .u32 b, .int .u32 p, .int .u32 a, .int .u16 m, .int .u16 y] := Box.new _ _ _
    have BCb := BCa.alloc (.cells #[.bool false, .int .u32 b, .int .u32 p, .int .u32 a, .int .u16 m, .int .u16 y] 25)
    have BAb := BAa.alloc (.cells #[.bool false, .int .u32 b, .int .u32 p, .int .u32 a, .int .u16 m, .int .u16 y] 25)
    have BBb := BBa.alloc (.cells #[.bool false, .int .u32 b, .int .u32 p, .int .u32 a, .int .u16 m, .int .u16 y] 25)
    repeat (first
      | (apply text_pass (by rfl)
         go_simp)
      | (apply text_step (by rfl)
         · intro W' hW'
           have c1 := (BCb.keep hW').cells
           have c2 := (BAb.keep hW').cells
           have c3 := (BBb.keep hW').cells
           have c4 := (BX.keep hW').cells
           go_simp
           exact ⟨rfl, hW'⟩
         go_simp))
    apply text_end
    intro Wb hWb
    have Kb := Lib.hid (Keep.trans (Ka.out.alloc _) hWb)
    clear hWb Ka
    go_wp2_with fail
    go_ret
    exact ⟨rfl, Kb.out⟩
  · refine Rel.regionO (KeepBut O) (butWay _) [4] [0, 1, 3, 2, 4, 5] (by kernel_rfl) (by kernel_rfl) (Keep.refl _) ?_
    repeat (apply Rel.ordK_step (by rfl) (by rfl) (by rfl)
            · intro W' hW'
              have c0' := (BC8.but hW' NC.out).cells
              have c1' := (BR8.but hW' NR.out).cells
              go_simp
              first
                | exact ⟨rfl, Keep.refl _⟩
                | (apply yes_enter; go_at_call 31; refine (andPerm_any true 0 64 0 127 0 2 (by decide) (by decide) (by decide) (by decide) (by decide) _).mono ?_; rintro e w' ⟨rfl, hk⟩; exact ⟨rfl, hk⟩)
            go_simp)
    apply Rel.ordK_loose (by rfl) (by rfl) (by rfl)
    intro W9 hW9
    rw [show tagOpen true 0 = true from rfl, show bits .and .u16 127 2 = 2 by decide]
    go_simp
    apply Rel.gives_enter
    go_at_call 22
    refine (astoreCap_any true 0 64 0 2 0 32 true b p a m y (by decide) (by decide) (by decide) (by decide) hb hp ha hm hy ((D7.out.keep ((Keep.refl _).alloc _)).keep hW9) (HE.out.keep ((K7.out.alloc _).trans hW9))).mono ?_
    rintro e w9 ⟨u, rfl, hu, hD9, hB9⟩
    rw [show capE bs1.length true 0 64 0 2 0 32 (needs true) = wrongV accessT 32 3 by rw [HL1.out]; rfl] at hu
    obtain ⟨f, rfl⟩ := hu.fault (fun e => absurd (okV_wrong e.symm) (by decide))
    unfold faultP
    refine ⟨_, rfl, hB9, ?_⟩
    have BC9 := (BC8.keep hW9).but hB9 NC.out
    have BA9 := (BA8.keep hW9).but hB9 NA.out
    have BB9 := (BB.keep hW9).but hB9 NB.out
    have K9 := Lib.hid (Keep.butNew ((K7.out.alloc (.cells #[.bool false, .int .u32 b, .int .u32 p, .int .u32 a, .int .u16 m, .int .u16 y] 25)).trans hW9) hB9 OW.out)
    clear hu hD9 hB9 hW9
    go_simp
    repeat (apply Rel.ordK_step (by rfl) (by rfl) (by rfl)
            · intro W' hW'
              go_simp
              exact ⟨rfl, Keep.refl _⟩
            go_simp)
    apply Rel.ordK_end
    intro Wa hWa
    have BCa := BC9.keep hWa
    have BAa := BA9.keep hWa
    have BBa := BB9.keep hWa
    have Ka := Lib.hid (K9.out.trans hWa)
    have c0 := BCa.cells
    have l0 := BCa.lt
    have la := BAa.lt
    have lb := BBa.lt
    clear hWa K9 BC9 BA9 BB9
    have E1 : ∀ W, (Op.equalIn 10000 25 (.agg #[.bool true, .int .u32 b, .int .u32 p, .int .u32 a, .int .u16 m, .int .u16 y]) (.agg #[.bool true, .int .u32 b, .int .u32 p, .int .u32 a, .int .u16 m, .int .u16 y])).run Tryd.prog W = .ok true W := fun W => by rw [eqin_cap]; simp
    have E2 : ∀ W, (Op.equalIn 10000 25 (.agg #[.bool false, .int .u32 b, .int .u32 p, .int .u32 a, .int .u16 m, .int .u16 y]) (.agg #[.bool false, .int .u32 b, .int .u32 p, .int .u32 a, .int .u16 m, .int .u16 y])).run Tryd.prog W = .ok true W := fun W => by rw [eqin_cap]; simp
    go_wp2_with fail
    refine region_grows (Keep _) (by kernel_rfl) (by kernel_rfl) (Keep.refl _).drew ?_
    have BX : Box (Wa.alloc (.cells #[.bool false, .int .u32 b, .int .u32 p, .int .u32 a, .int .u16 m, .int .u16 y] 25)) Wa.heap.size #[.bool false, .int .u32 b, .int .u32 p, .int .u32 a, .int .u16 m, .int .u16 y] := Box.new _ _ _
    have BCb := BCa.alloc (.cells #[.bool false, .int .u32 b, .int .u32 p, .int .u32 a, .int .u16 m, .int .u16 y] 25)
    have BAb := BAa.alloc (.cells #[.bool false, .int .u32 b, .int .u32 p, .int .u32 a, .int .u16 m, .int .u16 y] 25)
    have BBb := BBa.alloc (.cells #[.bool false, .int .u32 b, .int .u32 p, .int .u32 a, .int .u16 m, .int .u16 y] 25)
    repeat (first
      | (apply text_pass (by rfl)
         go_simp)
      | (apply text_step (by rfl)
         · intro W' hW'
           have c1 := (BCb.keep hW').cells
           have c2 := (BAb.keep hW').cells
           have c3 := (BBb.keep hW').cells
           have c4 := (BX.keep hW').cells
           go_simp
           exact ⟨rfl, hW'⟩
         go_simp))
    apply text_end
    intro Wb hWb
    have Kb := Lib.hid (Keep.trans (Ka.out.alloc _) hWb)
    clear hWb Ka
    go_wp2_with fail
    go_ret
    exact ⟨rfl, Kb.out⟩
end Go.Proofs.YtgfoohiaioojoaaDoor
