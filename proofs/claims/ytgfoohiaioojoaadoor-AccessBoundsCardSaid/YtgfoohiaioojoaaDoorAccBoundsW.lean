/- AccessBounds's walk. -/
import Derived.Test.YtgfoohiaioojoaaDoorAccBnd
namespace Go.Proofs.YtgfoohiaioojoaaDoor
set_option linter.unusedVariables false
set_option linter.unusedSimpArgs false
open Go.RowKit
theorem u32_id (k : Int) (h : 0 ≤ k ∧ k ≤ 4294967295) : IntKind.u32.wrap k = k := by rw [IntKind.wrap_u32]; omega
set_option maxRecDepth 100000 in
set_option maxHeartbeats 40000000 in
theorem accessBounds_walk (t : Bool) (b p a m y : Int) (off n v : Int) (t' : Bool) (b' p' a' m' y' : Int) {W : World} (hb : 0 ≤ b ∧ b ≤ 4294967295) (hp : 0 ≤ p ∧ p ≤ 4294967295) (ha : 0 ≤ a ∧ a ≤ 4294967295) (hm : 0 ≤ m ∧ m ≤ 65535) (hy : 0 ≤ y ∧ y ≤ 65535) (ho : -2147483648 ≤ off ∧ off ≤ 2147483647) (hn : -9223372036854775808 ≤ n ∧ n ≤ 9223372036854775807) (hv : 0 ≤ v ∧ v ≤ 4294967295) (hb' : 0 ≤ b' ∧ b' ≤ 4294967295) (hp' : 0 ≤ p' ∧ p' ≤ 4294967295) (ha' : 0 ≤ a' ∧ a' ≤ 4294967295) (hm' : 0 ≤ m' ∧ m' ≤ 65535) (hy' : 0 ≤ y' ∧ y' ≤ 65535) (hE : ErrT W) :
    Calls Tryd.prog 5 #[.agg #[.bool t, .int .u32 b, .int .u32 p, .int .u32 a, .int .u16 m, .int .u16 y], .int .i32 off, .int .i64 n, .int .u32 v, .agg #[.bool t', .int .u32 b', .int .u32 p', .int .u32 a', .int .u16 m', .int .u16 y']] W fun e W' => e = .returned (.bool true) ∧ Keep W W' := by
  have HE := Lib.hid hE
  have HN : Hid (In64 n) := Lib.hid hn
  have HO := Lib.hid ho
  have HV := Lib.hid hv
  clear hE hv
  go_enter Tryd.func5, Tryd.ntmps5
  go_wp2_with fail
  refine (aknown_any _ (HE.out.keep (((Keep.refl _).alloc _).alloc _))).mono ?_
  rintro e w1 ⟨rfl, hk1⟩
  have BC : Box w1 W.heap.size #[.bool t, .int .u32 b, .int .u32 p, .int .u32 a, .int .u16 m, .int .u16 y] := ((Box.new _ _ _).alloc _).keep hk1
  have BV : Box w1 (W.heap.size + 1) #[.bool t', .int .u32 b', .int .u32 p', .int .u32 a', .int .u16 m', .int .u16 y'] := (Box.new1 _ _ _ _).keep hk1
  have K1 := Lib.hid ((((Keep.refl _).alloc _).alloc _).trans hk1)
  clear hk1
  go_wp2_with fail
  refine (croot_any 3 _).mono ?_
  rintro e w2 ⟨rfl, hk2⟩
  have K2 := Lib.hid ((K1.out.alloc (.cells #[.int .u8 1, .int .u8 2, .int .u8 3] 5)).trans hk2)
  have BN : Box w2 w1.heap.size #[.int .u8 1, .int .u8 2, .int .u8 3] := (Box.new _ _ _).keep hk2
  replace BC := (BC.alloc (.cells #[.int .u8 1, .int .u8 2, .int .u8 3] 5)).keep hk2
  replace BV := (BV.alloc (.cells #[.int .u8 1, .int .u8 2, .int .u8 3] 5)).keep hk2
  have LI : Hid (Lies w2 (.slice (some ⟨w1.heap.size, 0, none⟩) 3 3) [1, 2, 3] (fun _ => False)) := Lib.hid (by
    refine ⟨_, 3, rfl, by decide, by decide, fun k hk => ⟨w1.heap.size, 0, rfl, id, BN.lt, ?_⟩⟩
    rw [BN.cells, Nat.zero_add]
    have hk3 : k < 3 := hk
    rcases (by omega : k = 0 ∨ k = 1 ∨ k = 2) with rfl | rfl | rfl <;> rfl)
  clear hk2 BN K1
  go_wp2_with fail
  refine (filled_any _ [1, 2, 3] true 0 3 0 127 0 (by intro z hz; simp at hz; unfold IsByte; omega) (by decide) (by decide) (by decide) (by decide) (by decide) (by decide) _ LI.out (HE.out.keep K2.out)).mono ?_
  rintro e w3 ⟨dm, P, gb, gt, O, bs, ts, rfl, hI⟩
  have K3 := Lib.hid (K2.out.trans hI.kp)
  have D3 := Lib.hid hI.d
  have LB := Lib.hid hI.len
  have OW : Hid (∀ z, O z → w2.heap.size ≤ z) := Lib.hid (fun z hz => (hI.own z hz).1)
  have lC2 := BC.lt
  have lV2 := BV.lt
  replace BC := BC.keep hI.kp
  replace BV := BV.keep hI.kp
  have NC : Hid (¬ O W.heap.size ∧ ¬ O (W.heap.size + 1)) := Lib.hid ⟨fun h => by have := OW.out _ h; omega, fun h => by have := OW.out _ h; omega⟩
  have OW2 : Hid (∀ z, O z → W.heap.size ≤ z) := Lib.hid (fun z hz => by have := OW.out z hz; have := K2.out.size; omega)
  clear hI LI K2 lC2 lV2 OW
  go_wp2_with fail
  refine (dtwin_any D3.out).mono ?_
  rintro e w4 ⟨m2, O2, rfl, hD4, hk4, hO4⟩
  have OO : Hid (∀ z, O2 z → ¬ O z) := Lib.hid (fun z h2 h1 => by have := hO4 z h2; have := D3.out.lt z h1; omega)
  have K4 := Lib.hid (K3.out.trans hk4)
  have D4 := Lib.hid (D3.out.keep hk4)
  have T4 := Lib.hid hD4
  replace BC := BC.keep hk4
  replace BV := BV.keep hk4
  have cC := BC.cells
  clear hk4 hD4 hO4 K3 D3
  unfold ptrV
  go_wp2_with fail
  refine (astore_any t b p a m y off n v hb hp ha HO.out HN.out HV.out D4.out).mono ?_
  rintro e w5 ⟨u4, rfl, hu4, hD5, hB5⟩
  have LB1 : Hid ((writeB bs t b p a m y off n v).length = 128) := Lib.hid (by rw [writeB_length]; exact LB.out)
  have K5 := Lib.hid (K4.out.butNew hB5 OW2.out)
  have D5 := Lib.hid hD5
  have T5 := Lib.hid (T4.out.but hB5 OO.out)
  have U5 := Lib.hid hu4
  replace BC := BC.but hB5 NC.out.1
  replace BV := BV.but hB5 NC.out.2
  replace cC := BC.cells
  have cV := BV.cells
  clear hu4 hD5 hB5 K4 D4 T4
  go_wp2_with fail
  refine (astoreCap_any t b p a m y off t' b' p' a' m' y' hb hp ha HO.out hb' hp' ha' hm' hy' D5.out (HE.out.keep K5.out)).mono ?_
  rintro e w6 ⟨u5, rfl, hu5, hD6, hB6⟩
  have K6 := Lib.hid (K5.out.butNew hB6 OW2.out)
  have T6 := Lib.hid (T5.out.but hB6 OO.out)
  replace BC := BC.but hB6 NC.out.1
  replace BV := BV.but hB6 NC.out.2
  rw [LB1.out] at hu5 hD6
  rw [LB.out] at hD6
  have f4 : (writeE 128 t b p a m y off n = okV ∧ u4 = .nilIface) ∨ (writeE 128 t b p a m y off n ≠ okV ∧ ∃ q, u4 = faultP q) := by
    have h := U5.out
    rw [LB.out] at h
    by_cases e : writeE 128 t b p a m y off n = okV
    · rw [e] at h; exact .inl ⟨e, h.ok⟩
    · exact .inr ⟨e, h.fault e⟩
  have f5 : (capE 128 t b p a m y off (needs t') = okV ∧ u5 = .nilIface) ∨ (capE 128 t b p a m y off (needs t') ≠ okV ∧ ∃ q, u5 = faultP q) := by
    by_cases e : capE 128 t b p a m y off (needs t') = okV
    · rw [e] at hu5; exact .inl ⟨e, hu5.ok⟩
    · exact .inr ⟨e, hu5.fault e⟩
  have hL2 : (wcapB (writeB bs t b p a m y off n v) t b p a m y off t' b' p' a' m' y').length = 128 := by rw [wcapB_length]; exact LB1.out
  have hLt : (128 : Nat) = 16 * ts.length := by rw [← LB.out]; exact T6.out.len
  have FAR := Lib.hid (fun i h => both_far bs t b p a m y off n v t' b' p' a' m' y' i h)
  have TAG := Lib.hid (fun g h1 h2 => both_tag 128 ts t b p a m y off n t' g hLt h1 h2)
  have NOT := Lib.hid (fun h1 h2 => both_not (bs := bs) (ts := ts) (t := t) (b := b) (p := p) (a := a) (m := m) (y := y) (off := off) (n := n) (v := v) (tv := t') (b' := b') (p' := p') (a' := a') (m' := m') (y' := y') LB.out h1 h2)
  obtain ⟨bs6, hbs6⟩ : ∃ bs6, bs6 = wcapB (writeB bs t b p a m y off n v) t b p a m y off t' b' p' a' m' y' := ⟨_, rfl⟩
  obtain ⟨ts6, hts6⟩ : ∃ ts6, ts6 = wcapT 128 (writeT 128 ts t b p a m y off n) t b p a m y off t' := ⟨_, rfl⟩
  rw [← hbs6, ← hts6] at hD6
  rw [← hbs6] at FAR hL2 NOT
  rw [← hts6] at TAG NOT
  have D6 := Lib.hid hD6
  have HL2 := Lib.hid hL2
  replace cC := BC.cells
  clear hu5 hD6 hB6 hbs6 hts6 hL2 hLt K5 D5 T5 U5 cV LB1
  rcases f4 with ⟨e4, rfl⟩ | ⟨e4, q4, rfl⟩ <;> rcases f5 with ⟨e5, rfl⟩ | ⟨e5, q5, rfl⟩
  rotate_left 3
  · have hne := NOT.out e4 e5
    have CSm := Lib.hid (fun W' (k : Keep w6 W') => dsame_any (D6.out.keep k) (T6.out.keep k))
    rw [hne.1, hne.2] at CSm
    simp only [decide_true, Bool.and_true] at CSm
    unfold ptrV at CSm
    unfold faultP
    clear e4 e5 hne
    cases t
    all_goals (
      go_wp2_with fail
      refine (CSm.out _ (Keep.refl _)).mono ?_
      rintro e w7 ⟨rfl, hk7⟩
      go_wp2_with fail
      go_ret
      exact ⟨rfl, K6.out.trans hk7⟩)
  all_goals (
    obtain rfl : t = true := by
      cases t
      · first | exact absurd e4 (no_tag (n := n) (tv := t')).1 | exact absurd e5 (no_tag (a := a) (n := n)).2
      · rfl
    try unfold faultP
    clear e4 e5 NOT
    go_wp2_with fail
    go_loopw [17] (fun i wr => ∃ k : Nat, k ≤ 128 ∧ i = .int .i64 (k : Int) ∧ Keep w6 wr) (fun i _ => 128 - (intOf i).toNat)
    case atStart => exact ⟨0, by decide, rfl, Keep.refl _⟩
    case round =>
      obtain ⟨k, hk, rfl, hK⟩ := hrel
      have k0 : (0 : Int) ≤ (k : Int) := Int.natCast_nonneg _
      have HK := Lib.hid hK
      clear hK
      by_cases h : k < 128
      · have hk128 : (k : Int) < 128 := by omega
        go_wp2_with fail
        refine (dload1 k (by rw [HL2.out]; exact h) (D6.out.keep HK.out)).mono ?_
        rintro e wa ⟨g1, o1, s1, rfl, hc1, hs1, hka⟩
        have Ka := Lib.hid (HK.out.trans hka)
        clear hka HK
        go_wp2_with fail
        refine (dload1 k (by rw [LB.out]; exact h) (T6.out.keep Ka.out)).mono ?_
        rintro e wb ⟨g2, o2, s2, rfl, hc2, hs2, hkb⟩
        have hc1b := hkb.cellOf hc1
        have Kb := Lib.hid (Ka.out.trans hkb)
        obtain ⟨z1, hz1⟩ : ∃ z1, z1 = bs6.getD k 0 := ⟨_, rfl⟩
        obtain ⟨z2, hz2⟩ : ∃ z2, z2 = bs.getD k 0 := ⟨_, rfl⟩
        rw [← hz1] at hc1b
        rw [← hz2] at hc2
        have BCb := BC.keep Kb.out
        have wk := u32_id (k : Int) (by omega)
        have hfar : z1 ≠ z2 → b ≤ (k : Int) ∧ (k : Int) < p := fun hne => FAR.out k (by rw [← hz1, ← hz2]; exact hne)
        have hd : (z1 != z2) = false ∨ ((z1 != z2) = true ∧ decide ((k : Int) < b) = false ∧ decide (p ≤ (k : Int)) = false) := by
          by_cases e : z1 = z2
          · exact .inl (by simp [e])
          · obtain ⟨q1, q2⟩ := hfar e
            exact .inr ⟨by simp [e], by simp; omega, by simp; omega⟩
        clear hc1 hkb Ka hz1 hz2 hfar
        rcases hd with d1 | ⟨d1, d2, d3⟩
        all_goals (
          go_wp2_with fail
          refine region_grows (Keep _) (by kernel_rfl) (by kernel_rfl) (Keep.refl _).drew ?_
          repeat (first
            | (apply text_pass (by rfl)
               go_simp)
            | (apply text_step (by rfl)
               · intro W' hW'
                 have c1 := hW'.cellOf hc1b
                 have c2 := hW'.cellOf hc2
                 have c3 := (BCb.keep hW').cells
                 go_simp
                 exact ⟨rfl, hW'⟩
               go_simp))
          apply text_end
          intro Wc hWc
          have Kc := Lib.hid (Kb.out.trans hWc)
          clear hWc Kb hc1b hc2 BCb
          go_wp2_with fail
          exact ⟨⟨k + 1, h, by simp, Kc.out⟩, by simp [intOf]; omega⟩)
      · obtain rfl : k = 128 := by omega
        go_wp2_with fail
        refine (dtags_any (D6.out.keep HK.out)).mono ?_
        rintro e wt ⟨tv, rfl, hown, hkt⟩
        obtain ⟨ad, cs, rfl, hcell⟩ := own_any hown rfl
        have Kt := Lib.hid (HK.out.trans hkt)
        have CE := Lib.hid hcell
        have hts6 : bs6.length = 16 * ts6.length := D6.out.len
        have hNT : (tagsAt ts6 ts6.length).length ≤ 8 := by have := tagsAt_length ts6 ts6.length; rw [HL2.out] at hts6; omega
        obtain ⟨NT, hNTe⟩ : ∃ NT, NT = (tagsAt ts6 ts6.length).length := ⟨_, rfl⟩
        have HNT := Lib.hid hNTe
        rw [← hNTe] at CE hNT ⊢
        clear hown hcell hkt hNTe HK hk k0 h
        go_wp2_with fail
        go_loopw [23] (fun i wr => ∃ k : Nat, k ≤ NT ∧ i = .int .i64 (k : Int) ∧ Keep wt wr) (fun i _ => NT - (intOf i).toNat)
        case atStart => exact ⟨0, Nat.zero_le _, rfl, Keep.refl _⟩
        case round =>
          obtain ⟨k, hk, rfl, hK⟩ := hrel
          have k0 : (0 : Int) ≤ (k : Int) := Int.natCast_nonneg _
          have HK := Lib.hid hK
          clear hK
          by_cases h : k < NT
          · have hkN : (k : Int) < (NT : Int) := by omega
            obtain ⟨g, rfl, hcg⟩ := CE.out k h
            obtain ⟨q, hq1, hq2, hq3⟩ := tagsAt_mem ts6 ts6.length k (by rw [← HNT.out]; exact h)
            rw [hq3] at hcg
            have hts6 : bs6.length = 16 * ts6.length := D6.out.len
            have hq8 : (q : Int) < 8 := by rw [HL2.out] at hts6; omega
            have q0 : (0 : Int) ≤ (q : Int) := Int.natCast_nonneg _
            have hcgr := HK.out.cellOf hcg
            have BCr := BC.keep (Kt.out.trans HK.out)
            have BVr := BV.keep (Kt.out.trans HK.out)
            have CTg := Lib.hid (fun W' (k : Keep wr W') => dtag_any (16 * (q : Int)) (by unfold In64; omega) (T6.out.keep ((Kt.out.trans HK.out).trans k)))
            have eT : (decide (0 ≤ 16 * (q : Int)) && decide (16 * (q : Int) < (bs.length : Int)) && ts.getD ((16 * (q : Int)).toNat / 16) false) = ts.getD q false := by
              rw [LB.out, decide_eq_true (by omega), decide_eq_true (by omega), show (16 * (q : Int)).toNat / 16 = q by omega]
              simp
            rw [eT] at CTg
            unfold ptrV at CTg
            have wq := u32_id (16 * (q : Int)) (by omega)
            have hd : ts.getD q false = true ∨ (ts.getD q false = false ∧ t' = true ∧ (bits .and .u16 m 16 == 0) = false ∧ decide (16 * (q : Int) < b) = false ∧ decide (p ≤ 16 * (q : Int)) = false) := by
              cases htq : ts.getD q false
              · obtain ⟨q1, q2, q3, q4⟩ := TAG.out q hq2 htq
                exact .inr ⟨rfl, q1, sc_bit m hm q2, by simp; omega, by simp; omega⟩
              · exact .inl rfl
            have HKr := Lib.hid (Kt.out.trans HK.out)
            have HKw := Lib.hid HK.out
            clear hcg hq1 hq2 hq3 eT hts6 HK
            rcases hd with d1 | ⟨d1, rfl, d3, d4, d5⟩
            all_goals (
              rw [d1] at CTg
              go_wp2_with fail
              refine region_grows (Keep _) (by kernel_rfl) (by kernel_rfl) (Keep.refl _).drew ?_
              repeat (first
                | (apply text_pass (by rfl)
                   go_simp)
                | (apply text_step (by rfl)
                   · intro W' hW'
                     have c1 := hW'.cellOf hcgr
                     have c2 := (BCr.keep hW').cells
                     have c3 := (BVr.keep hW').cells
                     go_simp
                     first
                       | exact ⟨rfl, hW'⟩
                       | (apply yes_enter; go_at_call 29; refine (CTg.out _ hW').mono ?_; rintro e w' ⟨rfl, hk⟩; exact ⟨rfl, hW'.trans hk⟩)
                   go_simp))
              apply text_end
              intro Wc hWc
              have Kc := Lib.hid (HKw.out.trans hWc)
              clear hWc HKr HKw hcgr BCr BVr CTg
              go_wp2_with fail
              exact ⟨⟨k + 1, h, by simp, Kc.out⟩, by simp [intOf]; omega⟩)
          · obtain rfl : k = NT := by omega
            go_wp2_with fail
            go_ret
            exact ⟨rfl, (K6.out.trans Kt.out).trans HK.out⟩
  )
end Go.Proofs.YtgfoohiaioojoaaDoor
