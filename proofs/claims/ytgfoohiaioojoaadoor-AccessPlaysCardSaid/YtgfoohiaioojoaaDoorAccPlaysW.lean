/- AccessPlays's walk. -/
import Derived.Test.YtgfoohiaioojoaaDoorAccForm
import Derived.Test.YtgfoohiaioojoaaDoorRelP
namespace Go.Proofs.YtgfoohiaioojoaaDoor
set_option linter.unusedVariables false
set_option linter.unusedSimpArgs false
open Go.RowKit
set_option maxRecDepth 100000 in
set_option maxHeartbeats 40000000 in
theorem accessPlays_walk (vx : Value) (xs : List Int) (t : Bool) (b p a m y : Int) (off n v : Int) (t' : Bool) (b' p' a' m' y' : Int) {W : World} (hL : Lies W vx xs (fun _ => False)) (hB : ∀ z ∈ xs, IsByte z) (hN : xs.length ≤ 140737488351232) (hb : 0 ≤ b ∧ b ≤ 4294967295) (hp : 0 ≤ p ∧ p ≤ 4294967295) (ha : 0 ≤ a ∧ a ≤ 4294967295) (hm : 0 ≤ m ∧ m ≤ 65535) (hy : 0 ≤ y ∧ y ≤ 65535) (ho : -2147483648 ≤ off ∧ off ≤ 2147483647) (hn : -9223372036854775808 ≤ n ∧ n ≤ 9223372036854775807) (hv : 0 ≤ v ∧ v ≤ 4294967295) (hb' : 0 ≤ b' ∧ b' ≤ 4294967295) (hp' : 0 ≤ p' ∧ p' ≤ 4294967295) (ha' : 0 ≤ a' ∧ a' ≤ 4294967295) (hm' : 0 ≤ m' ∧ m' ≤ 65535) (hy' : 0 ≤ y' ∧ y' ≤ 65535) (hE : ErrT W) :
    Calls Tryd.prog 4 #[vx, .agg #[.bool t, .int .u32 b, .int .u32 p, .int .u32 a, .int .u16 m, .int .u16 y], .int .i32 off, .int .i64 n, .int .u32 v, .agg #[.bool t', .int .u32 b', .int .u32 p', .int .u32 a', .int .u16 m', .int .u16 y']] W fun e W' => e = .returned (.bool true) ∧ Keep W W' := by
  have HE := Lib.hid hE
  have HL := Lib.hid hL
  have HB := Lib.hid hB
  have HN : Hid (In64 n) := Lib.hid hn
  have HO := Lib.hid ho
  have HV := Lib.hid hv
  obtain ⟨ad, cs, rfl, hcs, hcs2, -⟩ := hL
  clear hE hB hv
  go_enter Tryd.func4, Tryd.ntmps4
  go_wp2_with fail
  refine (aknown_any _ (HE.out.keep (((Keep.refl _).alloc _).alloc _))).mono ?_
  rintro e w1 ⟨rfl, hk1⟩
  have BC : Box w1 W.heap.size #[.bool t, .int .u32 b, .int .u32 p, .int .u32 a, .int .u16 m, .int .u16 y] := ((Box.new _ _ _).alloc _).keep hk1
  have BV : Box w1 (W.heap.size + 1) #[.bool t', .int .u32 b', .int .u32 p', .int .u32 a', .int .u16 m', .int .u16 y'] := (Box.new1 _ _ _ _).keep hk1
  have K1 := Lib.hid ((((Keep.refl _).alloc _).alloc _).trans hk1)
  have cV := BV.cells
  clear hk1
  by_cases hlen : 128 < xs.length
  · go_wp2_with fail
    go_ret
    exact ⟨rfl, K1.out⟩
  go_wp2_with fail
  refine (filled_any (.slice ad xs.length cs) xs t' b' p' a' m' y' HB.out (by omega) hb' hp' ha' hm' hy' _ (HL.out.keep K1.out) (HE.out.keep K1.out)).mono ?_
  rintro e w2 ⟨dm, P, gb, gt, O, bs, ts, rfl, hI⟩
  have I2 := Lib.hid hI
  have cC := (BC.keep hI.kp).cells
  clear hI cV
  go_wp2_with fail
  refine (of_any t b p a m y _).mono ?_
  rintro e w3 ⟨rfl, hk3⟩
  have I3 := Lib.hid (I2.out.keep hk3)
  clear hk3 I2 cC
  go_wp2_with fail
  have BK : Box (w3.alloc (.cells #[.bool t, .int .u32 b, .int .u32 p, .int .u32 a, .int .u16 m, .int .u16 y] 34)) w3.heap.size #[.bool t, .int .u32 b, .int .u32 p, .int .u32 a, .int .u16 m, .int .u16 y] := Box.new _ _ _
  have NK := Lib.hid (I3.out.notBoth (Nat.le_refl _))
  have I4 := Lib.hid (I3.out.keep ((Keep.refl _).alloc (.cells #[.bool t, .int .u32 b, .int .u32 p, .int .u32 a, .int .u16 m, .int .u16 y] 34)))
  have s3 : W.heap.size + 1 < w3.heap.size := Nat.lt_of_lt_of_le BV.lt I3.out.kp.size
  have HBN := Lib.hid I3.out.bnd
  have HOW := Lib.hid I3.out.own
  clear I3
  go_loopw [17] (fun i wr => ∃ (k : Nat) (bs : List Int) (ts : List Bool), k ≤ 2 ∧ i = .int .i64 (k : Int) ∧ PInv w1 wr P gb gt 128 8 dm O bs ts ∧ Box wr w3.heap.size #[.bool t, .int .u32 b, .int .u32 p, .int .u32 a, .int .u16 m, .int .u16 y]) (fun i _ => 2 - (intOf i).toNat)
  case atStart => exact ⟨0, _, _, by decide, rfl, I4.out, BK⟩
  case round =>
    clear I4 BK bs ts
    obtain ⟨k, bs, ts, hk, rfl, hI, hBK⟩ := hrel
    have k0 : (0 : Int) ≤ (k : Int) := Int.natCast_nonneg _
    have HI := Lib.hid hI
    have HK := Lib.hid hBK
    clear hI hBK
    by_cases h : k < 2
    rotate_left
    · obtain rfl : k = 2 := by omega
      go_wp2_with fail
      go_ret
      exact ⟨rfl, K1.out.trans HI.out.kp⟩
    have hk2 : (k : Int) < 2 := by omega
    obtain ⟨sg, hsg⟩ : ∃ sg, ((k : Int) == 0) = sg := ⟨_, rfl⟩
    obtain ⟨RN, hRN⟩ : ∃ RN, RN = readN bs t b p a m y off n sg := ⟨_, rfl⟩
    obtain ⟨p1, x1, k1, hRE⟩ := readE_form bs.length t b p a m y off n
    obtain ⟨u2, z1, z2, z3, z4, z5, hRV⟩ := rcapV_form bs ts t b p a m y off
    obtain ⟨p2, x2, k2, hCE⟩ := capE_form bs.length t b p a m y off 1
    have CL := Lib.hid (fun W' (k : Keep wr W') => aload_any t b p a m y off n sg hb hp ha HO.out HN.out (HI.out.d.keep k))
    have CR := Lib.hid (fun W' (k : Keep wr W') => rread_any t b p a m y off n sg hb hp ha HO.out HN.out (HI.out.r.keep k))
    have CC := Lib.hid (fun W' (k : Keep wr W') => aloadCap_any t b p a m y off hb hp ha HO.out (HI.out.d.keep k) (HE.out.keep ((K1.out.trans HI.out.kp).trans k)))
    have CD := Lib.hid (fun W' (k : Keep wr W') => rreadCap_any t b p a m y off hb hp ha HO.out (HI.out.r.keep k))
    rw [← hRN, hRE] at CL CR
    rw [hRV, hCE] at CC CD
    unfold wrongV at CR CD
    clear hRN hRE hRV hCE
    have cC := (BC.keep HI.out.kp).cells
    have cV := (BV.keep HI.out.kp).cells
    have cK := HK.out.cells
    have lK := HK.out.lt
    go_wp2_with fail
    refine (CL.out _ (Keep.refl _)).mono ?_
    rintro e wa ⟨u1, rfl, hu1, hka⟩
    have Ka := Lib.hid hka
    have U1 := Lib.hid hu1
    have BKa := HK.out.keep hka
    replace cC := (BC.keep (HI.out.kp.trans hka)).cells
    replace cK := BKa.cells
    replace lK := BKa.lt
    clear hka hu1 cV
    go_wp2_with fail
    refine (CR.out _ Ka.out).mono ?_
    rintro e wb ⟨rfl, hkb⟩
    have Kb := Lib.hid (Ka.out.trans hkb)
    have Ub := Lib.hid (U1.out.keep hkb)
    have BKb := BKa.keep hkb
    have B21 : Box (wb.alloc (.cells #[.string p1, .int .i64 x1, .int .i64 k1] 32)) wb.heap.size #[.string p1, .int .i64 x1, .int .i64 k1] := Box.new _ _ _
    replace cC := (BC.keep (HI.out.kp.trans Kb.out)).cells
    replace cK := BKb.cells
    replace lK := BKb.lt
    have lC : W.heap.size < wb.heap.size := by omega
    clear hkb Ka U1 BKa
    go_wp2_with fail
    refine (CC.out _ (Kb.out.alloc _)).mono ?_
    rintro e wc ⟨u3, rfl, hu3, hkc⟩
    have Kc := Lib.hid ((Kb.out.alloc _).trans hkc)
    have Uc := Lib.hid ((Ub.out.keep ((Keep.refl _).alloc _)).keep hkc)
    have Vc := Lib.hid hu3
    have BKc := (BKb.alloc _).keep hkc
    replace B21 := B21.keep hkc
    have B22 : Box (wc.alloc (.cells #[.bool u2, .int .u32 z1, .int .u32 z2, .int .u32 z3, .int .u16 z4, .int .u16 z5] 25)) wc.heap.size #[.bool u2, .int .u32 z1, .int .u32 z2, .int .u32 z3, .int .u16 z4, .int .u16 z5] := Box.new _ _ _
    replace cK := BKc.cells
    replace lK := BKc.lt
    clear hkc hu3 Kb Ub BKb cC lC
    go_wp2_with fail
    refine (CD.out _ (Kc.out.alloc _)).mono ?_
    rintro e wd ⟨rfl, hkd⟩
    have Kd := Lib.hid ((Kc.out.alloc _).trans hkd)
    have BKd := (BKc.alloc _).keep hkd
    replace B21 := (B21.alloc _).keep hkd
    replace B22 := B22.keep hkd
    have l21 := B21.lt
    have l22 := B22.lt
    have Ud := Lib.hid ((Uc.out.keep ((Keep.refl _).alloc _)).keep hkd)
    have Vd := Lib.hid ((Vc.out.keep ((Keep.refl _).alloc _)).keep hkd)
    have CT1 := Lib.hid (fun W' (k : Keep wd W') => tells_any u1 (wrongV p1 x1 k1) W' (Ud.out.keep k) (HE.out.keep (((K1.out.trans HI.out.kp).trans Kd.out).trans k)))
    have CT2 := Lib.hid (fun W' (k : Keep wd W') => tells_any u3 (wrongV p2 x2 k2) W' (Vd.out.keep k) (HE.out.keep (((K1.out.trans HI.out.kp).trans Kd.out).trans k)))
    unfold wrongV at CT1 CT2
    clear hkd Kc Uc Vc BKc cK lK CL CR CC CD
    go_wp2_with fail
    have hE := eqin_rcap u2 z1 z2 z3 z4 z5
    have B24 : Box ((wd.alloc (.cells #[.bool u2, .int .u32 z1, .int .u32 z2, .int .u32 z3, .int .u16 z4, .int .u16 z5] 34)).alloc (.cells #[.string p2, .int .i64 x2, .int .i64 k2] 32)) wd.heap.size #[.bool u2, .int .u32 z1, .int .u32 z2, .int .u32 z3, .int .u16 z4, .int .u16 z5] := (Box.new _ _ _).alloc _
    have B25 : Box ((wd.alloc (.cells #[.bool u2, .int .u32 z1, .int .u32 z2, .int .u32 z3, .int .u16 z4, .int .u16 z5] 34)).alloc (.cells #[.string p2, .int .i64 x2, .int .i64 k2] 32)) (wd.heap.size + 1) #[.string p2, .int .i64 x2, .int .i64 k2] := Box.new1 _ _ _ _
    have KD : Keep wd ((wd.alloc (.cells #[.bool u2, .int .u32 z1, .int .u32 z2, .int .u32 z3, .int .u16 z4, .int .u16 z5] 34)).alloc (.cells #[.string p2, .int .i64 x2, .int .i64 k2] 32)) := ((Keep.refl _).alloc _).alloc _
    refine region_grows (Keep _) (by kernel_rfl) (by kernel_rfl) (Keep.refl _).drew ?_
    repeat (first
      | (apply text_pass (by rfl)
         go_simp)
      | (apply text_step (by rfl)
         · intro W' hW'
           have c1 := ((B21.keep KD).keep hW').cells
           have c2 := ((B22.keep KD).keep hW').cells
           have c3 := (B24.keep hW').cells
           have c4 := (B25.keep hW').cells
           go_simp
           first
             | exact ⟨rfl, hW'⟩
             | (apply yes_enter; go_at_call 13; refine (of_any _ _ _ _ _ _ _).mono ?_; rintro e w' ⟨rfl, hk⟩; exact ⟨rfl, hW'.trans hk⟩)
             | (apply yes_enter; go_at_call 10; with_reducible refine (CT1.out _ (KD.trans hW')).mono ?_; rintro e w' ⟨rfl, hk⟩; exact ⟨rfl, hW'.trans hk⟩)
             | (apply yes_enter; go_at_call 10; with_reducible refine (CT2.out _ (KD.trans hW')).mono ?_; rintro e w' ⟨rfl, hk⟩; exact ⟨rfl, hW'.trans hk⟩)
         go_simp))
    apply text_end
    intro we hke
    have Ke := Lib.hid ((Kd.out.trans KD).trans hke)
    have Ie := Lib.hid (HI.out.keep Ke.out)
    have BKe := (BKd.keep KD).keep hke
    clear CT1 CT2 hE B21 B22 B24 B25 Ud Vd Kd KD hke BKd l21 l22 HI HK Ke
    replace cC := (BC.keep Ie.out.kp).cells
    go_wp2_with fail
    obtain ⟨p3, x3, k3, hWE⟩ := writeE_form bs.length t b p a m y off n
    refine (astore_any t b p a m y off n v hb hp ha HO.out HN.out HV.out Ie.out.d).mono ?_
    rintro e wf ⟨u4, rfl, hu4, hDf, hBf⟩
    rw [hWE] at hu4
    obtain ⟨hRf, hKf, hBBf⟩ := Ie.out.devTurn hBf
    have BKf := BKe.but hBBf NK.out
    have OW := Lib.hid Ie.out.own
    have LE := Lib.hid Ie.out.len
    have HDf := Lib.hid hDf
    have HRf := Lib.hid hRf
    have HKf := Lib.hid hKf
    have HUf := Lib.hid hu4
    have cK := BKf.cells
    have lK := BKf.lt
    clear hu4 hDf hBf hRf hKf hBBf Ie cC BKe
    have CW := Lib.hid (rwrite_any t b p a m y off n v hb hp ha HO.out HV.out HN.out HRf.out)
    rw [hWE] at CW
    unfold wrongV at CW
    clear hWE
    go_wp2_with fail
    refine CW.out.mono ?_
    rintro e wg ⟨rfl, hRg, hBg⟩
    obtain ⟨hDg, hBBg⟩ := PInv.refTurn HDf.out (fun z hz => (OW.out z hz).2.2) hBg
    have Ig : PInv w1 wg P gb gt 128 8 dm O (writeB bs t b p a m y off n v) (writeT bs.length ts t b p a m y off n) := ⟨hDg, hRg, by rw [writeB_length]; exact LE.out, OW.out, HBN.out, HKf.out.butNew hBg (fun z hz => by rcases hz with rfl | rfl; exact HBN.out.2.1; exact HBN.out.2.2)⟩
    have HIg := Lib.hid Ig
    have HUg := Lib.hid (HUf.out.butRef HRf.out hBg)
    have BKg := BKf.but hBBg NK.out
    have LW := Lib.hid (writeB_length bs t b p a m y off n v)
    obtain ⟨bs1, hbs1⟩ : ∃ bs1, bs1 = writeB bs t b p a m y off n v := ⟨_, rfl⟩
    obtain ⟨ts1, hts1⟩ : ∃ ts1, ts1 = writeT bs.length ts t b p a m y off n := ⟨_, rfl⟩
    rw [← hbs1, ← hts1] at HIg
    clear CW hRg hBg hDg hBBg Ig HDf HRf HKf HUf BKf cK lK hbs1 hts1 LW LE bs ts
    have CTg := Lib.hid (fun W' (k : Keep wg W') => tells_any u4 (wrongV p3 x3 k3) W' (HUg.out.keep k) (HE.out.keep ((K1.out.trans HIg.out.kp).trans k)))
    have CSg := Lib.hid (fun W' (k : Keep wg W') => same_any (HIg.out.d.keep k) (HIg.out.r.keep k) (by rw [HIg.out.len]; decide))
    unfold wrongV at CTg
    clear HUg
    go_wp2_with fail
    have BXg : Box (wg.alloc (.cells #[.string p3, .int .i64 x3, .int .i64 k3] 32)) wg.heap.size #[.string p3, .int .i64 x3, .int .i64 k3] := Box.new _ _ _
    refine (CTg.out _ ((Keep.refl _).alloc _)).mono ?_
    rintro e wh ⟨rfl, hkh⟩
    have Kh : Hid (Keep wg wh) := Lib.hid (((Keep.refl _).alloc _).trans hkh)
    clear hkh CTg BXg
    go_wp2_with fail
    refine (CSg.out _ Kh.out).mono ?_
    rintro e wi ⟨rfl, hki⟩
    have Ii := Lib.hid (HIg.out.keep (Kh.out.trans hki))
    have BKi := BKg.keep (Kh.out.trans hki)
    have cC := (BC.keep Ii.out.kp).cells
    have cV := (BV.keep Ii.out.kp).cells
    have lC := (BC.keep Ii.out.kp).lt
    have lV := (BV.keep Ii.out.kp).lt
    clear hki Kh CSg HIg BKg
    go_wp2_with fail
    obtain ⟨p4, x4, k4, hSE⟩ := capE_form bs1.length t b p a m y off (needs t')
    refine (astoreCap_any t b p a m y off t' b' p' a' m' y' hb hp ha HO.out hb' hp' ha' hm' hy' Ii.out.d (HE.out.keep (K1.out.trans Ii.out.kp))).mono ?_
    rintro e wj ⟨u5, rfl, hu5, hDj, hBj⟩
    rw [hSE] at hu5
    obtain ⟨hRj, hKj, hBBj⟩ := Ii.out.devTurn hBj
    have BKj := BKi.but hBBj NK.out
    have OWi := Lib.hid Ii.out.own
    have LEi := Lib.hid Ii.out.len
    have HDj := Lib.hid hDj
    have HRj := Lib.hid hRj
    have HKj := Lib.hid hKj
    have HUj := Lib.hid hu5
    clear hu5 hDj hBj hRj hKj hBBj Ii cC cV lC lV BKi
    go_wp2_with fail
    have NV : Hid (¬ Both O gb gt (W.heap.size + 1)) := Lib.hid (fun hh => by
      have h1 := (BV.lt)
      rcases hh with h | h | h
      · have := (OWi.out _ h).1; omega
      · have := HBN.out.2.1; omega
      · have := HBN.out.2.2; omega)
    have sj := HKj.out.size
    have sk := BKj.lt
    have sv := BV.lt
    have BVj := BV.keep HKj.out
    refine Rel.regionP (KeepBut (fun z => Both O gb gt z ∨ wj.heap.size ≤ z)) (butWay _) [5, 6, 7] [0, 1, 2, 3, 4] 3 (by kernel_rfl) (by kernel_rfl) (Keep.refl _) ?_
    repeat (apply Rel.pre_step (by rfl) (by rfl) (by rfl)
            · intro W' hW'
              have c0 := (BKj.but hW' (fun hh => hh.elim NK.out (by omega))).cells
              have c1 := (BVj.but hW' (fun hh => hh.elim NV.out (by omega))).cells
              go_simp
              first
                | exact ⟨rfl, Keep.refl _⟩
                | (apply yes_enter; go_at_call 13; refine (of_any _ _ _ _ _ _ _).mono ?_; rintro e w' ⟨rfl, hk⟩; exact ⟨rfl, hk⟩)
            go_simp)
    apply Rel.pre_end
    refine Rel.every_two 5 6 (by kernel_rfl) (by rfl) (by rfl) (by rfl) (by rfl) ?_ ?_
    · intro W1 hW1
      go_simp
      apply Rel.gives_enter
      go_at_call 23
      have CW := rwriteCap_any t b p a m y off t' b' p' a' m' y' hb hp ha HO.out hb' hp' ha' hm' hy' (HRj.out.keep hW1)
      rw [hSE] at CW
      unfold wrongV at CW
      refine CW.mono ?_
      clear CW
      rintro e wm ⟨rfl, hR, hB⟩
      obtain ⟨hD, hBB⟩ := PInv.refTurn (HDj.out.keep hW1) (fun z hz => (OWi.out z hz).2.2) hB
      refine ⟨_, rfl, hB.mono (fun z _ hz => .inl (.inr hz)), ?_⟩
      have Dn := Lib.hid hD
      have Rn := Lib.hid hR
      have Kn : Hid (Keep w1 wm) := Lib.hid (Keep.butNew (HKj.out.trans hW1) hB (fun z hz => by rcases hz with rfl | rfl; exact HBN.out.2.1; exact HBN.out.2.2))
      have Un := Lib.hid (ErrV.butRef (HUj.out.keep hW1) (HRj.out.keep hW1) hB)
      have BKn := Box.but (BKj.keep hW1) hBB NK.out
      have s1 : wj.heap.size ≤ wm.heap.size := Nat.le_trans hW1.size hB.size
      clear hR hB hD hBB hW1
      go_simp
      apply Rel.every_one 6 (by kernel_rfl) (by rfl) (by rfl)
      intro W3 hW3
      go_simp
      apply Rel.gives_value
      refine ⟨((Keep.refl _).alloc _).but _, ?_⟩
      have hc : wj.heap.size ≤ W3.heap.size := Nat.le_trans s1 hW3.size
      have BS : Box (W3.alloc (.cells #[.string ⟨#[]⟩, .int .i64 0, .int .i64 0] 32)) W3.heap.size #[.string ⟨#[]⟩, .int .i64 0, .int .i64 0] := Box.new _ _ _
      replace Dn := Lib.hid ((Dn.out.keep hW3).keep ((Keep.refl _).alloc (.cells #[.string ⟨#[]⟩, .int .i64 0, .int .i64 0] 32)))
      replace Rn := Lib.hid ((Rn.out.keep hW3).keep ((Keep.refl _).alloc (.cells #[.string ⟨#[]⟩, .int .i64 0, .int .i64 0] 32)))
      replace Kn := Lib.hid ((Kn.out.trans hW3).alloc (.cells #[.string ⟨#[]⟩, .int .i64 0, .int .i64 0] 32))
      replace Un := Lib.hid ((Un.out.keep hW3).keep ((Keep.refl _).alloc (.cells #[.string ⟨#[]⟩, .int .i64 0, .int .i64 0] 32)))
      replace BKn := (BKn.keep hW3).alloc (.cells #[.string ⟨#[]⟩, .int .i64 0, .int .i64 0] 32)
      clear hW3
      go_simp
      apply Rel.every_one 7 (by kernel_rfl) (by rfl) (by rfl)
      intro W5 hW5
      have c9 := (BS.keep hW5).cells
      have f9 := (BS.keep hW5).thawed
      go_simp
      apply Rel.gives_skip
      have KS : KeepBut (fun z => z = W3.heap.size) W5 (((W5.setCell ⟨W3.heap.size, 0, none⟩ (.string p4)).setCell ⟨W3.heap.size, 1, none⟩ (.int .i64 x4)).setCell ⟨W3.heap.size, 2, none⟩ (.int .i64 k4)) := KeepBut.setAt (S := fun z => z = W3.heap.size) (b := W3.heap.size) (i := 2) (.inl rfl) (KeepBut.setAt (S := fun z => z = W3.heap.size) (b := W3.heap.size) (i := 1) (.inl rfl) (KeepBut.setAt (S := fun z => z = W3.heap.size) (b := W3.heap.size) (i := 0) (.inl rfl) (KeepBut.refl _ W5) (.string p4)) (.int .i64 x4)) (.int .i64 k4)
      refine ⟨KS.mono (fun z _ hz => .inr (by rw [hz]; exact hc)), ?_⟩
      have BS7 := (BS.keep hW5).set3 (.string p4) (.int .i64 x4) (.int .i64 k4)
      have D7 := Lib.hid ((Dn.out.keep hW5).but KS (fun z hz he => by have := HDj.out.lt z hz; omega))
      have R7 := Lib.hid ((Rn.out.keep hW5).but KS (fun he => by have := HRj.out.box.lt; omega) (fun he => by have := HRj.out.bytes.lt; omega) (fun he => by have := HRj.out.tags.lt; omega))
      have K7 := Lib.hid (Keep.butNew (Kn.out.trans hW5) KS (fun z hz => by have := HKj.out.size; omega))
      have U7 := Lib.hid (ErrV.under HUj.out (Un.out.keep hW5) KS hc)
      have BK7 := (BKn.keep hW5).but KS (by omega)
      clear c9 f9 hW5 BS KS Dn Rn Kn Un BKn
      go_simp
      apply Rel.every_end (by kernel_rfl)
      intro w8 hk8
      have BS8 := BS7.keep hk8
      have I8 : PInv w1 w8 P gb gt 128 8 dm O (wcapB bs1 t b p a m y off t' b' p' a' m' y') (wcapT bs1.length ts1 t b p a m y off t') := ⟨D7.out.keep hk8, R7.out.keep hk8, by rw [wcapB_length]; exact LEi.out, OWi.out, HBN.out, K7.out.trans hk8⟩
      have HI8 := Lib.hid I8
      have HU8 := Lib.hid (U7.out.keep hk8)
      have BK8 := BK7.keep hk8
      have c8 := BS8.cells
      have CT8 := Lib.hid (fun W' (k : Keep w8 W') => tells_any u5 (wrongV p4 x4 k4) W' (HU8.out.keep k) (HE.out.keep ((K1.out.trans HI8.out.kp).trans k)))
      have CS8 := Lib.hid (fun W' (k : Keep w8 W') => same_any (HI8.out.d.keep k) (HI8.out.r.keep k) (by rw [HI8.out.len]; decide))
      unfold wrongV at CT8
      clear BS7 D7 R7 K7 U7 BK7 hk8 I8 HU8 hSE
      go_wp2_with fail
      refine (CT8.out _ (Keep.refl _)).mono ?_
      rintro e w9 ⟨rfl, hk9⟩
      have K9 := Lib.hid hk9
      clear hk9 c8 CT8
      go_wp2_with fail
      refine (CS8.out _ K9.out).mono ?_
      rintro e wz ⟨rfl, hkz⟩
      have HIz := Lib.hid (HI8.out.keep (K9.out.trans hkz))
      have BKz := BK8.keep (K9.out.trans hkz)
      clear hkz CS8 K9 HI8 BK8
      go_wp2_with fail
      exact ⟨⟨k + 1, _, _, h, by simp, HIz.out, BKz⟩, by simp [intOf]; omega⟩
    · intro W1 hW1
      go_simp
      apply Rel.gives_value
      refine ⟨((Keep.refl _).alloc _).but _, ?_⟩
      have hc : wj.heap.size ≤ W1.heap.size := hW1.size
      go_simp
      apply Rel.every_one 5 (by kernel_rfl) (by rfl) (by rfl)
      intro W3 hW3
      have KA : Keep wj W3 := (hW1.alloc _).trans hW3
      have BSa : Box W3 W1.heap.size #[.string ⟨#[]⟩, .int .i64 0, .int .i64 0] := (Box.new _ _ _).keep hW3
      go_simp
      apply Rel.gives_enter
      go_at_call 23
      have CW := rwriteCap_any t b p a m y off t' b' p' a' m' y' hb hp ha HO.out hb' hp' ha' hm' hy' (HRj.out.keep KA)
      rw [hSE] at CW
      unfold wrongV at CW
      refine CW.mono ?_
      clear CW
      rintro e wm ⟨rfl, hR, hB⟩
      obtain ⟨hD, hBB⟩ := PInv.refTurn (HDj.out.keep KA) (fun z hz => (OWi.out z hz).2.2) hB
      refine ⟨_, rfl, hB.mono (fun z _ hz => .inl (.inr hz)), ?_⟩
      have Dn := Lib.hid hD
      have Rn := Lib.hid hR
      have Kn : Hid (Keep w1 wm) := Lib.hid (Keep.butNew (HKj.out.trans KA) hB (fun z hz => by rcases hz with rfl | rfl; exact HBN.out.2.1; exact HBN.out.2.2))
      have Un := Lib.hid (ErrV.butRef (HUj.out.keep KA) (HRj.out.keep KA) hB)
      have BKn := Box.but (BKj.keep KA) hBB NK.out
      have BS := BSa.but hB (fun hO => by have h1 := HRj.out.bytes.lt; have h2 := HRj.out.tags.lt; rcases hO with h | h <;> omega)
      clear hR hB hD hBB hW1 hW3 KA BSa
      go_simp
      apply Rel.every_one 7 (by kernel_rfl) (by rfl) (by rfl)
      intro W5 hW5
      have c9 := (BS.keep hW5).cells
      have f9 := (BS.keep hW5).thawed
      go_simp
      apply Rel.gives_skip
      have KS : KeepBut (fun z => z = W1.heap.size) W5 (((W5.setCell ⟨W1.heap.size, 0, none⟩ (.string p4)).setCell ⟨W1.heap.size, 1, none⟩ (.int .i64 x4)).setCell ⟨W1.heap.size, 2, none⟩ (.int .i64 k4)) := KeepBut.setAt (S := fun z => z = W1.heap.size) (b := W1.heap.size) (i := 2) (.inl rfl) (KeepBut.setAt (S := fun z => z = W1.heap.size) (b := W1.heap.size) (i := 1) (.inl rfl) (KeepBut.setAt (S := fun z => z = W1.heap.size) (b := W1.heap.size) (i := 0) (.inl rfl) (KeepBut.refl _ W5) (.string p4)) (.int .i64 x4)) (.int .i64 k4)
      refine ⟨KS.mono (fun z _ hz => .inr (by rw [hz]; exact hc)), ?_⟩
      have BS7 := (BS.keep hW5).set3 (.string p4) (.int .i64 x4) (.int .i64 k4)
      have D7 := Lib.hid ((Dn.out.keep hW5).but KS (fun z hz he => by have := HDj.out.lt z hz; omega))
      have R7 := Lib.hid ((Rn.out.keep hW5).but KS (fun he => by have := HRj.out.box.lt; omega) (fun he => by have := HRj.out.bytes.lt; omega) (fun he => by have := HRj.out.tags.lt; omega))
      have K7 := Lib.hid (Keep.butNew (Kn.out.trans hW5) KS (fun z hz => by have := HKj.out.size; omega))
      have U7 := Lib.hid (ErrV.under HUj.out (Un.out.keep hW5) KS hc)
      have BK7 := (BKn.keep hW5).but KS (by omega)
      clear c9 f9 hW5 BS KS Dn Rn Kn Un BKn
      go_simp
      apply Rel.every_end (by kernel_rfl)
      intro w8 hk8
      have BS8 := BS7.keep hk8
      have I8 : PInv w1 w8 P gb gt 128 8 dm O (wcapB bs1 t b p a m y off t' b' p' a' m' y') (wcapT bs1.length ts1 t b p a m y off t') := ⟨D7.out.keep hk8, R7.out.keep hk8, by rw [wcapB_length]; exact LEi.out, OWi.out, HBN.out, K7.out.trans hk8⟩
      have HI8 := Lib.hid I8
      have HU8 := Lib.hid (U7.out.keep hk8)
      have BK8 := BK7.keep hk8
      have c8 := BS8.cells
      have CT8 := Lib.hid (fun W' (k : Keep w8 W') => tells_any u5 (wrongV p4 x4 k4) W' (HU8.out.keep k) (HE.out.keep ((K1.out.trans HI8.out.kp).trans k)))
      have CS8 := Lib.hid (fun W' (k : Keep w8 W') => same_any (HI8.out.d.keep k) (HI8.out.r.keep k) (by rw [HI8.out.len]; decide))
      unfold wrongV at CT8
      clear BS7 D7 R7 K7 U7 BK7 hk8 I8 HU8 hSE
      go_wp2_with fail
      refine (CT8.out _ (Keep.refl _)).mono ?_
      rintro e w9 ⟨rfl, hk9⟩
      have K9 := Lib.hid hk9
      clear hk9 c8 CT8
      go_wp2_with fail
      refine (CS8.out _ K9.out).mono ?_
      rintro e wz ⟨rfl, hkz⟩
      have HIz := Lib.hid (HI8.out.keep (K9.out.trans hkz))
      have BKz := BK8.keep (K9.out.trans hkz)
      clear hkz CS8 K9 HI8 BK8
      go_wp2_with fail
      exact ⟨⟨k + 1, _, _, h, by simp, HIz.out, BKz⟩, by simp [intOf]; omega⟩
end Go.Proofs.YtgfoohiaioojoaaDoor
