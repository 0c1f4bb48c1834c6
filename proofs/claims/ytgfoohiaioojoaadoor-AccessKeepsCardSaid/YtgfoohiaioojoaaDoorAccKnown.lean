/- Access where it goes well; hasplaw5.known. -/
import Derived.Test.YtgfoohiaioojoaaDoorGAccD
import Derived.Test.YtgfoohiaioojoaaDoorGAccR
import Derived.WalkSpells
namespace Go.Proofs.YtgfoohiaioojoaaDoor
set_option linter.unusedVariables false
set_option linter.unusedSimpArgs false
open Go.RowKit
section
variable {w : World} {dm : Nat} {O : Nat → Prop} {bs : List Int} {ts : List Bool}
theorem aload_is (t : Bool) (b p a m y off n : Int) (sign : Bool) (R : Int) (hb : 0 ≤ b ∧ b ≤ 4294967295) (hp : 0 ≤ p ∧ p ≤ 4294967295) (ha : 0 ≤ a ∧ a ≤ 4294967295) (ho : -2147483648 ≤ off ∧ off ≤ 2147483647) (hn : In64 n) (hR : readN bs t b p a m y off n sign = R) (hE : readE bs.length t b p a m y off n = okV) (h : DMem w dm O bs ts) :
    Calls Tryd.prog 15 #[.pointer (some ⟨dm, 0, none⟩), .agg #[.bool t, .int .u32 b, .int .u32 p, .int .u32 a, .int .u16 m, .int .u16 y], .int .i32 off, .int .i64 n, .bool sign] w fun e w' => e = .returned (.tuple #[.int .u32 R, .nilIface]) ∧ Keep w w' := by
  refine (aload_any t b p a m y off n sign hb hp ha ho hn h).mono ?_
  rintro e w' ⟨u, rfl, hu, hk⟩
  rw [hE] at hu
  obtain rfl := hu.ok
  rw [hR]
  exact ⟨rfl, hk⟩
theorem astore_is (t : Bool) (b p a m y off n v : Int) (hb : 0 ≤ b ∧ b ≤ 4294967295) (hp : 0 ≤ p ∧ p ≤ 4294967295) (ha : 0 ≤ a ∧ a ≤ 4294967295) (ho : -2147483648 ≤ off ∧ off ≤ 2147483647) (hn : In64 n) (hv : 0 ≤ v ∧ v ≤ 4294967295) (hE : writeE bs.length t b p a m y off n = okV) (h : DMem w dm O bs ts) :
    Calls Tryd.prog 19 #[.pointer (some ⟨dm, 0, none⟩), .agg #[.bool t, .int .u32 b, .int .u32 p, .int .u32 a, .int .u16 m, .int .u16 y], .int .i32 off, .int .i64 n, .int .u32 v] w fun e w' => e = .returned .nilIface ∧ DMem w' dm O (writeB bs t b p a m y off n v) (writeT bs.length ts t b p a m y off n) ∧ KeepBut O w w' := by
  refine (astore_any t b p a m y off n v hb hp ha ho hn hv h).mono ?_
  rintro e w' ⟨u, rfl, hu, hk⟩
  rw [hE] at hu
  obtain rfl := hu.ok
  exact ⟨rfl, hk⟩
theorem aloadCap_is (t : Bool) (b p a m y off : Int) (V : Value) (hb : 0 ≤ b ∧ b ≤ 4294967295) (hp : 0 ≤ p ∧ p ≤ 4294967295) (ha : 0 ≤ a ∧ a ≤ 4294967295) (ho : -2147483648 ≤ off ∧ off ≤ 2147483647) (hV : rcapV bs ts t b p a m y off = V) (hE : capE bs.length t b p a m y off 1 = okV) (h : DMem w dm O bs ts) (hT : ErrT w) :
    Calls Tryd.prog 17 #[.pointer (some ⟨dm, 0, none⟩), .agg #[.bool t, .int .u32 b, .int .u32 p, .int .u32 a, .int .u16 m, .int .u16 y], .int .i32 off] w fun e w' => e = .returned (.tuple #[V, .nilIface]) ∧ Keep w w' := by
  refine (aloadCap_any t b p a m y off hb hp ha ho h hT).mono ?_
  rintro e w' ⟨u, rfl, hu, hk⟩
  rw [hE] at hu
  obtain rfl := hu.ok
  rw [hV]
  exact ⟨rfl, hk⟩
theorem astoreCap_is (t : Bool) (b p a m y off : Int) (tv : Bool) (b' p' a' m' y' : Int) (hb : 0 ≤ b ∧ b ≤ 4294967295) (hp : 0 ≤ p ∧ p ≤ 4294967295) (ha : 0 ≤ a ∧ a ≤ 4294967295) (ho : -2147483648 ≤ off ∧ off ≤ 2147483647) (hb' : 0 ≤ b' ∧ b' ≤ 4294967295) (hp' : 0 ≤ p' ∧ p' ≤ 4294967295) (ha' : 0 ≤ a' ∧ a' ≤ 4294967295) (hm' : 0 ≤ m' ∧ m' ≤ 65535) (hy' : 0 ≤ y' ∧ y' ≤ 65535) (hE : capE bs.length t b p a m y off (needs tv) = okV) (h : DMem w dm O bs ts) (hT : ErrT w) :
    Calls Tryd.prog 22 #[.pointer (some ⟨dm, 0, none⟩), .agg #[.bool t, .int .u32 b, .int .u32 p, .int .u32 a, .int .u16 m, .int .u16 y], .int .i32 off, .agg #[.bool tv, .int .u32 b', .int .u32 p', .int .u32 a', .int .u16 m', .int .u16 y']] w fun e w' => e = .returned .nilIface ∧ DMem w' dm O (wcapB bs t b p a m y off tv b' p' a' m' y') (wcapT bs.length ts t b p a m y off tv) ∧ KeepBut O w w' := by
  refine (astoreCap_any t b p a m y off tv b' p' a' m' y' hb hp ha ho hb' hp' ha' hm' hy' h hT).mono ?_
  rintro e w' ⟨u, rfl, hu, hk⟩
  rw [hE] at hu
  obtain rfl := hu.ok
  exact ⟨rfl, hk⟩
end
/-- An error stays while a memory changes. -/
theorem ErrV.butDev {w w' : World} {v wv : Value} {m : Nat} {O : Nat → Prop} {bs : List Int} {ts : List Bool} (h : ErrV w v wv) (hd : DMem w m O bs ts) (hp : 0 < bs.length) (k : KeepBut O w w') : ErrV w' v wv := by
  obtain ⟨gb, gt, cb, ct, hr, rfl⟩ := hd
  rcases h with h | ⟨q, part, at_, n, h1, h2, h3, h4⟩
  · exact .inl h
  · refine .inr ⟨q, part, at_, n, h1, h2, h3, h4.but k ?_⟩
    have c := h4.cells 0
    rintro (rfl | rfl | rfl)
    · rw [hr.box.cells] at c
      simp at c
    · rw [hr.cell hp] at c
      simp at c
    · rw [hr.tag (by have := hr.len; omega)] at c
      simp at c
def c16 : Value := .agg #[.bool true, .int .u32 16, .int .u32 32, .int .u32 16, .int .u16 127, .int .u16 0]
set_option maxRecDepth 100000 in
set_option maxHeartbeats 4000000 in
theorem aknown_any (w : World) (hE : ErrT w) : Calls Tryd.prog 9 #[] w fun e w' => e = .returned (.bool true) ∧ Keep w w' := by
  have HE := Lib.hid hE
  clear hE
  go_enter Tryd.func9, Tryd.ntmps9
  go_wp2_with fail
  refine (dnew_good 64 4 (by decide) (by decide) (by decide) _ HE.out).mono ?_
  rintro e w1 ⟨m, O, rfl, hD, hk1, hO⟩
  have K1 := Lib.hid hk1
  have D1 := Lib.hid hD
  have O1 := Lib.hid hO
  clear hk1 hD hO
  unfold ptrV
  go_wp2_with fail
  refine (croot_any 64 _).mono ?_
  rintro e w2 ⟨rfl, hk2⟩
  have K2 := Lib.hid (K1.out.trans hk2)
  have D2 := Lib.hid (D1.out.keep hk2)
  clear hk2 K1 D1
  go_wp2_with fail
  refine (setAddr_any true 0 64 0 127 0 16 (by decide) (by decide) (by decide) (by decide) _).mono ?_
  rintro e w3 ⟨rfl, hk3⟩
  have K3 := Lib.hid (K2.out.trans hk3)
  have D3 := Lib.hid (D2.out.keep hk3)
  clear hk3 K2 D2
  rw [show tagOpen true 0 = true from rfl]
  go_wp2_with fail
  refine (bounds_any true 0 64 16 127 0 16 (by decide) (by decide) (by decide) (by decide) (by decide) _).mono ?_
  rintro e w4 ⟨rfl, hk4⟩
  have K4 := Lib.hid (K3.out.trans hk4)
  have D4 := Lib.hid (D3.out.keep hk4)
  clear hk4 K3 D3
  rw [show tagBounds true 0 64 16 0 16 = true from rfl, show ((16 : Int) + 16) % 4294967296 = 32 from rfl]
  go_wp2_with fail
  have BC5 : Box (w4.alloc (.cells #[.bool true, .int .u32 16, .int .u32 32, .int .u32 16, .int .u16 127, .int .u16 0] 25)) w4.heap.size #[.bool true, .int .u32 16, .int .u32 32, .int .u32 16, .int .u16 127, .int .u16 0] := Box.new _ _ _
  have NC : Hid (¬ O w4.heap.size) := Lib.hid (fun ho => absurd (D4.out.lt _ ho) (by omega))
  refine (astore_is true 16 32 16 127 0 4 2 65534 (by decide) (by decide) (by decide) (by decide) (by unfold In64; decide) (by decide) rfl (D4.out.keep ((Keep.refl _).alloc _))).mono ?_
  rintro e w5 ⟨rfl, hD, hB⟩
  have BC := BC5.but hB NC.out
  have K5 := Lib.hid (Keep.butNew (K4.out.alloc _) hB O1.out)
  have D5 := Lib.hid hD
  obtain ⟨bs1, hbs1⟩ : ∃ bs1, bs1 = writeB (List.replicate 64 0) true 16 32 16 127 0 4 2 65534 := ⟨_, rfl⟩
  obtain ⟨ts1, hts1⟩ : ∃ ts1, ts1 = writeT (List.replicate 64 (0 : Int)).length (List.replicate 4 false) true 16 32 16 127 0 4 2 := ⟨_, rfl⟩
  rw [← hbs1, ← hts1] at D5
  have HB1 := Lib.hid hbs1
  have HT1 := Lib.hid hts1
  have R1 : readN bs1 true 16 32 16 127 0 4 2 true = 4294967294 := by rw [hbs1]; decide +kernel
  have L1 : bs1.length = 64 := by rw [hbs1]; rfl
  have HL1 := Lib.hid L1
  clear hB hD K4 D4 BC5 hbs1 hts1 L1
  have c0 := BC.cells
  go_wp2_with fail
  refine (aload_is true 16 32 16 127 0 4 2 true _ (by decide) (by decide) (by decide) (by decide) (by unfold In64; decide) R1 (by rw [HL1.out]; rfl) D5.out).mono ?_
  rintro e w6 ⟨rfl, hk6⟩
  have K6 := Lib.hid (K5.out.trans hk6)
  have D6 := Lib.hid (D5.out.keep hk6)
  replace BC := BC.keep hk6
  replace c0 := BC.cells
  clear hk6 K5 D5 R1
  go_wp2_with fail
  refine (aload_any true 16 32 16 127 0 16 1 false (by decide) (by decide) (by decide) (by decide) (by unfold In64; decide) D6.out).mono ?_
  rintro e w7 ⟨u7, rfl, hu7, hk7⟩
  rw [HL1.out] at hu7
  have U7 : Hid (ErrV w7 u7 (wrongV accessT 32 4)) := Lib.hid hu7
  have R7 : readN bs1 true 16 32 16 127 0 16 1 false = 0 := if_neg (fun h => absurd h.1 (by decide))
  rw [R7]
  have K7 := Lib.hid (K6.out.trans hk7)
  have D7 := Lib.hid (D6.out.keep hk7)
  replace BC := BC.keep hk7
  replace c0 := BC.cells
  clear hk7 K6 D6 R7 hu7
  go_wp2_with fail
  refine (andPerm_any true 16 32 16 127 0 1 (by decide) (by decide) (by decide) (by decide) (by decide) _).mono ?_
  rintro e w8 ⟨rfl, hk8⟩
  have K8 := Lib.hid (K7.out.trans hk8)
  have D8 := Lib.hid (D7.out.keep hk8)
  have U8 := Lib.hid (U7.out.keep hk8)
  replace BC := BC.keep hk8
  replace c0 := BC.cells
  clear hk8 K7 D7 U7
  rw [show tagOpen true 0 = true from rfl, show bits .and .u16 127 1 = 1 by decide]
  go_wp2_with fail
  refine (astore_any true 16 32 16 1 0 0 1 0 (by decide) (by decide) (by decide) (by decide) (by unfold In64; decide) (by decide) D8.out).mono ?_
  rintro e w9 ⟨u9, rfl, hu9, hD9, hB9⟩
  rw [HL1.out] at hu9 hD9
  rw [show writeB bs1 true 16 32 16 1 0 0 1 0 = bs1 from if_neg (by decide), show writeT 64 ts1 true 16 32 16 1 0 0 1 = ts1 from if_neg (by decide)] at hD9
  have U9 : Hid (ErrV w9 u9 (wrongV accessT 16 3)) := Lib.hid hu9
  have V9 : Hid (ErrV w9 u7 (wrongV accessT 32 4)) := Lib.hid (U8.out.butDev D8.out (by rw [HL1.out]; decide) hB9)
  have K9 := Lib.hid (Keep.butNew K8.out hB9 O1.out)
  have D9 := Lib.hid hD9
  replace BC := BC.but hB9 NC.out
  replace c0 := BC.cells
  clear hu9 hD9 hB9 K8 D8 U8
  go_wp2_with fail
  refine (astoreCap_is true 16 32 16 127 0 0 true 16 32 16 127 0 (by decide) (by decide) (by decide) (by decide) (by decide) (by decide) (by decide) (by decide) (by decide) (by rw [HL1.out]; rfl) D9.out (HE.out.keep K9.out)).mono ?_
  rintro e wa ⟨rfl, hDa, hBa⟩
  rw [HL1.out] at hDa
  obtain ⟨bs2, hbs2⟩ : ∃ bs2, bs2 = wcapB bs1 true 16 32 16 127 0 0 true 16 32 16 127 0 := ⟨_, rfl⟩
  obtain ⟨ts2, hts2⟩ : ∃ ts2, ts2 = wcapT 64 ts1 true 16 32 16 127 0 0 true := ⟨_, rfl⟩
  rw [← hbs2, ← hts2] at hDa
  rw [HB1.out] at hbs2
  rw [HT1.out] at hts2
  have L2 : bs2.length = 64 := by rw [hbs2]; rfl
  have HL2 := Lib.hid L2
  have V1 : rcapV bs2 ts2 true 16 32 16 127 0 0 = .agg #[.bool true, .int .u32 16, .int .u32 32, .int .u32 16, .int .u16 127, .int .u16 0] := by rw [hbs2, hts2]; rfl
  have V2 : rcapV bs2 ts2 true 16 32 16 1 0 0 = .agg #[.bool false, .int .u32 16, .int .u32 32, .int .u32 16, .int .u16 127, .int .u16 0] := by rw [hbs2, hts2]; rfl
  have HV1 := Lib.hid V1
  have HV2 := Lib.hid V2
  have Ua : Hid (ErrV wa u9 (wrongV accessT 16 3)) := Lib.hid (U9.out.butDev D9.out (by rw [HL1.out]; decide) hBa)
  have Va : Hid (ErrV wa u7 (wrongV accessT 32 4)) := Lib.hid (V9.out.butDev D9.out (by rw [HL1.out]; decide) hBa)
  have Ka := Lib.hid (Keep.butNew K9.out hBa O1.out)
  have Da := Lib.hid hDa
  replace BC := BC.but hBa NC.out
  replace c0 := BC.cells
  clear hDa hBa K9 D9 U9 V9 hbs2 hts2 L2 V1 V2
  go_wp2_with fail
  refine (aloadCap_is true 16 32 16 127 0 0 _ (by decide) (by decide) (by decide) (by decide) HV1.out (by rw [HL2.out]; rfl) Da.out (HE.out.keep Ka.out)).mono ?_
  rintro e wb ⟨rfl, hkb⟩
  have Kb := Lib.hid (Ka.out.trans hkb)
  have Db := Lib.hid (Da.out.keep hkb)
  have Ub := Lib.hid (Ua.out.keep hkb)
  have Vb := Lib.hid (Va.out.keep hkb)
  replace BC := BC.keep hkb
  have lb := BC.lt
  replace c0 := BC.cells
  clear hkb Ka Da Ua Va
  go_wp2_with fail
  have BD : Box (wb.alloc (.cells #[.bool true, .int .u32 16, .int .u32 32, .int .u32 16, .int .u16 127, .int .u16 0] 25)) wb.heap.size #[.bool true, .int .u32 16, .int .u32 32, .int .u32 16, .int .u16 127, .int .u16 0] := Box.new _ _ _
  refine (andPerm_any true 16 32 16 127 0 1 (by decide) (by decide) (by decide) (by decide) (by decide) _).mono ?_
  rintro e wc ⟨rfl, hkc⟩
  replace BC := (BC.alloc _).keep hkc
  replace BD := BD.keep hkc
  have Kc := Lib.hid ((Kb.out.alloc _).trans hkc)
  have Dc := Lib.hid ((Db.out.keep ((Keep.refl _).alloc _)).keep hkc)
  have Uc := Lib.hid ((Ub.out.keep ((Keep.refl _).alloc _)).keep hkc)
  have Vc := Lib.hid ((Vb.out.keep ((Keep.refl _).alloc _)).keep hkc)
  replace c0 := BC.cells
  clear hkc Kb Db Ub Vb
  rw [show tagOpen true 0 = true from rfl, show bits .and .u16 127 1 = 1 by decide]
  go_wp2_with fail
  refine (aloadCap_is true 16 32 16 1 0 0 _ (by decide) (by decide) (by decide) (by decide) HV2.out (by rw [HL2.out]; rfl) Dc.out (HE.out.keep Kc.out)).mono ?_
  rintro e wd ⟨rfl, hkd⟩
  replace BC := BC.keep hkd
  replace BD := BD.keep hkd
  have lc := BC.lt
  have ld := BD.lt
  have Kd := Lib.hid (Kc.out.trans hkd)
  have Ud := Lib.hid (Uc.out.keep hkd)
  have Vd := Lib.hid (Vc.out.keep hkd)
  have CT1 := Lib.hid (fun W (k : Keep wd W) => tells_any u7 (wrongV accessT 32 4) W (Vd.out.keep k) (HE.out.keep (Kd.out.trans k)))
  have CT2 := Lib.hid (fun W (k : Keep wd W) => tells_any u9 (wrongV accessT 16 3) W (Ud.out.keep k) (HE.out.keep (Kd.out.trans k)))
  have CC := Lib.hid (fun W => check_any true 16 32 16 127 0 16 16 1 (by decide) (by decide) (by decide) (by decide) W)
  rw [show lackN true 16 32 127 0 16 16 1 = 0 from rfl, errV_zero] at CC
  unfold wrongV accessT at CT1 CT2
  have hE : ∀ W, (Op.equalIn 10000 25 (.agg #[.bool true, .int .u32 16, .int .u32 32, .int .u32 16, .int .u16 127, .int .u16 0]) (.agg #[.bool true, .int .u32 16, .int .u32 32, .int .u32 16, .int .u16 127, .int .u16 0])).run Tryd.prog W = .ok true W := fun W => by
    rw [eqin_cap]
    rfl
  have KA : Keep wd (wd.alloc (.cells #[.bool false, .int .u32 16, .int .u32 32, .int .u32 16, .int .u16 127, .int .u16 0] 25)) := (Keep.refl _).alloc _
  have BX : Box (wd.alloc (.cells #[.bool false, .int .u32 16, .int .u32 32, .int .u32 16, .int .u16 127, .int .u16 0] 25)) wd.heap.size #[.bool false, .int .u32 16, .int .u32 32, .int .u32 16, .int .u16 127, .int .u16 0] := Box.new _ _ _
  replace BC := BC.alloc (.cells #[.bool false, .int .u32 16, .int .u32 32, .int .u32 16, .int .u16 127, .int .u16 0] 25)
  replace BD := BD.alloc (.cells #[.bool false, .int .u32 16, .int .u32 32, .int .u32 16, .int .u16 127, .int .u16 0] 25)
  replace c0 := BC.cells
  have c1 := BD.cells
  have c2 := BX.cells
  clear hkd Kc Dc Uc Vc
  go_wp2_with (first
    | (go_at_call 10; with_reducible refine (CT1.out _ KA).mono ?_; rintro e W' ⟨rfl, hk⟩; replace KA := KA.trans hk; replace BC := BC.keep hk; replace BD := BD.keep hk; replace BX := BX.keep hk; replace c0 := BC.cells; replace c1 := BD.cells; replace c2 := BX.cells; clear hk)
    | (go_at_call 10; with_reducible refine (CT2.out _ KA).mono ?_; rintro e W' ⟨rfl, hk⟩; replace KA := KA.trans hk; replace BC := BC.keep hk; replace BD := BD.keep hk; replace BX := BX.keep hk; replace c0 := BC.cells; replace c1 := BD.cells; replace c2 := BX.cells; clear hk)
    | (go_at_call 11; refine (CC.out _).mono ?_; rintro e W' ⟨v, rfl, hv, hk⟩; obtain rfl := hv.ok; replace KA := KA.trans hk; clear hk hv))
  go_ret
  exact ⟨rfl, Kd.out.trans KA⟩
end Go.Proofs.YtgfoohiaioojoaaDoor
