/- AccessWord's walk. -/
import Derived.Test.YtgfoohiaioojoaaDoorAccPartW
import Derived.Handy
namespace Go.Proofs.YtgfoohiaioojoaaDoor
set_option linter.unusedVariables false
set_option linter.unusedSimpArgs false
open Go.RowKit
theorem lackR (p x n q : Int) (hq : q = 1 ∨ q = 2) (hx : x % n = 0) (h : 0 ≤ x ∧ x + n ≤ p) : lackN true 0 p 127 0 x n q = 0 := by
  have e1 : (bits .and .u16 127 q == q) = true := by rcases hq with rfl | rfl <;> decide
  unfold lackN
  rw [if_neg (by decide), if_neg (by decide), e1, if_neg (by decide), hasB_true h.1 h.2, if_neg (by decide), if_neg (fun c => c.2 hx)]
theorem take_part (bs l : List Int) (A i n : Nat) (h : (bs.drop A).take 4 = l) (hin : i + n ≤ 4) : (bs.drop (A + i)).take n = (l.drop i).take n := by
  rw [← h, List.drop_take, List.drop_drop, List.take_take, Nat.min_eq_left (by omega)]
/-- A number of n bytes that lies within, through all of 128. -/
theorem readR (bs l : List Int) (off n : Int) (A i N : Nat) (sign : Bool) (hL : bs.length = 128) (hA : off = (A : Int) + i) (hn : n = (N : Int)) (hN : N = 1 ∨ N = 2 ∨ N = 4) (hm : off % n = 0) (hr : off + n ≤ 128) (h : (bs.drop A).take 4 = l) (hin : i + N ≤ 4) :
    readN bs true 0 128 0 127 0 off n sign = (if sign = true then sgnVal (leW ((l.drop i).take N)) (8 * n) else leW ((l.drop i).take N)) ∧ readE bs.length true 0 128 0 127 0 off n = okV := by
  have hx : plc 0 off = off := plc_zero _ (by omega)
  have hok : numOk true 0 128 0 127 0 off n 1 := ⟨if_pos (by omega), by rw [hx]; exact lackR 128 off n 1 (.inl rfl) hm (by omega)⟩
  have hb : reachB off n 128 = true := by simp [reachB]; omega
  refine ⟨?_, (if_pos hok).trans (by rw [hx, hL]; exact if_pos hb)⟩
  unfold readN
  rw [if_pos ⟨hok, by rw [hx, hL]; exact hb⟩]
  unfold readAt
  rw [hx, show off.toNat = A + i by omega, show n.toNat = N by omega, take_part bs l A i N h hin]
theorem sgn8 (Z : Int) (h : 0 ≤ Z ∧ Z ≤ 255) : (sgnVal Z 8 != wrap32 (IntKind.i8.wrap Z) % 4294967296) = false := by
  have e : sgnVal Z 8 = wrap32 (IntKind.i8.wrap Z) % 4294967296 := by
    unfold sgnVal
    rw [if_neg (by decide), if_neg (by decide), show (2 : Int) ^ (32 - 8 : Int).toNat = 16777216 from rfl]
    go_arith
  simp [bne, e]
theorem or_part (x z : Int) (hx : 0 ≤ x ∧ x * 256 ≤ 4294967295) (hz : IsByte z) : bits .or .u32 (x * 256) z = x * 256 + z := by
  have h := or_byte x z (by omega) hz
  rwa [show x * 256 % 4294967296 = x * 256 by omega] at h
theorem low16 (v : Int) (h : 0 ≤ v ∧ v ≤ 4294967295) : bits .and .u32 v 65535 = v % 65536 := by
  rw [u32_and v 65535 (by omega) (by omega) (by decide) (by decide)]
  obtain ⟨V, rfl⟩ := Int.eq_ofNat_of_zero_le h.1
  rw [Int.toNat_natCast, show (65535 : Int).toNat = 2 ^ 16 - 1 from rfl, Nat.and_two_pow_sub_one_eq_mod]
  simp
set_option maxRecDepth 100000 in
set_option maxHeartbeats 4000000 in
theorem accessWord_walk (v at_ : Int) {W : World} (hv : 0 ≤ v ∧ v ≤ 4294967295) (ha : 0 ≤ at_ ∧ at_ ≤ 255) (hE : ErrT W) :
    Calls Tryd.prog 6 #[.int .u32 v, .int .u8 at_] W fun e W' => e = .returned (.bool true) ∧ Keep W W' := by
  have HE := Lib.hid hE
  have HV := Lib.hid hv
  clear hE
  obtain ⟨a0, a1⟩ := ha
  obtain ⟨v0, v1⟩ := hv
  go_enter Tryd.func6, Tryd.ntmps6
  go_wp2_with fail
  refine (aknown_any _ HE.out).mono ?_
  rintro e w1 ⟨rfl, hk1⟩
  have K1 := Lib.hid hk1
  clear hk1
  go_wp2_with fail
  refine (dnew_good 128 8 (by decide) (by decide) (by decide) _ (HE.out.keep K1.out)).mono ?_
  rintro e w2 ⟨dm, O, rfl, hD, hk2, hO⟩
  have OW : Hid (∀ z, O z → W.heap.size ≤ z) := Lib.hid (fun z h => by have := hO _ h; have := K1.out.size; omega)
  have K2 := Lib.hid (K1.out.trans hk2)
  have D2 := Lib.hid hD
  clear hk2 K1 hD hO
  unfold ptrV
  go_wp2_with fail
  refine (croot_any 128 _).mono ?_
  rintro e w3 ⟨rfl, hk3⟩
  have K3 := Lib.hid (K2.out.trans hk3)
  have D3 := Lib.hid (D2.out.keep hk3)
  clear hk3 K2 D2
  go_wp2_with fail
  have BC3 : Box (w3.alloc (.cells #[.bool true, .int .u32 0, .int .u32 128, .int .u32 0, .int .u16 127, .int .u16 0] 25)) w3.heap.size #[.bool true, .int .u32 0, .int .u32 128, .int .u32 0, .int .u16 127, .int .u16 0] := Box.new _ _ _
  have NC : Hid (¬ O w3.heap.size) := Lib.hid (fun h => absurd (D3.out.lt _ h) (by omega))
  have hlen : (List.replicate 128 (0 : Int)).length = 128 := List.length_replicate
  have hx : plc 0 (4 * (at_ % 30)) = (4 * (at_ % 30)) := plc_zero _ (by omega)
  have hok : numOk true 0 128 0 127 0 (4 * (at_ % 30)) 4 2 := ⟨rfl, by rw [hx]; exact lackR 128 _ 4 2 (.inr rfl) (by omega) (by omega)⟩
  have hrA : reachB (4 * (at_ % 30)) 4 128 = true := by simp [reachB]; omega
  have eE : writeE (List.replicate 128 (0 : Int)).length true 0 128 0 127 0 (4 * (at_ % 30)) 4 = okV := (if_pos hok).trans (by rw [hx, hlen]; exact if_pos hrA)
  have eB : writeB (List.replicate 128 (0 : Int)) true 0 128 0 127 0 (4 * (at_ % 30)) 4 v = putAt (List.replicate 128 (0 : Int)) (4 * (at_ % 30)).toNat (b4 v) := (if_pos hok).trans (by rw [hx]; exact if_pos (by rw [hlen]; exact hrA))
  have RD : ((putAt (List.replicate 128 (0 : Int)) (4 * (at_ % 30)).toNat (b4 v)).drop (4 * (at_ % 30)).toNat).take 4 = b4 v := putAt_take _ _ _ 4 rfl (by rw [hlen]; omega)
  have CST := Lib.hid (astore_is true 0 128 0 127 0 (4 * (at_ % 30)) 4 v (by decide) (by decide) (by decide) (by omega) (by unfold In64; decide) HV.out eE (D3.out.keep ((Keep.refl _).alloc (.cells #[.bool true, .int .u32 0, .int .u32 128, .int .u32 0, .int .u16 127, .int .u16 0] 25))))
  rw [eB] at CST
  obtain ⟨bs1, hbs⟩ : ∃ bs1, bs1 = putAt (List.replicate 128 (0 : Int)) (4 * (at_ % 30)).toNat (b4 v) := ⟨_, rfl⟩
  have L1 : bs1.length = 128 := by rw [hbs, putAt_length, hlen]
  rw [← hbs] at CST RD
  have RR := Lib.hid (fun (off n : Int) (i N : Nat) (sign : Bool) (h1 : off = (4 * (at_ % 30)) + i) (h2 : n = (N : Int)) (h3 : N = 1 ∨ N = 2 ∨ N = 4) (h4 : off % n = 0) (h5 : i + N ≤ 4) => readR bs1 (b4 v) off n (4 * (at_ % 30)).toNat i N sign L1 (by omega) h2 h3 h4 (by omega) RD h5)
  clear hlen hx hok hrA eE eB RD hbs L1
  refine CST.out.mono ?_
  rintro e w4 ⟨rfl, hD4, hB4⟩
  have K4 := Lib.hid (Keep.butNew (K3.out.alloc _) hB4 OW.out)
  have D4 := Lib.hid hD4
  have BC := BC3.but hB4 NC.out
  clear hD4 hB4 CST K3 D3 BC3
  go_wp2_with fail
  go_loopw [9, 10] (fun wv i wr => ∃ j : Nat, j ≤ 4 ∧ i = .int .i32 ((j : Int) - 1) ∧ wv = .int .u32 (v / 256 ^ j) ∧ Keep w4 wr) (fun _ i _ => (intOf i + 1).toNat)
  case atStart => exact ⟨4, Nat.le_refl _, rfl, by simp only [Value.int.injEq, true_and]; have : (256 : Int) ^ 4 = 4294967296 := rfl; rw [this]; omega, Keep.refl _⟩
  case round =>
    obtain ⟨j, hj, rfl, rfl, hK⟩ := hrel
    have HK := Lib.hid hK
    clear hK
    rcases (by omega : j = 0 ∨ j = 1 ∨ j = 2 ∨ j = 3 ∨ j = 4) with rfl | rfl | rfl | rfl | rfl
    · simp only [Int.pow_zero, Int.ediv_one]
      have HR1 : Hid (readN bs1 true 0 128 0 127 0 (4 * (at_ % 30)) 2 false = v % 65536 ∧ readE bs1.length true 0 128 0 127 0 (4 * (at_ % 30)) 2 = okV) := Lib.hid (by
        obtain ⟨r1, r2⟩ := RR.out (4 * (at_ % 30)) 2 0 2 false (by omega) rfl (.inr (.inl rfl)) (by omega) (by decide)
        refine ⟨r1.trans ?_, r2⟩
        rw [if_neg (by decide)]
        show leW [v % 256, v / 256 % 256] = _
        simp only [leW]
        omega)
      have HR2 : Hid (readN bs1 true 0 128 0 127 0 ((4 * (at_ % 30)) + 2) 2 true = sgnVal (v / 65536) 16 ∧ readE bs1.length true 0 128 0 127 0 ((4 * (at_ % 30)) + 2) 2 = okV) := Lib.hid (by
        obtain ⟨r1, r2⟩ := RR.out ((4 * (at_ % 30)) + 2) 2 2 2 true (by omega) rfl (.inr (.inl rfl)) (by omega) (by decide)
        refine ⟨r1.trans ?_, r2⟩
        rw [if_pos rfl]
        show sgnVal (leW [v / 65536 % 256, v / 16777216 % 256]) (8 * 2) = _
        rw [show leW [v / 65536 % 256, v / 16777216 % 256] = v / 65536 by simp only [leW]; omega]
        rfl)
      have HR3 : Hid (readN bs1 true 0 128 0 127 0 (4 * (at_ % 30)) 4 true = v ∧ readE bs1.length true 0 128 0 127 0 (4 * (at_ % 30)) 4 = okV) := Lib.hid (by
        obtain ⟨r1, r2⟩ := RR.out (4 * (at_ % 30)) 4 0 4 true (by omega) rfl (.inr (.inr rfl)) (by omega) (by decide)
        refine ⟨r1.trans ?_, r2⟩
        rw [if_pos rfl]
        show sgnVal (leW (b4 v)) (8 * 4) = _
        rw [leW_b4 v HV.out]
        unfold sgnVal
        rw [if_neg (by decide), if_neg (by decide), show (2 : Int) ^ (32 - 8 * 4 : Int).toNat = 1 from rfl]
        go_arith)
      have HK1 := Lib.hid HK.out
      have BCr1 := BC.keep HK1.out
      have cC := BCr1.cells
      clear HK
      go_wp2_with fail
      refine (aload_is true 0 128 0 127 0 (4 * (at_ % 30)) 2 false (v % 65536) (by decide) (by decide) (by decide) (by omega) (by unfold In64; decide) HR1.out.1 HR1.out.2 (D4.out.keep HK1.out)).mono ?_
      rintro e wr2 ⟨rfl, hk2⟩
      have HK2 := Lib.hid (HK1.out.trans hk2)
      have BCr2 := BCr1.keep hk2
      have cC := BCr2.cells
      clear hk2 HK1 BCr1
      go_wp2_with fail
      refine (aload_is true 0 128 0 127 0 ((4 * (at_ % 30)) + 2) 2 true (sgnVal (v / 65536) 16) (by decide) (by decide) (by decide) (by omega) (by unfold In64; decide) HR2.out.1 HR2.out.2 (D4.out.keep HK2.out)).mono ?_
      rintro e wr3 ⟨rfl, hk3⟩
      have HK3 := Lib.hid (HK2.out.trans hk3)
      have BCr3 := BCr2.keep hk3
      have cC := BCr3.cells
      clear hk3 HK2 BCr2
      go_wp2_with fail
      refine (aload_is true 0 128 0 127 0 (4 * (at_ % 30)) 4 true v (by decide) (by decide) (by decide) (by omega) (by unfold In64; decide) HR3.out.1 HR3.out.2 (D4.out.keep HK3.out)).mono ?_
      rintro e wr4 ⟨rfl, hk4⟩
      have HK4 := Lib.hid (HK3.out.trans hk4)
      have BCr4 := BCr3.keep hk4
      have cC := BCr4.cells
      clear hk4 HK3 BCr3
      have hl : (v % 65536 == bits .and .u32 v 65535) = true := by rw [low16 v HV.out]; simp
      have hh : (sgnVal (v / 65536) 16 == wrap32 v / 65536 % 4294967296) = true := by
        rw [beq_iff_eq]
        unfold sgnVal
        rw [if_neg (by decide), if_neg (by decide), show (2 : Int) ^ (32 - 16 : Int).toNat = 65536 from rfl]
        go_arith
      go_wp2_with fail
      go_ret
      exact ⟨rfl, K4.out.trans HK4.out⟩
    · simp only [Int.reducePow, Int.pow_zero, Int.ediv_one, Int.pow_one]
      obtain ⟨Z, hZ⟩ : ∃ Z, Z = v % 256 := ⟨_, rfl⟩
      have hz0 : 0 ≤ Z ∧ Z ≤ 255 := by omega
      have HR1 : Hid (readN bs1 true 0 128 0 127 0 (4 * (at_ % 30)) 1 false = Z ∧ readE bs1.length true 0 128 0 127 0 (4 * (at_ % 30)) 1 = okV) := Lib.hid (by
        obtain ⟨r1, r2⟩ := RR.out (4 * (at_ % 30)) 1 0 1 false (by omega) rfl (.inl rfl) (by omega) (by decide)
        refine ⟨r1.trans ?_, r2⟩
        rw [if_neg (by decide), hZ]
        show leW [v % 256] = _
        simp only [leW]
        omega)
      have HR2 : Hid (readN bs1 true 0 128 0 127 0 (4 * (at_ % 30)) 1 true = sgnVal Z 8 ∧ readE bs1.length true 0 128 0 127 0 (4 * (at_ % 30)) 1 = okV) := Lib.hid (by
        obtain ⟨r1, r2⟩ := RR.out (4 * (at_ % 30)) 1 0 1 true (by omega) rfl (.inl rfl) (by omega) (by decide)
        refine ⟨r1.trans ?_, r2⟩
        rw [if_pos rfl, hZ]
        show sgnVal (leW [v % 256]) (8 * 1) = _
        rw [show leW [v % 256] = v % 256 by simp only [leW]; omega]
        rfl)
      have HZ := Lib.hid hZ
      have HK1 := Lib.hid HK.out
      have BCr1 := BC.keep HK1.out
      have cC := BCr1.cells
      obtain ⟨z0, z1⟩ := hz0
      clear HK hZ
      go_wp2_with fail
      refine (aload_is true 0 128 0 127 0 (4 * (at_ % 30)) 1 false Z (by decide) (by decide) (by decide) (by omega) (by unfold In64; decide) HR1.out.1 HR1.out.2 (D4.out.keep HK1.out)).mono ?_
      rintro e wr2 ⟨rfl, hk2⟩
      have HK2 := Lib.hid (HK1.out.trans hk2)
      have BCr2 := BCr1.keep hk2
      have cC := BCr2.cells
      clear hk2 HK1 BCr1
      go_wp2_with fail
      refine (aload_is true 0 128 0 127 0 (4 * (at_ % 30)) 1 true (sgnVal Z 8) (by decide) (by decide) (by decide) (by omega) (by unfold In64; decide) HR2.out.1 HR2.out.2 (D4.out.keep HK2.out)).mono ?_
      rintro e wr3 ⟨rfl, hk3⟩
      have HK3 := Lib.hid (HK2.out.trans hk3)
      have BCr3 := BCr2.keep hk3
      have cC := BCr3.cells
      clear hk3 HK2 BCr2
      have hS := sgn8 Z ⟨z0, z1⟩
      go_wp2_with fail
      refine ⟨⟨0, by decide, rfl, ?_, HK3.out⟩, by simp [intOf]⟩
      rw [or_part _ Z (by omega) ⟨z0, z1⟩]
      simp only [Value.int.injEq, true_and, Int.reducePow, Int.pow_zero, Int.ediv_one, Int.pow_one]
      have := HZ.out
      omega
    · simp only [Int.reducePow, Int.pow_zero, Int.ediv_one, Int.pow_one]
      obtain ⟨Z, hZ⟩ : ∃ Z, Z = v / 256 % 256 := ⟨_, rfl⟩
      have hz0 : 0 ≤ Z ∧ Z ≤ 255 := by omega
      have HR1 : Hid (readN bs1 true 0 128 0 127 0 ((4 * (at_ % 30)) + 1) 1 false = Z ∧ readE bs1.length true 0 128 0 127 0 ((4 * (at_ % 30)) + 1) 1 = okV) := Lib.hid (by
        obtain ⟨r1, r2⟩ := RR.out ((4 * (at_ % 30)) + 1) 1 1 1 false (by omega) rfl (.inl rfl) (by omega) (by decide)
        refine ⟨r1.trans ?_, r2⟩
        rw [if_neg (by decide), hZ]
        show leW [v / 256 % 256] = _
        simp only [leW]
        omega)
      have HR2 : Hid (readN bs1 true 0 128 0 127 0 ((4 * (at_ % 30)) + 1) 1 true = sgnVal Z 8 ∧ readE bs1.length true 0 128 0 127 0 ((4 * (at_ % 30)) + 1) 1 = okV) := Lib.hid (by
        obtain ⟨r1, r2⟩ := RR.out ((4 * (at_ % 30)) + 1) 1 1 1 true (by omega) rfl (.inl rfl) (by omega) (by decide)
        refine ⟨r1.trans ?_, r2⟩
        rw [if_pos rfl, hZ]
        show sgnVal (leW [v / 256 % 256]) (8 * 1) = _
        rw [show leW [v / 256 % 256] = v / 256 % 256 by simp only [leW]; omega]
        rfl)
      have HZ := Lib.hid hZ
      have HK1 := Lib.hid HK.out
      have BCr1 := BC.keep HK1.out
      have cC := BCr1.cells
      obtain ⟨z0, z1⟩ := hz0
      clear HK hZ
      go_wp2_with fail
      refine (aload_is true 0 128 0 127 0 ((4 * (at_ % 30)) + 1) 1 false Z (by decide) (by decide) (by decide) (by omega) (by unfold In64; decide) HR1.out.1 HR1.out.2 (D4.out.keep HK1.out)).mono ?_
      rintro e wr2 ⟨rfl, hk2⟩
      have HK2 := Lib.hid (HK1.out.trans hk2)
      have BCr2 := BCr1.keep hk2
      have cC := BCr2.cells
      clear hk2 HK1 BCr1
      go_wp2_with fail
      refine (aload_is true 0 128 0 127 0 ((4 * (at_ % 30)) + 1) 1 true (sgnVal Z 8) (by decide) (by decide) (by decide) (by omega) (by unfold In64; decide) HR2.out.1 HR2.out.2 (D4.out.keep HK2.out)).mono ?_
      rintro e wr3 ⟨rfl, hk3⟩
      have HK3 := Lib.hid (HK2.out.trans hk3)
      have BCr3 := BCr2.keep hk3
      have cC := BCr3.cells
      clear hk3 HK2 BCr2
      have hS := sgn8 Z ⟨z0, z1⟩
      go_wp2_with fail
      refine ⟨⟨1, by decide, rfl, ?_, HK3.out⟩, by simp [intOf]⟩
      rw [or_part _ Z (by omega) ⟨z0, z1⟩]
      simp only [Value.int.injEq, true_and, Int.reducePow, Int.pow_zero, Int.ediv_one, Int.pow_one]
      have := HZ.out
      omega
    · simp only [Int.reducePow, Int.pow_zero, Int.ediv_one, Int.pow_one]
      obtain ⟨Z, hZ⟩ : ∃ Z, Z = v / 65536 % 256 := ⟨_, rfl⟩
      have hz0 : 0 ≤ Z ∧ Z ≤ 255 := by omega
      have HR1 : Hid (readN bs1 true 0 128 0 127 0 ((4 * (at_ % 30)) + 2) 1 false = Z ∧ readE bs1.length true 0 128 0 127 0 ((4 * (at_ % 30)) + 2) 1 = okV) := Lib.hid (by
        obtain ⟨r1, r2⟩ := RR.out ((4 * (at_ % 30)) + 2) 1 2 1 false (by omega) rfl (.inl rfl) (by omega) (by decide)
        refine ⟨r1.trans ?_, r2⟩
        rw [if_neg (by decide), hZ]
        show leW [v / 65536 % 256] = _
        simp only [leW]
        omega)
      have HR2 : Hid (readN bs1 true 0 128 0 127 0 ((4 * (at_ % 30)) + 2) 1 true = sgnVal Z 8 ∧ readE bs1.length true 0 128 0 127 0 ((4 * (at_ % 30)) + 2) 1 = okV) := Lib.hid (by
        obtain ⟨r1, r2⟩ := RR.out ((4 * (at_ % 30)) + 2) 1 2 1 true (by omega) rfl (.inl rfl) (by omega) (by decide)
        refine ⟨r1.trans ?_, r2⟩
        rw [if_pos rfl, hZ]
        show sgnVal (leW [v / 65536 % 256]) (8 * 1) = _
        rw [show leW [v / 65536 % 256] = v / 65536 % 256 by simp only [leW]; omega]
        rfl)
      have HZ := Lib.hid hZ
      have HK1 := Lib.hid HK.out
      have BCr1 := BC.keep HK1.out
      have cC := BCr1.cells
      obtain ⟨z0, z1⟩ := hz0
      clear HK hZ
      go_wp2_with fail
      refine (aload_is true 0 128 0 127 0 ((4 * (at_ % 30)) + 2) 1 false Z (by decide) (by decide) (by decide) (by omega) (by unfold In64; decide) HR1.out.1 HR1.out.2 (D4.out.keep HK1.out)).mono ?_
      rintro e wr2 ⟨rfl, hk2⟩
      have HK2 := Lib.hid (HK1.out.trans hk2)
      have BCr2 := BCr1.keep hk2
      have cC := BCr2.cells
      clear hk2 HK1 BCr1
      go_wp2_with fail
      refine (aload_is true 0 128 0 127 0 ((4 * (at_ % 30)) + 2) 1 true (sgnVal Z 8) (by decide) (by decide) (by decide) (by omega) (by unfold In64; decide) HR2.out.1 HR2.out.2 (D4.out.keep HK2.out)).mono ?_
      rintro e wr3 ⟨rfl, hk3⟩
      have HK3 := Lib.hid (HK2.out.trans hk3)
      have BCr3 := BCr2.keep hk3
      have cC := BCr3.cells
      clear hk3 HK2 BCr2
      have hS := sgn8 Z ⟨z0, z1⟩
      go_wp2_with fail
      refine ⟨⟨2, by decide, rfl, ?_, HK3.out⟩, by simp [intOf]⟩
      rw [or_part _ Z (by omega) ⟨z0, z1⟩]
      simp only [Value.int.injEq, true_and, Int.reducePow, Int.pow_zero, Int.ediv_one, Int.pow_one]
      have := HZ.out
      omega
    · simp only [Int.reducePow, Int.pow_zero, Int.ediv_one, Int.pow_one]
      obtain ⟨Z, hZ⟩ : ∃ Z, Z = v / 16777216 % 256 := ⟨_, rfl⟩
      have hz0 : 0 ≤ Z ∧ Z ≤ 255 := by omega
      have HR1 : Hid (readN bs1 true 0 128 0 127 0 ((4 * (at_ % 30)) + 3) 1 false = Z ∧ readE bs1.length true 0 128 0 127 0 ((4 * (at_ % 30)) + 3) 1 = okV) := Lib.hid (by
        obtain ⟨r1, r2⟩ := RR.out ((4 * (at_ % 30)) + 3) 1 3 1 false (by omega) rfl (.inl rfl) (by omega) (by decide)
        refine ⟨r1.trans ?_, r2⟩
        rw [if_neg (by decide), hZ]
        show leW [v / 16777216 % 256] = _
        simp only [leW]
        omega)
      have HR2 : Hid (readN bs1 true 0 128 0 127 0 ((4 * (at_ % 30)) + 3) 1 true = sgnVal Z 8 ∧ readE bs1.length true 0 128 0 127 0 ((4 * (at_ % 30)) + 3) 1 = okV) := Lib.hid (by
        obtain ⟨r1, r2⟩ := RR.out ((4 * (at_ % 30)) + 3) 1 3 1 true (by omega) rfl (.inl rfl) (by omega) (by decide)
        refine ⟨r1.trans ?_, r2⟩
        rw [if_pos rfl, hZ]
        show sgnVal (leW [v / 16777216 % 256]) (8 * 1) = _
        rw [show leW [v / 16777216 % 256] = v / 16777216 % 256 by simp only [leW]; omega]
        rfl)
      have HZ := Lib.hid hZ
      have HK1 := Lib.hid HK.out
      have BCr1 := BC.keep HK1.out
      have cC := BCr1.cells
      obtain ⟨z0, z1⟩ := hz0
      clear HK hZ
      go_wp2_with fail
      refine (aload_is true 0 128 0 127 0 ((4 * (at_ % 30)) + 3) 1 false Z (by decide) (by decide) (by decide) (by omega) (by unfold In64; decide) HR1.out.1 HR1.out.2 (D4.out.keep HK1.out)).mono ?_
      rintro e wr2 ⟨rfl, hk2⟩
      have HK2 := Lib.hid (HK1.out.trans hk2)
      have BCr2 := BCr1.keep hk2
      have cC := BCr2.cells
      clear hk2 HK1 BCr1
      go_wp2_with fail
      refine (aload_is true 0 128 0 127 0 ((4 * (at_ % 30)) + 3) 1 true (sgnVal Z 8) (by decide) (by decide) (by decide) (by omega) (by unfold In64; decide) HR2.out.1 HR2.out.2 (D4.out.keep HK2.out)).mono ?_
      rintro e wr3 ⟨rfl, hk3⟩
      have HK3 := Lib.hid (HK2.out.trans hk3)
      have BCr3 := BCr2.keep hk3
      have cC := BCr3.cells
      clear hk3 HK2 BCr2
      have hS := sgn8 Z ⟨z0, z1⟩
      go_wp2_with fail
      refine ⟨⟨3, by decide, rfl, ?_, HK3.out⟩, by simp [intOf]⟩
      rw [or_part _ Z (by omega) ⟨z0, z1⟩]
      simp only [Value.int.injEq, true_and, Int.reducePow, Int.pow_zero, Int.ediv_one, Int.pow_one]
      have := HZ.out
      omega
end Go.Proofs.YtgfoohiaioojoaaDoor
