/- AccessPart's walk. -/
import Derived.Test.YtgfoohiaioojoaaDoorAccKnown
import Derived.Test.YtgfoohiaioojoaaDoorGMemC
namespace Go.Proofs.YtgfoohiaioojoaaDoor
set_option linter.unusedVariables false
set_option linter.unusedSimpArgs false
open Go.RowKit
theorem plc_sub (f a : Int) (ha : 0 ≤ a ∧ a ≤ 4294967295) : plc f (a - f) = a := by unfold plc; omega
theorem plc_zero (a : Int) (ha : 0 ≤ a ∧ a ≤ 4294967295) : plc 0 a = a := by unfold plc; omega
/-- Four bytes through a capability of data. -/
theorem lack4 (b p x q : Int) (hq : q = 1 ∨ q = 2) (hx : x % 4 = 0) : lackN true b p 127 0 x 4 q = if b ≤ x ∧ x + 4 ≤ p then 0 else 4 := by
  have e1 : (bits .and .u16 127 q == q) = true := by rcases hq with rfl | rfl <;> decide
  unfold lackN
  rw [if_neg (by decide), if_neg (by decide), e1, if_neg (by decide)]
  by_cases h : b ≤ x ∧ x + 4 ≤ p
  · rw [hasB_true h.1 h.2, if_neg (by decide), if_neg (by omega), if_pos h]
  · rw [hasB_false h, if_pos rfl, if_neg h]
theorem leW_zeros : leW [0, 0, 0, 0] = 0 := rfl
theorem take_zeros (L A : Nat) (h : A + 4 ≤ L) : ((List.replicate L (0 : Int)).drop A).take 4 = [0, 0, 0, 0] := by
  rw [List.drop_replicate, List.take_replicate, Nat.min_eq_left (by omega)]
  rfl
theorem putAt_take (bs xs : List Int) (A n : Nat) (hn : xs.length = n) (h : A + n ≤ bs.length) : ((putAt bs A xs).drop A).take n = xs := by
  subst hn
  apply list_ext_getD
  · simp only [List.length_take, List.length_drop, putAt_length]; omega
  · intro j hj
    simp only [List.length_take, List.length_drop, putAt_length] at hj
    have e : (((putAt bs A xs).drop A).take xs.length).getD j 0 = (putAt bs A xs).getD (A + j) 0 := by
      simp only [List.getD_eq_getElem?_getD]
      rw [List.getElem?_take_of_lt (by omega), List.getElem?_drop]
    rw [e, putAt_getD _ _ _ _ h, if_pos (by omega), Nat.add_sub_cancel_left]
set_option maxRecDepth 100000 in
set_option maxHeartbeats 4000000 in
theorem accessPart_walk (from_ n at_ v : Int) {W : World} (hf : 0 ≤ from_ ∧ from_ ≤ 255) (hn : 0 ≤ n ∧ n ≤ 255) (ha : 0 ≤ at_ ∧ at_ ≤ 255) (hv : 0 ≤ v ∧ v ≤ 4294967295) (hE : ErrT W) :
    Calls Tryd.prog 8 #[.int .u8 from_, .int .u8 n, .int .u8 at_, .int .u32 v] W fun e W' => e = .returned (.bool true) ∧ Keep W W' := by
  have HE := Lib.hid hE
  have HV := Lib.hid hv
  clear hE
  obtain ⟨f0, f1⟩ := hf
  obtain ⟨n0, n1⟩ := hn
  obtain ⟨a0, a1⟩ := ha
  obtain ⟨v0, v1⟩ := hv
  go_enter Tryd.func8, Tryd.ntmps8
  go_wp2_with fail
  refine (aknown_any _ HE.out).mono ?_
  rintro e w1 ⟨rfl, hk1⟩
  have K1 := Lib.hid hk1
  clear hk1
  go_wp2_with fail
  refine (dnew_good 256 16 (by decide) (by decide) (by decide) _ (HE.out.keep K1.out)).mono ?_
  rintro e w2 ⟨dm, O, rfl, hD, hk2, hO⟩
  have OW : Hid (∀ z, O z → W.heap.size ≤ z) := Lib.hid (fun z h => by have := hO _ h; have := K1.out.size; omega)
  have K2 := Lib.hid (K1.out.trans hk2)
  have D2 := Lib.hid hD
  clear hk2 K1 hD hO
  unfold ptrV
  go_wp2_with fail
  refine (croot_any 256 _).mono ?_
  rintro e w3 ⟨rfl, hk3⟩
  have K3 := Lib.hid (K2.out.trans hk3)
  have D3 := Lib.hid (D2.out.keep hk3)
  clear hk3 K2 D2
  go_wp2_with fail
  refine (setAddr_any true 0 256 0 127 0 (from_ % 200) (by decide) (by decide) (by decide) (by decide) _).mono ?_
  rintro e w4 ⟨rfl, hk4⟩
  have K4 := Lib.hid (K3.out.trans hk4)
  have D4 := Lib.hid (D3.out.keep hk4)
  clear hk4 K3 D3
  rw [show tagOpen true 0 = true from rfl]
  go_wp2_with fail
  refine (bounds_any true 0 256 (from_ % 200) 127 0 (n % 56) (by decide) (by decide) (by omega) (by decide) (by omega) _).mono ?_
  rintro e w5 ⟨rfl, hk5⟩
  have K5 := Lib.hid (K4.out.trans hk5)
  have D5 := Lib.hid (D4.out.keep hk5)
  clear hk5 K4 D4
  have tB : tagBounds true 0 256 (from_ % 200) 0 (n % 56) = true := by
    have := hasB_true (base := 0) (top := 256) (a := from_ % 200) (n := n % 56) (by omega) (by omega)
    simp [tagBounds, this]
  rw [tB, show (from_ % 200 + n % 56) % 4294967296 = from_ % 200 + n % 56 by omega]
  clear tB
  go_wp2_with fail
  have BC : Box (w5.alloc (.cells #[.bool true, .int .u32 (from_ % 200), .int .u32 (from_ % 200 + n % 56), .int .u32 (from_ % 200), .int .u16 127, .int .u16 0] 25)) w5.heap.size #[.bool true, .int .u32 (from_ % 200), .int .u32 (from_ % 200 + n % 56), .int .u32 (from_ % 200), .int .u16 127, .int .u16 0] := Box.new _ _ _
  have NC : Hid (¬ O w5.heap.size) := Lib.hid (fun h => absurd (D5.out.lt _ h) (by omega))
  have hx : plc (from_ % 200) (4 * (at_ % 60) - from_ % 200) = (4 * (at_ % 60)) := plc_sub _ _ (by omega)
  have hx0 : plc 0 (4 * (at_ % 60)) = (4 * (at_ % 60)) := plc_zero _ (by omega)
  have hk4 : ∀ q, q = 1 ∨ q = 2 → lackN true (from_ % 200) (from_ % 200 + n % 56) 127 0 (4 * (at_ % 60)) 4 q = if (from_ % 200) ≤ (4 * (at_ % 60)) ∧ (4 * (at_ % 60)) + 4 ≤ (from_ % 200 + n % 56) then 0 else 4 := fun q hq => lack4 _ _ _ q hq (by omega)
  have hk0 : lackN true 0 256 127 0 (4 * (at_ % 60)) 4 1 = 0 := (lack4 0 256 _ 1 (.inl rfl) (by omega)).trans (if_pos (by omega))
  have hrA : reachB (4 * (at_ % 60)) 4 256 = true := by simp [reachB]; omega
  have hr0 : numOk true 0 256 0 127 0 (4 * (at_ % 60)) 4 1 := ⟨rfl, by rw [hx0]; exact hk0⟩
  have CST := Lib.hid (astore_any true (from_ % 200) (from_ % 200 + n % 56) (from_ % 200) 127 0 (4 * (at_ % 60) - from_ % 200) 4 v (by omega) (by omega) (by omega) (by omega) (by unfold In64; decide) HV.out (D5.out.keep ((Keep.refl _).alloc (.cells #[.bool true, .int .u32 (from_ % 200), .int .u32 (from_ % 200 + n % 56), .int .u32 (from_ % 200), .int .u16 127, .int .u16 0] 25))))
  have hlen : (List.replicate 256 (0 : Int)).length = 256 := List.length_replicate
  by_cases hin : (from_ % 200) ≤ (4 * (at_ % 60)) ∧ (4 * (at_ % 60)) + 4 ≤ (from_ % 200 + n % 56)
  · obtain ⟨i1, i2⟩ := hin
    have hok : ∀ q, q = 1 ∨ q = 2 → numOk true (from_ % 200) (from_ % 200 + n % 56) (from_ % 200) 127 0 (4 * (at_ % 60) - from_ % 200) 4 q := fun q hq => ⟨rfl, by rw [hx, hk4 q hq, if_pos ⟨i1, i2⟩]⟩
    have eE : writeE (List.replicate 256 (0 : Int)).length true (from_ % 200) (from_ % 200 + n % 56) (from_ % 200) 127 0 (4 * (at_ % 60) - from_ % 200) 4 = okV := (if_pos (hok 2 (.inr rfl))).trans (by rw [hx, hlen]; exact if_pos hrA)
    have eB : writeB (List.replicate 256 (0 : Int)) true (from_ % 200) (from_ % 200 + n % 56) (from_ % 200) 127 0 (4 * (at_ % 60) - from_ % 200) 4 v = putAt (List.replicate 256 (0 : Int)) (4 * (at_ % 60)).toNat (b4 v) := (if_pos (hok 2 (.inr rfl))).trans (by rw [hx]; exact if_pos (by rw [hlen]; exact hrA))
    have RD : ((putAt (List.replicate 256 (0 : Int)) (4 * (at_ % 60)).toNat (b4 v)).drop (4 * (at_ % 60)).toNat).take 4 = b4 v := putAt_take _ _ _ 4 rfl (by rw [hlen]; omega)
    rw [eE, eB] at CST
    obtain ⟨bs1, hbs⟩ : ∃ bs1, bs1 = putAt (List.replicate 256 (0 : Int)) (4 * (at_ % 60)).toNat (b4 v) := ⟨_, rfl⟩
    have L1 : bs1.length = 256 := by rw [hbs, putAt_length, hlen]
    rw [← hbs] at CST RD
    have R1 : readN bs1 true 0 256 0 127 0 (4 * (at_ % 60)) 4 false = v := by
      unfold readN
      rw [if_pos ⟨hr0, by rw [hx0, L1]; exact hrA⟩, if_neg (by decide)]
      unfold readAt
      rw [hx0, show (4 : Int).toNat = 4 from rfl, RD, leW_b4 v HV.out]
    have R2 : readN bs1 true (from_ % 200) (from_ % 200 + n % 56) (from_ % 200) 127 0 (4 * (at_ % 60) - from_ % 200) 4 false = v := by
      unfold readN
      rw [if_pos ⟨hok 1 (.inl rfl), by rw [hx, L1]; exact hrA⟩, if_neg (by decide)]
      unfold readAt
      rw [hx, show (4 : Int).toNat = 4 from rfl, RD, leW_b4 v HV.out]
    have E1 : readE bs1.length true 0 256 0 127 0 (4 * (at_ % 60)) 4 = okV := (if_pos hr0).trans (by rw [hx0, L1]; exact if_pos hrA)
    have E2 : readE bs1.length true (from_ % 200) (from_ % 200 + n % 56) (from_ % 200) 127 0 (4 * (at_ % 60) - from_ % 200) 4 = okV := (if_pos (hok 1 (.inl rfl))).trans (by rw [hx, L1]; exact if_pos hrA)
    have HR1 := Lib.hid R1
    have HR2 := Lib.hid R2
    have HE1 := Lib.hid E1
    have HE2 := Lib.hid E2
    clear hok eE eB RD hbs L1 R1 R2 E1 E2 hk4 hk0 hr0 hrA hlen hx hx0
    refine CST.out.mono ?_
    rintro e w6 ⟨u, rfl, hu, hD6, hB6⟩
    obtain rfl := hu.ok
    have K6 := Lib.hid (Keep.butNew (K5.out.alloc _) hB6 OW.out)
    have D6 := Lib.hid hD6
    have BC6 := BC.but hB6 NC.out
    clear hu hD6 hB6 CST K5 D5 BC
    go_wp2_with fail
    refine (croot_any 256 _).mono ?_
    rintro e w7 ⟨rfl, hk7⟩
    have K7 := Lib.hid (K6.out.trans hk7)
    have D7 := Lib.hid (D6.out.keep hk7)
    have BC7 := BC6.keep hk7
    clear hk7 K6 D6 BC6
    go_wp2_with fail
    refine (aload_is true 0 256 0 127 0 (4 * (at_ % 60)) 4 false v (by decide) (by decide) (by decide) (by omega) (by unfold In64; decide) HR1.out HE1.out D7.out).mono ?_
    rintro e w8 ⟨rfl, hk8⟩
    have K8 := Lib.hid (K7.out.trans hk8)
    have D8 := Lib.hid (D7.out.keep hk8)
    have BC8 := BC7.keep hk8
    have c0 := BC8.cells
    clear hk8 K7 D7 BC7
    go_wp2_with fail
    refine (aload_is true (from_ % 200) (from_ % 200 + n % 56) (from_ % 200) 127 0 (4 * (at_ % 60) - from_ % 200) 4 false v (by omega) (by omega) (by omega) (by omega) (by unfold In64; decide) HR2.out HE2.out D8.out).mono ?_
    rintro e w9 ⟨rfl, hk9⟩
    have K9 := Lib.hid (K8.out.trans hk9)
    clear hk9 K8 D8 BC8 c0
    go_wp2_with fail
    go_ret
    exact ⟨rfl, K9.out⟩
  · have hno : ∀ q, q = 1 ∨ q = 2 → ¬ numOk true (from_ % 200) (from_ % 200 + n % 56) (from_ % 200) 127 0 (4 * (at_ % 60) - from_ % 200) 4 q := fun q hq h => by
      have h2 := h.2
      rw [hx, hk4 q hq, if_neg hin] at h2
      exact absurd h2 (by decide)
    have hnE : ∀ q, q = 1 ∨ q = 2 → numE true (from_ % 200) (from_ % 200 + n % 56) (from_ % 200) 127 0 (4 * (at_ % 60) - from_ % 200) 4 q = wrongV accessT (4 * (at_ % 60)) 4 := fun q hq => by
      unfold numE
      rw [if_pos (by decide), hx, hk4 q hq, if_neg hin]
      rfl
    have eE : writeE (List.replicate 256 (0 : Int)).length true (from_ % 200) (from_ % 200 + n % 56) (from_ % 200) 127 0 (4 * (at_ % 60) - from_ % 200) 4 = wrongV accessT (4 * (at_ % 60)) 4 := (if_neg (hno 2 (.inr rfl))).trans (hnE 2 (.inr rfl))
    have eB : writeB (List.replicate 256 (0 : Int)) true (from_ % 200) (from_ % 200 + n % 56) (from_ % 200) 127 0 (4 * (at_ % 60) - from_ % 200) 4 v = List.replicate 256 (0 : Int) := if_neg (hno 2 (.inr rfl))
    rw [eE, eB] at CST
    have R1 : readN (List.replicate 256 (0 : Int)) true 0 256 0 127 0 (4 * (at_ % 60)) 4 false = 0 := by
      unfold readN
      rw [if_pos ⟨hr0, by rw [hx0, hlen]; exact hrA⟩, if_neg (by decide)]
      unfold readAt
      rw [hx0, show (4 : Int).toNat = 4 from rfl, take_zeros _ _ (by omega), leW_zeros]
    have R2 : readN (List.replicate 256 (0 : Int)) true (from_ % 200) (from_ % 200 + n % 56) (from_ % 200) 127 0 (4 * (at_ % 60) - from_ % 200) 4 false = 0 := if_neg (fun h => hno 1 (.inl rfl) h.1)
    have E1 : readE (List.replicate 256 (0 : Int)).length true 0 256 0 127 0 (4 * (at_ % 60)) 4 = okV := (if_pos hr0).trans (by rw [hx0, hlen]; exact if_pos hrA)
    have E2 : readE (List.replicate 256 (0 : Int)).length true (from_ % 200) (from_ % 200 + n % 56) (from_ % 200) 127 0 (4 * (at_ % 60) - from_ % 200) 4 = wrongV accessT (4 * (at_ % 60)) 4 := (if_neg (hno 1 (.inl rfl))).trans (hnE 1 (.inl rfl))
    have HR1 := Lib.hid R1
    have HR2 := Lib.hid R2
    have HE1 := Lib.hid E1
    have HE2 := Lib.hid E2
    clear hno hnE eE eB R1 R2 E1 E2 hk4 hk0 hr0 hrA hlen hx hx0
    refine CST.out.mono ?_
    rintro e w6 ⟨u, rfl, hu, hD6, hB6⟩
    obtain ⟨f6, rfl⟩ := hu.fault (fun e => absurd (okV_wrong e.symm) (by decide))
    unfold faultP
    have K6 := Lib.hid (Keep.butNew (K5.out.alloc _) hB6 OW.out)
    have D6 := Lib.hid hD6
    have BC6 := BC.but hB6 NC.out
    clear hu hD6 hB6 CST K5 D5 BC
    go_wp2_with fail
    refine (croot_any 256 _).mono ?_
    rintro e w7 ⟨rfl, hk7⟩
    have K7 := Lib.hid (K6.out.trans hk7)
    have D7 := Lib.hid (D6.out.keep hk7)
    have BC7 := BC6.keep hk7
    clear hk7 K6 D6 BC6
    go_wp2_with fail
    refine (aload_is true 0 256 0 127 0 (4 * (at_ % 60)) 4 false 0 (by decide) (by decide) (by decide) (by omega) (by unfold In64; decide) HR1.out HE1.out D7.out).mono ?_
    rintro e w8 ⟨rfl, hk8⟩
    have K8 := Lib.hid (K7.out.trans hk8)
    have D8 := Lib.hid (D7.out.keep hk8)
    have BC8 := BC7.keep hk8
    have c0 := BC8.cells
    clear hk8 K7 D7 BC7
    have CLD := Lib.hid (fun W (k : Keep w8 W) => aload_any true (from_ % 200) (from_ % 200 + n % 56) (from_ % 200) 127 0 (4 * (at_ % 60) - from_ % 200) 4 false (by omega) (by omega) (by omega) (by omega) (by unfold In64; decide) (D8.out.keep k))
    rw [HR2.out, HE2.out] at CLD
    by_cases i1 : (from_ % 200) ≤ (4 * (at_ % 60))
    · have i2 : ¬ (4 * (at_ % 60)) + 4 ≤ (from_ % 200 + n % 56) := fun h => hin ⟨i1, h⟩
      clear hin
      go_wp2_with fail
      refine (CLD.out _ (Keep.refl _)).mono ?_
      rintro e w9 ⟨u9, rfl, hu9, hk9⟩
      obtain ⟨f9, rfl⟩ := hu9.fault (fun e => absurd (okV_wrong e.symm) (by decide))
      unfold faultP
      have K9 := Lib.hid (K8.out.trans hk9)
      clear hk9 K8 D8 BC8 c0 hu9 CLD
      go_wp2_with fail
      go_ret
      exact ⟨rfl, K9.out⟩
    · clear hin
      go_wp2_with fail
      refine (CLD.out _ (Keep.refl _)).mono ?_
      rintro e w9 ⟨u9, rfl, hu9, hk9⟩
      obtain ⟨f9, rfl⟩ := hu9.fault (fun e => absurd (okV_wrong e.symm) (by decide))
      unfold faultP
      have K9 := Lib.hid (K8.out.trans hk9)
      clear hk9 K8 D8 BC8 c0 hu9 CLD
      go_wp2_with fail
      go_ret
      exact ⟨rfl, K9.out⟩
end Go.Proofs.YtgfoohiaioojoaaDoor
