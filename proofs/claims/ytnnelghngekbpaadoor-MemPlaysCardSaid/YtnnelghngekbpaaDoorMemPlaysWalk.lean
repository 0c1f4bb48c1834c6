/- MemPlays's walk. -/
import Derived.Test.YtnnelghngekbpaaDoorMemPlaysU
namespace Go.Proofs.YtnnelghngekbpaaDoor
set_option linter.unusedVariables false
set_option linter.unusedSimpArgs false
open Go.RowKit
set_option maxRecDepth 100000 in
set_option maxHeartbeats 40000000 in
theorem memPlays_walk (size : Int) (ad : Option Addr) (len cap : Nat) (R : Nat → ActR) {W : World} (hs : -9223372036854775808 ≤ size ∧ size ≤ 9223372036854775807) (hl : len ≤ cap) (hc : cap ≤ maxLen) (hA : ∀ k, k < len → ActAt W ad k (R k) ∧ (R k).ok W) (hE : ErrT W) :
    Calls Tryd.prog 3 #[.int .i64 size, .slice ad len cap] W fun e W' => e = .returned (.bool true) ∧ Keep W W' := by
  have HE := Lib.hid hE
  have HA := Lib.hid hA
  clear hE hA
  go_enter Tryd.func3, Tryd.ntmps3
  go_wp2_with fail
  refine (mknown_any _ HE.out).mono ?_
  rintro e w1 ⟨rfl, hk1⟩
  have K1 := Lib.hid hk1
  clear hk1
  by_cases hlen : 60 < len
  · go_wp2_with fail
    go_ret
    exact ⟨rfl, K1.out⟩
  go_wp2_with fail
  by_cases hbad : sizeOk size = true
  · simp only [sizeOk, Bool.and_eq_true, decide_eq_true_eq] at hbad
    obtain ⟨⟨b1, b2⟩, b3⟩ := hbad
    obtain ⟨N, rfl⟩ := Int.eq_ofNat_of_zero_le (show 0 ≤ size by omega)
    obtain ⟨M, hM⟩ : ∃ M, N = 16 * M := ⟨N / 16, by omega⟩
    have HM := Lib.hid hM
    have hN1 : 16 ≤ N := by omega
    have hN2 : N ≤ 65536 := by omega
    clear hM
    refine (dnew_good N M hN1 hN2 HM.out _ (HE.out.keep K1.out)).mono ?_
    rintro e w2 ⟨m, O, rfl, hD, hk2, hO⟩
    unfold ptrV
    go_wp2_with fail
    refine (rnew_good N M hN1 hN2 HM.out _).mono ?_
    rintro e w3 ⟨p, gb, gt, rfl, hR, hk3, hp1, hp2, hp3⟩
    have K3 := Lib.hid ((K1.out.trans hk2).trans hk3)
    have D3 := Lib.hid (hD.keep hk3)
    have R3 := Lib.hid hR
    have OL := Lib.hid (fun z (h : O z) => Nat.le_trans K1.out.size (hO z h))
    have GL : Hid (W.heap.size ≤ p ∧ W.heap.size ≤ gb ∧ W.heap.size ≤ gt) := Lib.hid (by have := (K1.out.trans hk2).size; omega)
    have DJ : Hid (∀ z, O z → z ≠ p ∧ z ≠ gb ∧ z ≠ gt) := Lib.hid (fun z h => by have := hD.lt z h; omega)
    clear hk2 hk3 hD hR hO hp1 hp2 hp3
    unfold okV wrongV
    go_wp2_with fail
    refine (tells_any .nilIface okV _ ErrV.isOk (HE.out.keep (K3.out.alloc _))).mono ?_
    rintro e w4 ⟨rfl, hk4⟩
    have K4 := Lib.hid ((K3.out.alloc _).trans hk4)
    have D4 := Lib.hid ((D3.out.keep ((Keep.refl _).alloc _)).keep hk4)
    have R4 := Lib.hid ((R3.out.keep ((Keep.refl _).alloc _)).keep hk4)
    clear hk4 K3 D3 R3
    go_wp2_with fail
    have I4 : PInv W w4 p gb gt N M m O (List.replicate N 0) (List.replicate M false) := ⟨D4.out, R4.out, by simp, fun z hz => ⟨OL.out z hz, DJ.out z hz⟩, GL.out, K4.out⟩
    have HI4 := Lib.hid I4
    clear I4 D4 R4 OL GL DJ K4
    go_loopw [5, 9] (fun mv i wr => ∃ (k dm : Nat) (O : Nat → Prop) (bs : List Int) (ts : List Bool), k ≤ len ∧ i = .int .i64 (k : Int) ∧ mv = .pointer (some ⟨dm, 0, none⟩) ∧ PInv W wr p gb gt N M dm O bs ts) (fun _ i _ => len - (intOf i).toNat)
    case atStart => exact ⟨0, _, _, _, _, Nat.zero_le _, rfl, rfl, HI4.out⟩
    case round =>
      clear HI4 O
      obtain ⟨k, dm, O, bs, ts, hk, rfl, rfl, hI⟩ := hrel
      have k0 : (0 : Int) ≤ (k : Int) := Int.natCast_nonneg _
      have HI := Lib.hid hI
      clear hI
      by_cases h : k < len
      · have hkl : (k : Int) < (len : Int) := by omega
        obtain ⟨hat, hok⟩ := HA.out k h
        generalize R k = r at hat hok
        obtain ⟨op, at_, n, bv, xs, t, cb_, cp, ca, cm, cy⟩ := r
        obtain ⟨lb, lo, rfl, hlb, hcell⟩ := hat
        obtain ⟨o1, o2, o3, o4, o5, o6, o7, o8, o9, o10, o11⟩ := hok
        have HO4 := Lib.hid o4
        have HO5 := Lib.hid o5
        simp only at o1 o2 o3 o4 o5 o6 o7 o8 o9 o10 o11
        obtain ⟨bad, bcs, rfl, -, -, -⟩ := o4
        unfold In64 at o1 o2 o3
        have hcs : ∀ j, j < 10 → wr.cell? ⟨lb, lo + k * 10 + j, none⟩ = (ActR.cells ⟨op, at_, n, .slice bad xs.length bcs, xs, t, cb_, cp, ca, cm, cy⟩)[j]? := fun j hj => by
          have h1 := hcell j hj
          have h2 : j < (ActR.cells ⟨op, at_, n, .slice bad xs.length bcs, xs, t, cb_, cp, ca, cm, cy⟩).length := hj
          rw [List.getElem?_eq_getElem h2] at h1 ⊢
          exact HI.out.kp.cellOf h1
        have q0 := hcs 0 (by decide)
        have q1 := hcs 1 (by decide)
        have q2 := hcs 2 (by decide)
        have q3 := hcs 3 (by decide)
        have q4 := hcs 4 (by decide)
        have q5 := hcs 5 (by decide)
        have q6 := hcs 6 (by decide)
        have q7 := hcs 7 (by decide)
        have q8 := hcs 8 (by decide)
        have q9 := hcs 9 (by decide)
        simp only [ActR.cells, Nat.add_zero, List.getElem?_cons_zero, List.getElem?_cons_succ] at q0 q1 q2 q3 q4 q5 q6 q7 q8 q9
        obtain ⟨X, hX⟩ : ∃ X, X = xs.length := ⟨_, rfl⟩
        have HX := Lib.hid hX
        rw [← hX] at q3
        clear hcs hcell o5 hX o6
        by_cases hlong : 200 < X
        · go_wp2_with fail
          go_ret
          refine ⟨rfl, ?_⟩
          repeat (first | with_reducible refine Keep.alloc ?_ _ | exact HI.out.kp)
        have hX2 : X ≤ 200 := by omega
        have BA : Box (wr.alloc (.cells #[.int .i64 op, .int .i64 at_, .int .i64 n, .slice bad X bcs, .bool t, .int .u32 cb_, .int .u32 cp, .int .u32 ca, .int .u16 cm, .int .u16 cy] 41)) wr.heap.size #[.int .i64 op, .int .i64 at_, .int .i64 n, .slice bad X bcs, .bool t, .int .u32 cb_, .int .u32 cp, .int .u32 ca, .int .u16 cm, .int .u16 cy] := Box.new _ _ _
        have I0 := Lib.hid (HI.out.keep ((Keep.refl _).alloc (.cells #[.int .i64 op, .int .i64 at_, .int .i64 n, .slice bad X bcs, .bool t, .int .u32 cb_, .int .u32 cp, .int .u32 ca, .int .u16 cm, .int .u16 cy] 41)))
        have NB := Lib.hid (HI.out.notBoth (Nat.le_refl _))
        have hxl : xs.length ≤ 9223372036854775807 := by have := HX.out; omega
        have HXL := Lib.hid hxl
        clear hxl
        rcases (by omega : op = 1 ∨ op = 2 ∨ op = 3 ∨ op = 4 ∨ op = 5 ∨ op = 6 ∨ op = 7 ∨ (op ≠ 1 ∧ op ≠ 2 ∧ op ≠ 3 ∧ op ≠ 4 ∧ op ≠ 5 ∧ op ≠ 6 ∧ op ≠ 7)) with rfl | rfl | rfl | rfl | rfl | rfl | rfl | ⟨g1, g2, g3, g4, g5, g6, g7⟩
        · as_aux_lemma =>
            go_wp2_with fail
            refine Rel.regionO (KeepBut (Both O gb gt)) (butWay _) [5, 11, 12] [0, 1, 2, 3, 4, 6, 7, 8, 9, 10, 5, 11, 12, 13] (by kernel_rfl) (by kernel_rfl) (Keep.refl _) ?_
            repeat (apply Rel.ordK_step (by rfl) (by rfl) (by rfl)
                    · intro W' hW'
                      have c0 := (BA.but hW' NB.out).cells
                      go_simp
                      exact ⟨rfl, Keep.refl _⟩
                    go_simp)
            apply Rel.ordK_loose (by rfl) (by rfl) (by rfl)
            intro W1 hW1
            go_simp
            apply Rel.gives_enter
            go_at_call 11
            have I1 := I0.out.keep hW1
            have LI : Lies W1 (.slice bad X bcs) xs (fun _ => False) := by rw [HX.out]; exact HO4.out.keep I1.kp
            refine (dstore_u at_ o2 _ xs HO5.out I1.d (by rw [HX.out]; exact HO4.out.apart I1.kp (fun z hz => (I1.own z hz).1))).mono ?_
            rintro e w2' ⟨u, rfl, hu, hD2, hB2⟩
            obtain ⟨hR2, hK2, hBB2⟩ := I1.devTurn hB2
            refine ⟨u, rfl, hBB2, ?_⟩
            have OW := Lib.hid I1.own
            have BN_ := Lib.hid I1.bnd
            have LE := Lib.hid I1.len
            have HD2 := Lib.hid hD2
            have HR2 := Lib.hid hR2
            have HK2 := Lib.hid hK2
            have HU2 := Lib.hid hu
            clear hu hD2 hB2 hR2 hK2 hBB2 I1 LI hW1
            go_simp
            apply Rel.ordK_loose (by rfl) (by rfl) (by rfl)
            intro W3 hW3
            go_simp
            apply Rel.gives_enter
            go_at_call 12
            refine (rstore_u p gb gt N M bs ts at_ o2 _ xs HO5.out HXL.out W3 (HR2.out.keep hW3) (by rw [HX.out]; exact HO4.out.apart (HK2.out.trans hW3) (fun z hz => by rcases hz with rfl | rfl; exact BN_.out.2.1; exact BN_.out.2.2))).mono ?_
            rintro e w4' ⟨rfl, hR4, hB4⟩
            obtain ⟨hD4, hBB4⟩ := PInv.refTurn (HD2.out.keep hW3) (fun z hz => (OW.out z hz).2.2) hB4
            refine ⟨_, rfl, hBB4, ?_⟩
            have I4 : PInv W w4' p gb gt N M dm O _ _ := ⟨hD4, hR4, by rw [storeB_length]; exact LE.out, OW.out, BN_.out, (HK2.out.trans hW3).butNew hB4 (fun z hz => by rcases hz with rfl | rfl; exact BN_.out.2.1; exact BN_.out.2.2)⟩
            have HI4 := Lib.hid I4
            have HU4 := Lib.hid ((HU2.out.keep hW3).butRef (HR2.out.keep hW3) hB4)
            clear I4 hR4 hB4 hD4 hBB4 hW3 HD2 HR2 HK2 HU2
            go_simp
            apply Rel.ordK_loose (by rfl) (by rfl) (by rfl)
            intro W5 hW5
            go_simp
            apply Rel.gives_enter
            go_at_call 10
            refine (tells_any u _ W5 (HU4.out.keep hW5) (HE.out.keep (HI4.out.kp.trans hW5))).mono ?_
            rintro e w6' ⟨rfl, hk6⟩
            refine ⟨_, rfl, hk6.but _, ?_⟩
            have HI6 := Lib.hid ((HI4.out.keep hW5).keep hk6)
            clear HI4 HU4 hW5 hk6
            go_simp
            repeat (apply Rel.ordK_step (by rfl) (by rfl) (by rfl)
                    · intro W' hW'
                      skip
                      go_simp
                      exact ⟨rfl, Keep.refl _⟩
                    go_simp)
            apply Rel.ordK_end
            intro W7 hW7
            have HI7 := Lib.hid (HI6.out.keep hW7)
            clear HI6 hW7
            go_wp2_with fail
            exact ⟨⟨k + 1, dm, O, _, _, h, by simp, rfl, HI7.out⟩, by simp [intOf]; omega⟩
        · as_aux_lemma =>
            go_wp2_with fail
            refine Rel.regionO (KeepBut (Both O gb gt)) (butWay _) [5, 12, 13] [0, 1, 2, 3, 4, 6, 7, 8, 9, 10, 5, 11, 12, 13, 14] (by kernel_rfl) (by kernel_rfl) (Keep.refl _) ?_
            repeat (apply Rel.ordK_step (by rfl) (by rfl) (by rfl)
                    · intro W' hW'
                      have c0 := (BA.but hW' NB.out).cells
                      go_simp
                      exact ⟨rfl, Keep.refl _⟩
                    go_simp)
            apply Rel.ordK_loose (by rfl) (by rfl) (by rfl)
            intro W1 hW1
            go_simp
            apply Rel.gives_enter
            go_at_call 13
            have I1 := I0.out.keep hW1
            refine (dstoreCap_u at_ o2 t cb_ cp ca cm cy o7 o8 o9 o10 o11 I1.d (HE.out.keep I1.kp)).mono ?_
            rintro e w2' ⟨u, rfl, hu, hD2, hB2⟩
            obtain ⟨hR2, hK2, hBB2⟩ := I1.devTurn hB2
            refine ⟨u, rfl, hBB2, ?_⟩
            have OW := Lib.hid I1.own
            have BN_ := Lib.hid I1.bnd
            have LE := Lib.hid I1.len
            have HD2 := Lib.hid hD2
            have HR2 := Lib.hid hR2
            have HK2 := Lib.hid hK2
            have HU2 := Lib.hid hu
            clear hu hD2 hB2 hR2 hK2 hBB2 I1 hW1
            go_simp
            repeat (apply Rel.ordK_step (by rfl) (by rfl) (by rfl)
                    · intro W' hW'
                      go_simp
                      apply yes_enter; go_at_call 15; refine (of_any _ _ _ _ _ _ _).mono ?_; rintro e w' ⟨rfl, hk⟩; exact ⟨rfl, hk⟩
                    go_simp)
            apply Rel.ordK_loose (by rfl) (by rfl) (by rfl)
            intro W3 hW3
            go_simp
            apply Rel.gives_enter
            go_at_call 14
            refine (rstoreCap_u p gb gt N M bs ts at_ o2 t cb_ cp ca cm cy o7 o8 o9 o10 o11 W3 (HR2.out.keep hW3)).mono ?_
            rintro e w4' ⟨rfl, hR4, hB4⟩
            obtain ⟨hD4, hBB4⟩ := PInv.refTurn (HD2.out.keep hW3) (fun z hz => (OW.out z hz).2.2) hB4
            refine ⟨_, rfl, hBB4, ?_⟩
            have I4 : PInv W w4' p gb gt N M dm O _ _ := ⟨hD4, hR4, by rw [scapB_length]; exact LE.out, OW.out, BN_.out, (HK2.out.trans hW3).butNew hB4 (fun z hz => by rcases hz with rfl | rfl; exact BN_.out.2.1; exact BN_.out.2.2)⟩
            have HI4 := Lib.hid I4
            have HU4 := Lib.hid ((HU2.out.keep hW3).butRef (HR2.out.keep hW3) hB4)
            clear I4 hR4 hB4 hD4 hBB4 hW3 HD2 HR2 HK2 HU2
            go_simp
            apply Rel.ordK_loose (by rfl) (by rfl) (by rfl)
            intro W5 hW5
            go_simp
            apply Rel.gives_enter
            go_at_call 10
            refine (tells_any u _ W5 (HU4.out.keep hW5) (HE.out.keep (HI4.out.kp.trans hW5))).mono ?_
            rintro e w6' ⟨rfl, hk6⟩
            refine ⟨_, rfl, hk6.but _, ?_⟩
            have HI6 := Lib.hid ((HI4.out.keep hW5).keep hk6)
            clear HI4 HU4 hW5 hk6
            go_simp
            repeat (apply Rel.ordK_step (by rfl) (by rfl) (by rfl)
                    · intro W' hW'
                      skip
                      go_simp
                      exact ⟨rfl, Keep.refl _⟩
                    go_simp)
            apply Rel.ordK_end
            intro W7 hW7
            have HI7 := Lib.hid (HI6.out.keep hW7)
            clear HI6 hW7
            go_wp2_with fail
            exact ⟨⟨k + 1, dm, O, _, _, h, by simp, rfl, HI7.out⟩, by simp [intOf]; omega⟩
        · as_aux_lemma =>
            go_wp2_with fail
            obtain ⟨pt, wx, wy, hw⟩ : ∃ pt x y, loadV bs.length at_ n = wrongV pt x y := by unfold loadV; split <;> exact ⟨_, _, _, rfl⟩
            have HW := Lib.hid hw
            clear hw
            refine (dload_u at_ n o2 o3 I0.out.d).mono ?_
            rintro e w5 ⟨s, u, rfl, hu, hs5, hk5⟩
            rw [HW.out] at hu
            have I5 := Lib.hid (I0.out.keep hk5)
            have U5 := Lib.hid hu
            have S5 := Lib.hid hs5
            obtain ⟨sad, scs, rfl, -, -, -⟩ := hs5
            have BA5 := BA.keep hk5
            have c5 := BA5.cells
            clear hk5 hu
            go_wp2_with fail
            have CR := rload_u p gb gt N M bs ts at_ n o2 o3 _ I5.out.r
            rw [HW.out] at CR
            unfold wrongV at CR
            refine CR.mono ?_
            clear CR
            rintro e w6 ⟨s', rfl, hs6, hk6⟩
            have I6 := Lib.hid (I5.out.keep hk6)
            have U6 := Lib.hid (U5.out.keep hk6)
            have S6 := Lib.hid (S5.out.keep hk6)
            have T6 := Lib.hid hs6
            obtain ⟨tad, tcs, rfl, -, -, -⟩ := hs6
            obtain ⟨SS, hSS⟩ : ∃ SS, SS = strOfNums (loadL bs at_ n) := ⟨_, rfl⟩
            have CV1 := Lib.hid (fun W' (k : Keep w6 W') => conv_lies (S6.out.keep k))
            have CV2 := Lib.hid (fun W' (k : Keep w6 W') => conv_lies (T6.out.keep k))
            have CT := Lib.hid (fun W' (k : Keep w6 W') => tells_any u (wrongV pt wx wy) W' (U6.out.keep k) (HE.out.keep (I6.out.kp.trans k)))
            rw [← hSS] at CV1 CV2
            unfold wrongV at CT
            clear hSS hk6 c5 I5 U5 S5 S6 T6
            go_wp2_with fail
            refine (CT.out _ ((Keep.refl _).alloc _)).mono ?_
            rintro e w7 ⟨rfl, hk7⟩
            have e1 := fun W' (k : Keep w7 W') => CV1.out W' ((((Keep.refl _).alloc _).trans hk7).trans k)
            have e2 := fun W' (k : Keep w7 W') => CV2.out W' ((((Keep.refl _).alloc _).trans hk7).trans k)
            have E1 := e1 w7 (Keep.refl _)
            have E2 := e2 w7 (Keep.refl _)
            have HI7 := Lib.hid ((I6.out.keep ((Keep.refl _).alloc _)).keep hk7)
            clear hk7 CV1 CV2 CT e1 e2
            go_wp2_with fail
            exact ⟨⟨k + 1, dm, O, _, _, h, by simp, rfl, HI7.out⟩, by simp [intOf]; omega⟩
        · as_aux_lemma =>
            go_wp2_with fail
            obtain ⟨pt, wx, wy, hw⟩ : ∃ pt x y, granV bs.length at_ = wrongV pt x y := by unfold granV; split; split; all_goals exact ⟨_, _, _, rfl⟩
            obtain ⟨z0, z1, z2, z3, z4, z5, hv, hr⟩ : ∃ (z0 : Bool) (z1 z2 z3 z4 z5 : Int), lcapV bs ts at_ = .agg #[.bool z0, .int .u32 z1, .int .u32 z2, .int .u32 z3, .int .u16 z4, .int .u16 z5] ∧ loadCapV bs ts at_ = .tuple #[lcapV bs ts at_, granV bs.length at_] := by
              unfold lcapV loadCapV granV
              by_cases q1 : reachB at_ 16 bs.length = true
              · by_cases q2 : at_ % 16 = 0
                · rw [if_pos q1, if_pos q1, if_pos q2, if_pos q2, if_pos q1, if_pos q2]; exact ⟨_, _, _, _, _, _, rfl, rfl⟩
                · rw [if_pos q1, if_pos q1, if_neg q2, if_neg q2, if_pos q1, if_neg q2]; exact ⟨_, _, _, _, _, _, rfl, rfl⟩
              · rw [if_neg q1, if_neg q1, if_neg q1]; exact ⟨_, _, _, _, _, _, rfl, rfl⟩
            rw [hv, hw] at hr
            have HW := Lib.hid hw
            have HV := Lib.hid hv
            have HR_ := Lib.hid hr
            clear hw hv hr
            refine (dloadCap_any at_ o2 I0.out.d (HE.out.keep I0.out.kp)).mono ?_
            rintro e w5 ⟨hk5, u, rfl, hu⟩
            rw [HW.out] at hu
            rw [HV.out]
            have I5 := Lib.hid (I0.out.keep hk5)
            have U5 := Lib.hid hu
            have BA5 := (BA.keep hk5).alloc (.cells #[.bool z0, .int .u32 z1, .int .u32 z2, .int .u32 z3, .int .u16 z4, .int .u16 z5] 39)
            have c5 := BA5.cells
            have BC5 : Box (w5.alloc (.cells #[.bool z0, .int .u32 z1, .int .u32 z2, .int .u32 z3, .int .u16 z4, .int .u16 z5] 39)) w5.heap.size #[.bool z0, .int .u32 z1, .int .u32 z2, .int .u32 z3, .int .u16 z4, .int .u16 z5] := Box.new _ _ _
            have cA5 := (BA.keep hk5).cells
            have lA5 := (BA.keep hk5).lt
            clear hk5 hu
            go_wp2_with fail
            have I5' := Lib.hid (I5.out.keep ((Keep.refl _).alloc (.cells #[.bool z0, .int .u32 z1, .int .u32 z2, .int .u32 z3, .int .u16 z4, .int .u16 z5] 39)))
            have CR := rloadCap_any p gb gt N M bs ts at_ o2 _ I5'.out.r
            rw [HR_.out] at CR
            unfold wrongV at CR
            refine CR.mono ?_
            clear CR
            rintro e w6 ⟨rfl, hk6⟩
            have I6 := Lib.hid (I5'.out.keep hk6)
            have U6 := Lib.hid ((U5.out.keep ((Keep.refl _).alloc (.cells #[.bool z0, .int .u32 z1, .int .u32 z2, .int .u32 z3, .int .u16 z4, .int .u16 z5] 39))).keep hk6)
            have BC6 := BC5.keep hk6
            have lB6 := BC6.lt
            have CT := Lib.hid (fun W' (k : Keep w6 W') => tells_any u (wrongV pt wx wy) W' (U6.out.keep k) (HE.out.keep (I6.out.kp.trans k)))
            unfold wrongV at CT
            clear hk6 c5 I5 I5' U5 BC5 BA5 cA5 lA5 U6
            go_wp2_with fail
            have hE := fun W' => eqin_rcap z0 z1 z2 z3 z4 z5 W'
            refine region_grows (Keep _) (by kernel_rfl) (by kernel_rfl) (Keep.refl _).drew ?_
            repeat (first
              | (apply text_pass (by rfl)
                 go_simp)
              | (apply text_step (by rfl)
                 · intro W' hW'
                   have c1 := (((BC6.alloc _).alloc _).keep hW').cells
                   have c2 := (((Box.new w6 #[.bool z0, .int .u32 z1, .int .u32 z2, .int .u32 z3, .int .u16 z4, .int .u16 z5] 46).alloc _).keep hW').cells
                   have c3 := ((Box.new1 w6 _ #[.string pt, .int .i64 wx, .int .i64 wy] 31).keep hW').cells
                   go_simp
                   first
                    | exact ⟨rfl, hW'⟩
                    | (apply yes_enter; go_at_call 10; with_reducible refine (CT.out _ ((((Keep.refl _).alloc _).alloc _).trans hW')).mono ?_; rintro e w' ⟨rfl, hk⟩; exact ⟨rfl, hW'.trans hk⟩)
                    | (apply yes_enter; go_at_call 15; refine (of_any _ _ _ _ _ _ _).mono ?_; rintro e w' ⟨rfl, hk⟩; exact ⟨rfl, hW'.trans hk⟩)
                 go_simp))
            apply text_end
            intro W7 hW7
            have HI7 := Lib.hid ((I6.out.keep (((Keep.refl _).alloc _).alloc _)).keep hW7)
            clear hW7 CT
            go_wp2_with fail
            exact ⟨⟨k + 1, dm, O, _, _, h, by simp, rfl, HI7.out⟩, by simp [intOf]; omega⟩
        · as_aux_lemma =>
            have hd1 := dec_or ((N : Int) < n)
            have hd2 := dec_or (0 ≤ n)
            rcases hd1 with ⟨d1, q1⟩ | ⟨d1, q1⟩
            · obtain ⟨Q, hQE⟩ : ∃ Q : Nat, (Q : Int) = (N : Int) + 1 := ⟨N + 1, by omega⟩
              have HQE := Lib.hid hQE
              have hQ : Q ≤ 65537 := by omega
              clear hQE
              have HQ := Lib.hid hQ
              obtain ⟨pt, wx, wy, hw⟩ : ∃ pt x y, loadV bs.length at_ (Q : Int) = wrongV pt x y := by unfold loadV; split <;> exact ⟨_, _, _, rfl⟩
              have HWV := Lib.hid hw
              have hmk := run_make_row' (P := Tryd.prog) 35 5 (.int .u8 0) 1 Tryd.underlying35 infoU8 rfl .i64 .i64 Q (by omega) (by omega)
              clear hw
              go_wp2_with fail
              rw [← HQE.out]
              obtain ⟨w5, hw5⟩ : ∃ w5, w5 = (wr.alloc (.cells #[.int .i64 5, .int .i64 at_, .int .i64 n, .slice bad X bcs, .bool t, .int .u32 cb_, .int .u32 cp, .int .u32 ca, .int .u16 cm, .int .u16 cy] 41)).alloc (.cells #[.string ⟨#[109, 101, 109]⟩, .int .i64 at_, .int .i64 6] 31) := ⟨_, rfl⟩
              have BA5 : Box w5 wr.heap.size #[.int .i64 5, .int .i64 at_, .int .i64 n, .slice bad X bcs, .bool t, .int .u32 cb_, .int .u32 cp, .int .u32 ca, .int .u16 cm, .int .u16 cy] := by rw [hw5]; exact BA.alloc _
              have BW5 : Box w5 (wr.heap.size + 1) #[.string ⟨#[109, 101, 109]⟩, .int .i64 at_, .int .i64 6] := by rw [hw5]; exact Box.new1 _ _ _ _
              have k5 : Keep (wr.alloc (.cells #[.int .i64 5, .int .i64 at_, .int .i64 n, .slice bad X bcs, .bool t, .int .u32 cb_, .int .u32 cp, .int .u32 ca, .int .u16 cm, .int .u16 cy] 41)) w5 := by rw [hw5]; exact (Keep.refl _).alloc _
              have I5 := Lib.hid (I0.out.keep k5)
              have NO : Hid (¬ O wr.heap.size ∧ ¬ O (wr.heap.size + 1)) := Lib.hid ⟨fun ho => by have := HI.out.d.lt _ ho; omega, fun ho => by have := HI.out.d.lt _ ho; omega⟩
              have NG : Hid (¬ ownsM gb gt wr.heap.size ∧ ¬ ownsM gb gt (wr.heap.size + 1) ∧ p < wr.heap.size) := Lib.hid (by
                have h1 := HI.out.r.bytes.lt
                have h2 := HI.out.r.tags.lt
                have h3 := HI.out.r.box.lt
                refine ⟨?_, ?_, h3⟩ <;> (rintro (h4 | h4) <;> omega))
              rw [← hw5]
              clear hw5 k5
              have NT : Hid (¬ (Both O gb gt wr.heap.size ∨ wr.heap.size = wr.heap.size + 1)) := Lib.hid (fun hh => hh.elim (fun h => NB.out h) (fun h => by omega))
              refine Rel.regionO (KeepBut (fun z => Both O gb gt z ∨ z = wr.heap.size + 1)) (butWay _) [4, 5, 6] [0, 1, 2, 3, 4, 5, 6] (by kernel_rfl) (by kernel_rfl) (Keep.refl _) ?_
              repeat (apply Rel.ordK_step (by rfl) (by rfl) (by rfl)
                      · intro W' hW'
                        have c0 := (BA5.but hW' NT.out).cells
                        go_simp
                        exact ⟨rfl, Keep.refl _⟩
                      go_simp)
              apply Rel.ordK_loose (by rfl) (by rfl) (by rfl)
              intro W1 hW1
              go_simp
              apply Rel.gives_value
              refine ⟨((Keep.refl _).alloc _).but _, ?_⟩
              have I1 := I5.out.keep hW1
              have LZ := Lib.hid (made_lies W1 Q (by omega) (ownsM gb gt) (fun hh => by have := I1.r.bytes.lt; have := I1.r.tags.lt; rcases hh with h | h <;> omega))
              have I2 := Lib.hid (I1.keep ((Keep.refl _).alloc (.cells (madeCells #[.int .u8 0] Q) 5)))
              have BA2 := (BA5.keep hW1).alloc (.cells (madeCells #[.int .u8 0] Q) 5)
              have BW2 := (BW5.keep hW1).alloc (.cells (madeCells #[.int .u8 0] Q) 5)
              clear I1 hW1 BA5 BW5 I5
              go_simp
              apply Rel.ordK_loose (by rfl) (by rfl) (by rfl)
              intro W3 hW3
              go_simp
              apply Rel.gives_enter
              go_at_call 12
              have CR := rstore_u p gb gt N M bs ts at_ o2 _ (List.replicate Q 0) (fun z hz => by rw [(List.mem_replicate.1 hz).2]; unfold IsByte; decide) (by rw [List.length_replicate]; omega) W3 (I2.out.r.keep hW3) (LZ.out.keep hW3)
              rw [(store_zero bs ts at_ Q).1, (store_zero bs ts at_ Q).2.1, (store_zero bs ts at_ Q).2.2, HWV.out] at CR
              unfold wrongV at CR
              refine CR.mono ?_
              clear CR
              rintro e w4' ⟨rfl, hR4, hB4⟩
              obtain ⟨hD4, hBB4⟩ := PInv.refTurn (I2.out.d.keep hW3) (fun z hz => (I2.out.own z hz).2.2) hB4
              refine ⟨_, rfl, hBB4.mono (fun z _ hz => .inl hz), ?_⟩
              have BA4 := (BA2.keep hW3).but hB4 NG.out.1
              have BW4 := (BW2.keep hW3).but hB4 NG.out.2.1
              have D4' := Lib.hid hD4
              have R4' := Lib.hid hR4
              have K4' := Lib.hid ((I2.out.kp.trans hW3).butNew hB4 (fun z hz => by rcases hz with rfl | rfl; exact HI.out.bnd.2.1; exact HI.out.bnd.2.2))
              clear hD4 hR4 hB4 hBB4 hW3 BA2 BW2 I2 LZ
              go_simp
              apply Rel.ordK_loose (by rfl) (by rfl) (by rfl)
              intro W6 hW6
              have BW6 := BW4.keep hW6
              have c6 := BW6.cells
              have f6 := BW6.thawed
              go_simp
              apply Rel.gives_skip
              have KS := Lib.hid (((((KeepBut.refl (fun z => z = wr.heap.size + 1) W6).setCell (p := ⟨wr.heap.size + 1, 0, none⟩) (.inl rfl) (.string pt)).setCell (p := ⟨wr.heap.size + 1, 1, none⟩) (.inl rfl) (.int .i64 wx)).setCell (p := ⟨wr.heap.size + 1, 2, none⟩) (.inl rfl) (.int .i64 wy)))
              refine ⟨KS.out.mono (fun z _ hz => .inr hz), ?_⟩
              have BW7 : Box (((W6.setCell ⟨wr.heap.size + 1, 0, none⟩ (.string pt)).setCell ⟨wr.heap.size + 1, 1, none⟩ (.int .i64 wx)).setCell ⟨wr.heap.size + 1, 2, none⟩ (.int .i64 wy)) (wr.heap.size + 1) #[.string pt, .int .i64 wx, .int .i64 wy] := ((BW6.set 0 (.string pt)).set 1 (.int .i64 wx)).set 2 (.int .i64 wy)
              have BA7 := (BA4.keep hW6).but KS.out (by omega)
              have D7 := Lib.hid ((D4'.out.keep hW6).but KS.out (fun z hz he => NO.out.2 (by rw [← he]; exact hz)))
              have R7 := Lib.hid ((R4'.out.keep hW6).but KS.out (fun he => by have := NG.out.2.2; omega) (fun he => NG.out.2.1 (.inl he.symm)) (fun he => NG.out.2.1 (.inr he.symm)))
              have K7 := Lib.hid ((K4'.out.trans hW6).butNew KS.out (fun z hz => by have := HI.out.kp.size; omega))
              clear c6 f6 hW6 BW6 BA4 BW4 D4' R4' K4' KS
              go_simp
              apply Rel.ordK_end
              intro w8 hk8
              have BA8 := BA7.keep hk8
              have BW8 := BW7.keep hk8
              have I8d := Lib.hid (D7.out.keep hk8)
              have I8r := Lib.hid (R7.out.keep hk8)
              have K8 := Lib.hid (K7.out.trans hk8)
              clear BA7 BW7 D7 R7 K7 hk8
              go_wp2_with fail
              refine Rel.regionO (KeepBut O) (butWay _) [4, 6] [0, 1, 2, 3, 5, 4, 6, 7] (by kernel_rfl) (by kernel_rfl) (Keep.refl _) ?_
              repeat (apply Rel.ordK_step (by rfl) (by rfl) (by rfl)
                      · intro W' hW'
                        have c0 := (BA8.but hW' NO.out.1).cells
                        have c1 := (BW8.but hW' NO.out.2).cells
                        go_simp
                        exact ⟨rfl, Keep.refl _⟩
                      go_simp)
              apply Rel.ordK_loose (by rfl) (by rfl) (by rfl)
              intro W9 hW9
              go_simp
              apply Rel.gives_enter
              go_at_call 20
              refine (dzero_u at_ (Q : Int) o2 (by unfold In64; omega) (I8d.out.keep hW9)).mono ?_
              rintro e w10 ⟨u, rfl, hu, hD10, hB10⟩
              refine ⟨u, rfl, hB10, ?_⟩
              rw [HWV.out] at hu
              have OW := Lib.hid HI.out.own
              have BN_ := Lib.hid HI.out.bnd
              have hRb : RMem w10 p gb gt N M (zeroB bs at_ (Q : Int)) (zeroT bs.length ts at_ (Q : Int)) := (I8r.out.keep hW9).but hB10 (fun hp => (OW.out _ hp).2.1 rfl) (fun hp => (OW.out _ hp).2.2.1 rfl) (fun hp => (OW.out _ hp).2.2.2 rfl)
              have I10 : PInv W w10 p gb gt N M dm O (zeroB bs at_ (Q : Int)) (zeroT bs.length ts at_ (Q : Int)) := ⟨hD10, hRb, by rw [zeroB_length]; exact HI.out.len, OW.out, BN_.out, (K8.out.trans hW9).butNew hB10 (fun z hz => (OW.out z hz).1)⟩
              have HI10 := Lib.hid I10
              have U10 := Lib.hid hu
              have CT := Lib.hid (fun W' (k : Keep w10 W') => tells_any u (wrongV pt wx wy) W' (U10.out.keep k) (HE.out.keep (HI10.out.kp.trans k)))
              unfold wrongV at CT
              clear hu hD10 hB10 hW9 I10
              go_simp
              apply Rel.ordK_loose (by rfl) (by rfl) (by rfl)
              intro W11 hW11
              go_simp
              apply Rel.gives_enter
              go_at_call 10
              refine (CT.out W11 hW11).mono ?_
              rintro e w12 ⟨rfl, hk12⟩
              refine ⟨_, rfl, hk12.but _, ?_⟩
              have HI12 := Lib.hid ((HI10.out.keep hW11).keep hk12)
              clear hW11 hk12 CT
              go_simp
              repeat (apply Rel.ordK_step (by rfl) (by rfl) (by rfl)
                      · intro W' hW'
                        go_simp
                        exact ⟨rfl, Keep.refl _⟩
                      go_simp)
              apply Rel.ordK_end
              intro W13 hW13
              have HI13 := Lib.hid (HI12.out.keep hW13)
              clear HI12 hW13
              go_wp2_with fail
              exact ⟨⟨k + 1, dm, O, _, _, h, by simp, rfl, HI13.out⟩, by simp [intOf]; omega⟩
            · rcases hd2 with ⟨d2, q2⟩ | ⟨d2, q2⟩
              · obtain ⟨Q, rfl⟩ := Int.eq_ofNat_of_zero_le q2
                have hQ : Q ≤ 65537 := by omega
                have HQ := Lib.hid hQ
                obtain ⟨pt, wx, wy, hw⟩ : ∃ pt x y, loadV bs.length at_ (Q : Int) = wrongV pt x y := by unfold loadV; split <;> exact ⟨_, _, _, rfl⟩
                have HWV := Lib.hid hw
                have hmk := run_make_row' (P := Tryd.prog) 35 5 (.int .u8 0) 1 Tryd.underlying35 infoU8 rfl .i64 .i64 Q (by omega) (by omega)
                clear hw
                go_wp2_with fail
                obtain ⟨w5, hw5⟩ : ∃ w5, w5 = (wr.alloc (.cells #[.int .i64 5, .int .i64 at_, .int .i64 (Q : Int), .slice bad X bcs, .bool t, .int .u32 cb_, .int .u32 cp, .int .u32 ca, .int .u16 cm, .int .u16 cy] 41)).alloc (.cells #[.string ⟨#[109, 101, 109]⟩, .int .i64 at_, .int .i64 6] 31) := ⟨_, rfl⟩
                have BA5 : Box w5 wr.heap.size #[.int .i64 5, .int .i64 at_, .int .i64 (Q : Int), .slice bad X bcs, .bool t, .int .u32 cb_, .int .u32 cp, .int .u32 ca, .int .u16 cm, .int .u16 cy] := by rw [hw5]; exact BA.alloc _
                have BW5 : Box w5 (wr.heap.size + 1) #[.string ⟨#[109, 101, 109]⟩, .int .i64 at_, .int .i64 6] := by rw [hw5]; exact Box.new1 _ _ _ _
                have k5 : Keep (wr.alloc (.cells #[.int .i64 5, .int .i64 at_, .int .i64 (Q : Int), .slice bad X bcs, .bool t, .int .u32 cb_, .int .u32 cp, .int .u32 ca, .int .u16 cm, .int .u16 cy] 41)) w5 := by rw [hw5]; exact (Keep.refl _).alloc _
                have I5 := Lib.hid (I0.out.keep k5)
                have NO : Hid (¬ O wr.heap.size ∧ ¬ O (wr.heap.size + 1)) := Lib.hid ⟨fun ho => by have := HI.out.d.lt _ ho; omega, fun ho => by have := HI.out.d.lt _ ho; omega⟩
                have NG : Hid (¬ ownsM gb gt wr.heap.size ∧ ¬ ownsM gb gt (wr.heap.size + 1) ∧ p < wr.heap.size) := Lib.hid (by
                  have h1 := HI.out.r.bytes.lt
                  have h2 := HI.out.r.tags.lt
                  have h3 := HI.out.r.box.lt
                  refine ⟨?_, ?_, h3⟩ <;> (rintro (h4 | h4) <;> omega))
                rw [← hw5]
                clear hw5 k5
                have NT : Hid (¬ (Both O gb gt wr.heap.size ∨ wr.heap.size = wr.heap.size + 1)) := Lib.hid (fun hh => hh.elim (fun h => NB.out h) (fun h => by omega))
                refine Rel.regionO (KeepBut (fun z => Both O gb gt z ∨ z = wr.heap.size + 1)) (butWay _) [4, 5, 6] [0, 1, 2, 3, 4, 5, 6] (by kernel_rfl) (by kernel_rfl) (Keep.refl _) ?_
                repeat (apply Rel.ordK_step (by rfl) (by rfl) (by rfl)
                        · intro W' hW'
                          have c0 := (BA5.but hW' NT.out).cells
                          go_simp
                          exact ⟨rfl, Keep.refl _⟩
                        go_simp)
                apply Rel.ordK_loose (by rfl) (by rfl) (by rfl)
                intro W1 hW1
                go_simp
                apply Rel.gives_value
                refine ⟨((Keep.refl _).alloc _).but _, ?_⟩
                have I1 := I5.out.keep hW1
                have LZ := Lib.hid (made_lies W1 Q (by omega) (ownsM gb gt) (fun hh => by have := I1.r.bytes.lt; have := I1.r.tags.lt; rcases hh with h | h <;> omega))
                have I2 := Lib.hid (I1.keep ((Keep.refl _).alloc (.cells (madeCells #[.int .u8 0] Q) 5)))
                have BA2 := (BA5.keep hW1).alloc (.cells (madeCells #[.int .u8 0] Q) 5)
                have BW2 := (BW5.keep hW1).alloc (.cells (madeCells #[.int .u8 0] Q) 5)
                clear I1 hW1 BA5 BW5 I5
                go_simp
                apply Rel.ordK_loose (by rfl) (by rfl) (by rfl)
                intro W3 hW3
                go_simp
                apply Rel.gives_enter
                go_at_call 12
                have CR := rstore_u p gb gt N M bs ts at_ o2 _ (List.replicate Q 0) (fun z hz => by rw [(List.mem_replicate.1 hz).2]; unfold IsByte; decide) (by rw [List.length_replicate]; omega) W3 (I2.out.r.keep hW3) (LZ.out.keep hW3)
                rw [(store_zero bs ts at_ Q).1, (store_zero bs ts at_ Q).2.1, (store_zero bs ts at_ Q).2.2, HWV.out] at CR
                unfold wrongV at CR
                refine CR.mono ?_
                clear CR
                rintro e w4' ⟨rfl, hR4, hB4⟩
                obtain ⟨hD4, hBB4⟩ := PInv.refTurn (I2.out.d.keep hW3) (fun z hz => (I2.out.own z hz).2.2) hB4
                refine ⟨_, rfl, hBB4.mono (fun z _ hz => .inl hz), ?_⟩
                have BA4 := (BA2.keep hW3).but hB4 NG.out.1
                have BW4 := (BW2.keep hW3).but hB4 NG.out.2.1
                have D4' := Lib.hid hD4
                have R4' := Lib.hid hR4
                have K4' := Lib.hid ((I2.out.kp.trans hW3).butNew hB4 (fun z hz => by rcases hz with rfl | rfl; exact HI.out.bnd.2.1; exact HI.out.bnd.2.2))
                clear hD4 hR4 hB4 hBB4 hW3 BA2 BW2 I2 LZ
                go_simp
                apply Rel.ordK_loose (by rfl) (by rfl) (by rfl)
                intro W6 hW6
                have BW6 := BW4.keep hW6
                have c6 := BW6.cells
                have f6 := BW6.thawed
                go_simp
                apply Rel.gives_skip
                have KS := Lib.hid (((((KeepBut.refl (fun z => z = wr.heap.size + 1) W6).setCell (p := ⟨wr.heap.size + 1, 0, none⟩) (.inl rfl) (.string pt)).setCell (p := ⟨wr.heap.size + 1, 1, none⟩) (.inl rfl) (.int .i64 wx)).setCell (p := ⟨wr.heap.size + 1, 2, none⟩) (.inl rfl) (.int .i64 wy)))
                refine ⟨KS.out.mono (fun z _ hz => .inr hz), ?_⟩
                have BW7 : Box (((W6.setCell ⟨wr.heap.size + 1, 0, none⟩ (.string pt)).setCell ⟨wr.heap.size + 1, 1, none⟩ (.int .i64 wx)).setCell ⟨wr.heap.size + 1, 2, none⟩ (.int .i64 wy)) (wr.heap.size + 1) #[.string pt, .int .i64 wx, .int .i64 wy] := ((BW6.set 0 (.string pt)).set 1 (.int .i64 wx)).set 2 (.int .i64 wy)
                have BA7 := (BA4.keep hW6).but KS.out (by omega)
                have D7 := Lib.hid ((D4'.out.keep hW6).but KS.out (fun z hz he => NO.out.2 (by rw [← he]; exact hz)))
                have R7 := Lib.hid ((R4'.out.keep hW6).but KS.out (fun he => by have := NG.out.2.2; omega) (fun he => NG.out.2.1 (.inl he.symm)) (fun he => NG.out.2.1 (.inr he.symm)))
                have K7 := Lib.hid ((K4'.out.trans hW6).butNew KS.out (fun z hz => by have := HI.out.kp.size; omega))
                clear c6 f6 hW6 BW6 BA4 BW4 D4' R4' K4' KS
                go_simp
                apply Rel.ordK_end
                intro w8 hk8
                have BA8 := BA7.keep hk8
                have BW8 := BW7.keep hk8
                have I8d := Lib.hid (D7.out.keep hk8)
                have I8r := Lib.hid (R7.out.keep hk8)
                have K8 := Lib.hid (K7.out.trans hk8)
                clear BA7 BW7 D7 R7 K7 hk8
                go_wp2_with fail
                refine Rel.regionO (KeepBut O) (butWay _) [4, 6] [0, 1, 2, 3, 5, 4, 6, 7] (by kernel_rfl) (by kernel_rfl) (Keep.refl _) ?_
                repeat (apply Rel.ordK_step (by rfl) (by rfl) (by rfl)
                        · intro W' hW'
                          have c0 := (BA8.but hW' NO.out.1).cells
                          have c1 := (BW8.but hW' NO.out.2).cells
                          go_simp
                          exact ⟨rfl, Keep.refl _⟩
                        go_simp)
                apply Rel.ordK_loose (by rfl) (by rfl) (by rfl)
                intro W9 hW9
                go_simp
                apply Rel.gives_enter
                go_at_call 20
                refine (dzero_u at_ (Q : Int) o2 (by unfold In64; omega) (I8d.out.keep hW9)).mono ?_
                rintro e w10 ⟨u, rfl, hu, hD10, hB10⟩
                refine ⟨u, rfl, hB10, ?_⟩
                rw [HWV.out] at hu
                have OW := Lib.hid HI.out.own
                have BN_ := Lib.hid HI.out.bnd
                have hRb : RMem w10 p gb gt N M (zeroB bs at_ (Q : Int)) (zeroT bs.length ts at_ (Q : Int)) := (I8r.out.keep hW9).but hB10 (fun hp => (OW.out _ hp).2.1 rfl) (fun hp => (OW.out _ hp).2.2.1 rfl) (fun hp => (OW.out _ hp).2.2.2 rfl)
                have I10 : PInv W w10 p gb gt N M dm O (zeroB bs at_ (Q : Int)) (zeroT bs.length ts at_ (Q : Int)) := ⟨hD10, hRb, by rw [zeroB_length]; exact HI.out.len, OW.out, BN_.out, (K8.out.trans hW9).butNew hB10 (fun z hz => (OW.out z hz).1)⟩
                have HI10 := Lib.hid I10
                have U10 := Lib.hid hu
                have CT := Lib.hid (fun W' (k : Keep w10 W') => tells_any u (wrongV pt wx wy) W' (U10.out.keep k) (HE.out.keep (HI10.out.kp.trans k)))
                unfold wrongV at CT
                clear hu hD10 hB10 hW9 I10
                go_simp
                apply Rel.ordK_loose (by rfl) (by rfl) (by rfl)
                intro W11 hW11
                go_simp
                apply Rel.gives_enter
                go_at_call 10
                refine (CT.out W11 hW11).mono ?_
                rintro e w12 ⟨rfl, hk12⟩
                refine ⟨_, rfl, hk12.but _, ?_⟩
                have HI12 := Lib.hid ((HI10.out.keep hW11).keep hk12)
                clear hW11 hk12 CT
                go_simp
                repeat (apply Rel.ordK_step (by rfl) (by rfl) (by rfl)
                        · intro W' hW'
                          go_simp
                          exact ⟨rfl, Keep.refl _⟩
                        go_simp)
                apply Rel.ordK_end
                intro W13 hW13
                have HI13 := Lib.hid (HI12.out.keep hW13)
                clear HI12 hW13
                go_wp2_with fail
                exact ⟨⟨k + 1, dm, O, _, _, h, by simp, rfl, HI13.out⟩, by simp [intOf]; omega⟩
              · skip
                have hz := zero_neg bs ts at_ n (by omega)
                have HWV : Hid (loadV bs.length at_ n = wrongV ⟨#[109, 101, 109]⟩ at_ 6) := Lib.hid (by rw [hz.1]; rfl)
                have HZ := Lib.hid hz
                clear hz
                go_wp2_with fail
                obtain ⟨w8, hw8⟩ : ∃ w8, w8 = (wr.alloc (.cells #[.int .i64 5, .int .i64 at_, .int .i64 n, .slice bad X bcs, .bool t, .int .u32 cb_, .int .u32 cp, .int .u32 ca, .int .u16 cm, .int .u16 cy] 41)).alloc (.cells #[.string ⟨#[109, 101, 109]⟩, .int .i64 at_, .int .i64 6] 31) := ⟨_, rfl⟩
                have BA8 : Box w8 wr.heap.size #[.int .i64 5, .int .i64 at_, .int .i64 n, .slice bad X bcs, .bool t, .int .u32 cb_, .int .u32 cp, .int .u32 ca, .int .u16 cm, .int .u16 cy] := by rw [hw8]; exact BA.alloc _
                have BW8 : Box w8 (wr.heap.size + 1) #[.string ⟨#[109, 101, 109]⟩, .int .i64 at_, .int .i64 6] := by rw [hw8]; exact Box.new1 _ _ _ _
                have k8 : Keep (wr.alloc (.cells #[.int .i64 5, .int .i64 at_, .int .i64 n, .slice bad X bcs, .bool t, .int .u32 cb_, .int .u32 cp, .int .u32 ca, .int .u16 cm, .int .u16 cy] 41)) w8 := by rw [hw8]; exact (Keep.refl _).alloc _
                have I8d := Lib.hid ((I0.out.keep k8).d)
                have I8r := Lib.hid ((I0.out.keep k8).r)
                have K8 := Lib.hid ((I0.out.keep k8).kp)
                have NO : Hid (¬ O wr.heap.size ∧ ¬ O (wr.heap.size + 1)) := Lib.hid ⟨fun ho => by have := HI.out.d.lt _ ho; omega, fun ho => by have := HI.out.d.lt _ ho; omega⟩
                rw [← hw8]
                clear hw8 k8
                refine Rel.regionO (KeepBut O) (butWay _) [4, 6] [0, 1, 2, 3, 5, 4, 6, 7] (by kernel_rfl) (by kernel_rfl) (Keep.refl _) ?_
                repeat (apply Rel.ordK_step (by rfl) (by rfl) (by rfl)
                        · intro W' hW'
                          have c0 := (BA8.but hW' NO.out.1).cells
                          have c1 := (BW8.but hW' NO.out.2).cells
                          go_simp
                          exact ⟨rfl, Keep.refl _⟩
                        go_simp)
                apply Rel.ordK_loose (by rfl) (by rfl) (by rfl)
                intro W9 hW9
                go_simp
                apply Rel.gives_enter
                go_at_call 20
                refine (dzero_u at_ n o2 (by unfold In64; omega) (I8d.out.keep hW9)).mono ?_
                rintro e w10 ⟨u, rfl, hu, hD10, hB10⟩
                refine ⟨u, rfl, hB10, ?_⟩
                rw [HWV.out] at hu
                have OW := Lib.hid HI.out.own
                have BN_ := Lib.hid HI.out.bnd
                have hRb : RMem w10 p gb gt N M bs ts := (I8r.out.keep hW9).but hB10 (fun hp => (OW.out _ hp).2.1 rfl) (fun hp => (OW.out _ hp).2.2.1 rfl) (fun hp => (OW.out _ hp).2.2.2 rfl)
                have I10 : PInv W w10 p gb gt N M dm O (zeroB bs at_ n) (zeroT bs.length ts at_ n) := ⟨hD10, (by rw [HZ.out.2.1, HZ.out.2.2]; exact hRb), by rw [zeroB_length]; exact HI.out.len, OW.out, BN_.out, (K8.out.trans hW9).butNew hB10 (fun z hz => (OW.out z hz).1)⟩
                have HI10 := Lib.hid I10
                have U10 := Lib.hid hu
                have CT := Lib.hid (fun W' (k : Keep w10 W') => tells_any u (wrongV ⟨#[109, 101, 109]⟩ at_ 6) W' (U10.out.keep k) (HE.out.keep (HI10.out.kp.trans k)))
                unfold wrongV at CT
                clear hu hD10 hB10 hW9 I10
                go_simp
                apply Rel.ordK_loose (by rfl) (by rfl) (by rfl)
                intro W11 hW11
                go_simp
                apply Rel.gives_enter
                go_at_call 10
                refine (CT.out W11 hW11).mono ?_
                rintro e w12 ⟨rfl, hk12⟩
                refine ⟨_, rfl, hk12.but _, ?_⟩
                have HI12 := Lib.hid ((HI10.out.keep hW11).keep hk12)
                clear hW11 hk12 CT
                go_simp
                repeat (apply Rel.ordK_step (by rfl) (by rfl) (by rfl)
                        · intro W' hW'
                          go_simp
                          exact ⟨rfl, Keep.refl _⟩
                        go_simp)
                apply Rel.ordK_end
                intro W13 hW13
                have HI13 := Lib.hid (HI12.out.keep hW13)
                clear HI12 hW13
                go_wp2_with fail
                exact ⟨⟨k + 1, dm, O, _, _, h, by simp, rfl, HI13.out⟩, by simp [intOf]; omega⟩
        · as_aux_lemma =>
            go_wp2_with fail
            refine (dtwin_any I0.out.d).mono ?_
            rintro e w5 ⟨dm', O', rfl, hD5, hk5, hO5⟩
            have I5 := Lib.hid (I0.out.keep hk5)
            have D5 := Lib.hid hD5
            have B5 := Lib.hid hO5
            clear hD5 hk5 hO5
            unfold ptrV
            have CS := Lib.hid (fun W' (k : Keep w5 W') => dsame_any (D5.out.keep k) (I5.out.d.keep k))
            simp only [decide_true, Bool.and_true] at CS
            unfold ptrV at CS
            go_wp2_with fail
            refine (CS.out _ (Keep.refl _)).mono ?_
            rintro e w6 ⟨rfl, hk6⟩
            have I6 := Lib.hid (I5.out.keep hk6)
            have D6 := Lib.hid (D5.out.keep hk6)
            clear hk6 CS
            go_wp2_with fail
            refine (dzero_any 0 (N : Int) (by unfold In64; omega) (by unfold In64; omega) I6.out.d).mono ?_
            rintro e w7 ⟨u, rfl, hz⟩
            have hB : KeepBut O w6 w7 := by
              rcases hz with ⟨_, _, hk⟩ | ⟨_, _, _, hk⟩
              · exact hk.but _
              · exact hk
            have hn' : ∀ z, O' z → (I0.out.kp.trans (Keep.refl _)).size = (I0.out.kp.trans (Keep.refl _)).size := fun _ _ => rfl
            obtain ⟨hR7, hK7, _⟩ := I6.out.devTurn hB
            have L6 := I0.out.r.bytes.lt
            have L7 := I0.out.r.tags.lt
            have L8 := I0.out.r.box.lt
            have L9 := I0.out.kp.size
            have I7 : PInv W w7 p gb gt N M dm' O' bs ts := ⟨D6.out.but hB (fun b h1 h2 => by have := B5.out b h1; have := I0.out.d.lt b h2; omega), hR7, I6.out.len, fun z hz => by have := B5.out z hz; omega, I6.out.bnd, hK7⟩
            have HI7 := Lib.hid I7
            clear hz hB hn' hR7 hK7 I7 I5 D5 I6 D6 B5 L6 L7 L8 L9
            go_wp2_with fail
            exact ⟨⟨k + 1, dm', O', _, _, h, by simp, rfl, HI7.out⟩, by simp [intOf]; omega⟩
        · as_aux_lemma =>
            have hd1 := dec_or (0 ≤ at_)
            have hd2 := dec_or (at_ < (N : Int))
            have LN := HI.out.len
            have LT_ := HI.out.r.len
            have CT := Lib.hid (fun W' (k : Keep _ W') => dtag_any at_ o2 (I0.out.d.keep k))
            rw [LN] at CT
            unfold ptrV at CT
            have RB := I0.out.r.box
            have RT := I0.out.r.tags
            have rl := RB.lt
            rcases hd1 with ⟨d1, q1⟩ | ⟨d1, q1⟩
            · rcases hd2 with ⟨d2, q2⟩ | ⟨d2, q2⟩
              · obtain ⟨A, rfl⟩ := Int.eq_ofNat_of_zero_le q1
                have a1 : A / 16 < ts.length := by omega
                have a0 : (0 : Int) ≤ (A : Int) / 16 := by omega
                have a3 : (A : Int) / 16 < (ts.length : Int) := by omega
                have a2 : ((A : Int) / 16).toNat = A / 16 := by omega
                have wA : IntKind.i64.wrap ((A : Int) / 16) = (A : Int) / 16 := by rw [IntKind.wrap_i64]; omega
                have rt := RT.cells (A / 16)
                rw [show (bls ts)[A / 16]? = some (.bool (ts.getD (A / 16) false)) from by simp [bls, List.getD_eq_getElem?_getD, List.getElem?_eq_getElem a1]] at rt
                obtain ⟨tt, htt⟩ : ∃ tt, tt = ts.getD (A / 16) false := ⟨_, rfl⟩
                rw [d1, d2, Int.toNat_natCast, Bool.true_and, Bool.true_and, ← htt] at CT
                rw [← htt] at rt
                clear htt
                go_wp2_with fail
                refine region_grows (Keep _) (by kernel_rfl) (by kernel_rfl) (Keep.refl _).drew ?_
                repeat (first
                  | (apply text_pass (by rfl)
                     go_simp)
                  | (apply text_step (by rfl)
                     · intro W' hW'
                       have c1 := (BA.keep hW').cells
                       have c2 := (RB.keep hW').cells
                       rw [LN] at c2
                       have c3 := hW'.cellOf rt
                       go_simp
                       exact ⟨rfl, hW'⟩
                     go_simp))
                apply text_end
                intro W6 hW6
                have c6 := (BA.keep hW6).cells
                have l6 := (BA.keep hW6).lt
                go_wp2_with fail
                refine (CT.out _ hW6).mono ?_
                rintro e w7 ⟨rfl, hk7⟩
                have HI7 := Lib.hid ((I0.out.keep hW6).keep hk7)
                clear hW6 hk7 CT c6 l6
                go_wp2_with fail
                exact ⟨⟨k + 1, dm, O, _, _, h, by simp, rfl, HI7.out⟩, by simp [intOf]; omega⟩
              · rw [d2, Bool.and_false, Bool.false_and] at CT
                go_wp2_with fail
                refine region_grows (Keep _) (by kernel_rfl) (by kernel_rfl) (Keep.refl _).drew ?_
                repeat (first
                  | (apply text_pass (by rfl)
                     go_simp)
                  | (apply text_step (by rfl)
                     · intro W' hW'
                       have c1 := (BA.keep hW').cells
                       have c2 := (RB.keep hW').cells
                       rw [LN] at c2
                       skip
                       go_simp
                       exact ⟨rfl, hW'⟩
                     go_simp))
                apply text_end
                intro W6 hW6
                have c6 := (BA.keep hW6).cells
                have l6 := (BA.keep hW6).lt
                go_wp2_with fail
                refine (CT.out _ hW6).mono ?_
                rintro e w7 ⟨rfl, hk7⟩
                have HI7 := Lib.hid ((I0.out.keep hW6).keep hk7)
                clear hW6 hk7 CT c6 l6
                go_wp2_with fail
                exact ⟨⟨k + 1, dm, O, _, _, h, by simp, rfl, HI7.out⟩, by simp [intOf]; omega⟩
            · rw [d1, Bool.false_and, Bool.false_and] at CT
              go_wp2_with fail
              refine region_grows (Keep _) (by kernel_rfl) (by kernel_rfl) (Keep.refl _).drew ?_
              repeat (first
                | (apply text_pass (by rfl)
                   go_simp)
                | (apply text_step (by rfl)
                   · intro W' hW'
                     have c1 := (BA.keep hW').cells
                     have c2 := (RB.keep hW').cells
                     rw [LN] at c2
                     skip
                     go_simp
                     exact ⟨rfl, hW'⟩
                   go_simp))
              apply text_end
              intro W6 hW6
              have c6 := (BA.keep hW6).cells
              have l6 := (BA.keep hW6).lt
              go_wp2_with fail
              refine (CT.out _ hW6).mono ?_
              rintro e w7 ⟨rfl, hk7⟩
              have HI7 := Lib.hid ((I0.out.keep hW6).keep hk7)
              clear hW6 hk7 CT c6 l6
              go_wp2_with fail
              exact ⟨⟨k + 1, dm, O, _, _, h, by simp, rfl, HI7.out⟩, by simp [intOf]; omega⟩
        · as_aux_lemma =>
            have b1 : (op == 1) = false := by simpa using g1
            have b2 : (op == 2) = false := by simpa using g2
            have b3 : (op == 3) = false := by simpa using g3
            have b4 : (op == 4) = false := by simpa using g4
            have b5 : (op == 5) = false := by simpa using g5
            have b6 : (op == 6) = false := by simpa using g6
            have b7 : (op == 7) = false := by simpa using g7
            go_wp2_with fail
            exact ⟨⟨k + 1, dm, O, bs, ts, h, by simp, rfl, I0.out⟩, by simp [intOf]; omega⟩
      · obtain rfl : k = len := by omega
        have hpos : 0 < bs.length := by rw [HI.out.len]; omega
        go_wp2_with fail
        refine (same_any HI.out.d HI.out.r hpos).mono ?_
        rintro e w5 ⟨rfl, hk5⟩
        go_wp2_with fail
        go_ret
        exact ⟨rfl, HI.out.kp.trans hk5⟩
  · obtain ⟨n, hn⟩ : ∃ n : Int, (size < 16 ∨ 65536 < size) ∧ n = 6 ∨ (16 ≤ size ∧ size ≤ 65536) ∧ ¬ size % 16 = 0 ∧ n = 5 := by
      by_cases h1 : size < 16 ∨ 65536 < size
      · exact ⟨6, .inl ⟨h1, rfl⟩⟩
      · refine ⟨5, .inr ⟨by omega, fun h2 => hbad ?_, rfl⟩⟩
        simp [sizeOk, h2]
        omega
    refine (dnew_bad size hs n hn _ (HE.out.keep K1.out)).mono ?_
    rintro e w2 ⟨v, rfl, hv, hk2⟩
    go_wp2_with fail
    refine (rnew_bad size hs n hn _).mono ?_
    rintro e w3 ⟨rfl, hk3⟩
    have K3 := Lib.hid ((K1.out.trans hk2).trans hk3)
    have V3 := Lib.hid (hv.keep hk3)
    clear hv hk2 hk3
    unfold sizeV at *
    go_wp2_with fail
    refine (tells_any v (.agg #[.string ⟨#[115, 105, 122, 101]⟩, .int .i64 size, .int .i64 n]) _ (V3.out.keep ((Keep.refl _).alloc _)) (HE.out.keep (K3.out.alloc _))).mono ?_
    rintro e w4 ⟨rfl, hk4⟩
    have K4 := Lib.hid ((K3.out.alloc _).trans hk4)
    clear hk4 V3 K3
    go_wp2_with fail
    go_ret
    exact ⟨rfl, K4.out⟩
end Go.Proofs.YtnnelghngekbpaaDoor
