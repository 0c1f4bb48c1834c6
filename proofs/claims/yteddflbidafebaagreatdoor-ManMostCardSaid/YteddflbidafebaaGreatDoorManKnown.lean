/- hasplaw17's known, over what the program's man is to answer. -/
import Derived.Test.YteddflbidafebaaGreatDoorManC
import Derived.Test.YteddflbidafebaaGreatDoorGTell
import Derived.Test.YteddflbidafebaaGreatDoorGBase
namespace Go.Proofs.YteddflbidafebaaGreatDoor
set_option linter.unusedVariables false
set_option linter.unusedSimpArgs false
open Go.RowKit
set_option maxHeartbeats 4000000 in
set_option maxRecDepth 100000 in
theorem mknown_any {Pre : World → Prop} (hPre : OPreOk Pre) (hP : PManParse Pre) (hT : PManText) (hI : PManIndex) (hC : PManCheck Pre) (w : World) (hW : Pre w) :
    Calls Tryz.prog 4 #[] w fun e w' => e = .returned (.bool true) ∧ Keep w w' := by
  have HPre := Lib.hid hPre
  have HW := Lib.hid hW
  have C1 := Lib.hid (hP (bsL kManT) w (by decide) hW)
  have C2 := Lib.hid (fun W (k : Keep w W) => hP (bsL kMan2) W (by decide) (HPre.out.keep HW.out k))
  have C3 := Lib.hid (fun W (k : Keep w W) => hP (bsL kMan3) W (by decide) (HPre.out.keep HW.out k))
  have HT := Lib.hid hT
  have HI := Lib.hid hI
  have HC := Lib.hid hC
  clear hPre hP hT hI hC hW
  go_enter Tryz.func4, Tryz.ntmps4
  go_wp2_with fail
  refine C1.out.mono ?_
  rintro e w1 ⟨hk, m, vc, vi, vs, vg, u, rfl, hM, hu, hm⟩
  obtain rfl : m = kMan := hm _ kMan_parse
  obtain rfl : u = .nilIface := hu.good (by rw [manPW_ok kMan_parse]; rfl)
  obtain ⟨b1, o1, cap1, rfl, hcap1, n32⟩ := hM.comps.cellOf compRow_length (i := 1) (j := 1) (t := ⟨bsL [98], 32⟩) rfl rfl
  obtain ⟨b2, o2, cap2, rfl, hcap2, n3⟩ := hM.grns.cellOf grnRow_length (i := 0) (j := 2) (t := ⟨bsL [97], bsL [115], 3⟩) rfl rfl
  obtain ⟨pi, ci, rfl, _, _, _⟩ := hM.imps
  obtain ⟨ps, cs, rfl, _, _, _⟩ := hM.shrs
  have HM := Lib.hid hM
  have K1 := Lib.hid hk
  clear hm hu hM hk C1
  have hc1 : 2 ≤ cap1 := hcap1
  have hc2 : 1 ≤ cap2 := hcap2
  have n32a := Lib.hid n32
  have n3a := Lib.hid n3
  clear hcap1 hcap2 n32 n3
  unfold manVal
  rw [show kMan.comps.length = 2 from rfl, show kMan.imps.length = 1 from rfl, show kMan.shrs.length = 1 from rfl, show kMan.grns.length = 1 from rfl, show kMan.start.comp = bsL [] from rfl, show kMan.start.from_ = bsL [97] from rfl, show kMan.start.name = bsL [109, 97, 105, 110] from rfl]
  obtain ⟨W1, hW1⟩ : ∃ W1, W1 = w1.alloc (.cells #[.slice (some ⟨b1, o1, none⟩) 2 cap1, .slice pi 1 ci, .slice ps 1 cs, .slice (some ⟨b2, o2, none⟩) 1 cap2, .string (bsL []), .string (bsL [97]), .string (bsL [109, 97, 105, 110])] 34) := ⟨_, rfl⟩
  have BM : Hid (Box W1 w1.heap.size #[.slice (some ⟨b1, o1, none⟩) 2 cap1, .slice pi 1 ci, .slice ps 1 cs, .slice (some ⟨b2, o2, none⟩) 1 cap2, .string (bsL []), .string (bsL [97]), .string (bsL [109, 97, 105, 110])]) := Lib.hid (by rw [hW1]; exact Box.new _ _ _)
  have KA : Hid (Keep w1 W1) := Lib.hid (by rw [hW1]; exact (Keep.refl _).alloc _)
  have KW1 := Lib.hid (K1.out.trans KA.out)
  obtain ⟨mb, hmb⟩ : ∃ mb, mb = w1.heap.size := ⟨_, rfl⟩
  go_wp2_with fail
  rw [← hW1, ← hmb]
  rw [← hmb] at BM
  clear hW1 hmb
  refine (C2.out _ KW1.out).mono ?_
  rintro e w2 ⟨hk, m2, vc, vi, vs, vg, u2, rfl, hM2, hu, _⟩
  obtain ⟨pa2, ca2, rfl, _, _, _⟩ := hM2.comps
  obtain ⟨pb2, cb2, rfl, _, _, _⟩ := hM2.imps
  obtain ⟨pc2, cc2, rfl, _, _, _⟩ := hM2.shrs
  obtain ⟨pd2, cd2, rfl, _, _, _⟩ := hM2.grns
  rw [manPW_err kMan2_parse] at hu
  have HU2 := Lib.hid hu
  obtain ⟨q2, rfl⟩ := hu.bad (by decide)
  have KW2 := Lib.hid (KA.out.trans hk)
  have KB2 := Lib.hid hk
  obtain ⟨l21, h21⟩ : ∃ l, l = m2.comps.length := ⟨_, rfl⟩
  obtain ⟨l22, h22⟩ : ∃ l, l = m2.imps.length := ⟨_, rfl⟩
  obtain ⟨l23, h23⟩ : ∃ l, l = m2.shrs.length := ⟨_, rfl⟩
  obtain ⟨l24, h24⟩ : ∃ l, l = m2.grns.length := ⟨_, rfl⟩
  unfold manVal
  rw [← h21, ← h22, ← h23, ← h24]
  clear hk hu hM2 h21 h22 h23 h24
  have K3a := Lib.hid ((KW1.out.trans KB2.out).alloc (.cells #[.slice pa2 l21 ca2, .slice pb2 l22 cb2, .slice pc2 l23 cc2, .slice pd2 l24 cd2, .string m2.start.comp, .string m2.start.from_, .string m2.start.name] 34))
  go_wp2_with fail
  refine (C3.out _ K3a.out).mono ?_
  rintro e w3 ⟨hk, m3, vc, vi, vs, vg, u3, rfl, hM3, hu, _⟩
  obtain ⟨pa3, ca3, rfl, _, _, _⟩ := hM3.comps
  obtain ⟨pb3, cb3, rfl, _, _, _⟩ := hM3.imps
  obtain ⟨pc3, cc3, rfl, _, _, _⟩ := hM3.shrs
  obtain ⟨pd3, cd3, rfl, _, _, _⟩ := hM3.grns
  rw [manPW_err kMan3_parse] at hu
  have HU3a := Lib.hid hu
  obtain ⟨q3, rfl⟩ := hu.bad (by decide)
  obtain ⟨l31, h31⟩ : ∃ l, l = m3.comps.length := ⟨_, rfl⟩
  obtain ⟨l32, h32⟩ : ∃ l, l = m3.imps.length := ⟨_, rfl⟩
  obtain ⟨l33, h33⟩ : ∃ l, l = m3.shrs.length := ⟨_, rfl⟩
  obtain ⟨l34, h34⟩ : ∃ l, l = m3.grns.length := ⟨_, rfl⟩
  unfold manVal
  rw [← h31, ← h32, ← h33, ← h34]
  clear h31 h32 h33 h34 hM3 hu
  obtain ⟨W4, hW4⟩ : ∃ W4, W4 = w3.alloc (.cells #[.slice pa3 l31 ca3, .slice pb3 l32 cb3, .slice pc3 l33 cc3, .slice pd3 l34 cd3, .string m3.start.comp, .string m3.start.from_, .string m3.start.name] 34) := ⟨_, rfl⟩
  have k34 : Keep w3 W4 := by rw [hW4]; exact (Keep.refl _).alloc _
  have k24 : Keep w2 W4 := (((Keep.refl _).alloc _).trans hk).trans k34
  have HU2' := Lib.hid (ErrV.keep HU2.out k24)
  have HU3 := Lib.hid (ErrV.keep HU3a.out k34)
  have k1 : Keep W1 W4 := KB2.out.trans k24
  have BM4 := Lib.hid (BM.out.keep k1)
  have HM4 := Lib.hid (HM.out.keep (KA.out.trans k1))
  have KW4 := Lib.hid (KW1.out.trans k1)
  have N32 := Lib.hid (((KA.out.trans (KB2.out.trans k24)).cellOf n32a.out))
  have N3 := Lib.hid (((KA.out.trans (KB2.out.trans k24)).cellOf n3a.out))
  have hst : (bsL kManT).toList = [99, 111, 109, 112, 32, 97, 32, 54, 52, 10, 99, 111, 109, 112, 32, 98, 32, 51, 50, 10, 105, 109, 112, 111, 114, 116, 32, 97, 32, 98, 32, 102, 10, 115, 104, 97, 114, 101, 32, 115, 32, 49, 54, 10, 103, 114, 97, 110, 116, 32, 97, 32, 115, 32, 114, 119, 10, 115, 116, 97, 114, 116, 32, 97, 32, 109, 97, 105, 110, 10] := by rw [ByteArray.toList_eq]; rfl
  clear hk k34 k24 k1 HU2 HU3a
  subst hW4
  have cM := BM4.out.cells
  go_wp2_with fail
  refine (HT.out kMan _ _ _ _ _ HM4.out kMan_may kMan_check (by decide +kernel) (by decide +kernel) (by decide +kernel)).mono ?_
  rintro e V1 ⟨rfl, hk⟩
  rw [kMan_text]
  have HV1 := Lib.hid hk
  clear hk cM
  have cM := (BM4.out.keep HV1.out).cells
  have d32 := HV1.out.cellOf N32.out
  have d3 := HV1.out.cellOf N3.out
  simp only [Nat.one_mul, Nat.zero_mul, Nat.zero_add, Nat.reduceAdd] at d32 d3
  go_wp2_with fail
  refine (HI.out kMan _ _ _ _ (bsL [98]) V1 (HM4.out.keep HV1.out) kMan_may (by decide)).mono ?_
  rintro e V2 ⟨rfl, hk⟩
  rw [kMan_b]
  have HV2 := Lib.hid (HV1.out.trans hk)
  clear hk cM d32 d3
  have cM := (BM4.out.keep HV2.out).cells
  go_wp2_with fail
  refine (HI.out kMan _ _ _ _ (bsL [99]) V2 (HM4.out.keep HV2.out) kMan_may (by decide)).mono ?_
  rintro e V3 ⟨rfl, hk⟩
  rw [kMan_c]
  have HV3 := Lib.hid (HV2.out.trans hk)
  clear hk cM
  have cM := (BM4.out.keep HV3.out).cells
  go_wp2_with fail
  refine (tells_any _ _ V3 (ErrV.keep HU2'.out HV3.out) (HPre.out.errT (HPre.out.keep HW.out (KW4.out.trans HV3.out)))).mono ?_
  rintro e V4 ⟨rfl, hk⟩
  have HV4 := Lib.hid (HV3.out.trans hk)
  clear hk cM
  have cM := (BM4.out.keep HV4.out).cells
  go_wp2_with fail
  refine (tells_any _ _ V4 (ErrV.keep HU3.out HV4.out) (HPre.out.errT (HPre.out.keep HW.out (KW4.out.trans HV4.out)))).mono ?_
  rintro e V5 ⟨rfl, hk⟩
  have HV5 := Lib.hid (HV4.out.trans hk)
  clear hk cM
  have cM := (BM4.out.keep HV5.out).cells
  go_wp2_with fail
  refine (HC.out kMan _ _ _ _ V5 (HM4.out.keep HV5.out) kMan_may (HPre.out.keep HW.out (KW4.out.trans HV5.out))).mono ?_
  rintro e V6 ⟨hk, u, rfl, hu⟩
  obtain rfl : u = .nilIface := hu.good (by rw [kMan_check]; rfl)
  have HV6 := Lib.hid (KW4.out.trans (HV5.out.trans hk))
  clear hk hu cM
  go_wp2_with fail
  go_ret
  exact ⟨rfl, HV6.out⟩
end Go.Proofs.YteddflbidafebaaGreatDoor
