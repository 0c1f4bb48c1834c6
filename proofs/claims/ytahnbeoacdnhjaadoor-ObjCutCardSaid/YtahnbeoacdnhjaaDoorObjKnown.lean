/- hasplaw15's known, over what the program's obj answers. -/
import Derived.Test.YtahnbeoacdnhjaaDoorObjC
import Derived.Test.YtahnbeoacdnhjaaDoorObjCutW
namespace Go.Proofs.YtahnbeoacdnhjaaDoor
set_option linter.unusedVariables false
set_option linter.unusedSimpArgs false
open Go.RowKit
theorem kNum : ObjNum kObj := by
  refine ⟨by decide, by decide, fun s hs => ?_, fun r hr => ?_, fun r hr => ?_⟩
  · simp only [kObj, List.mem_cons, List.not_mem_nil, or_false] at hs; subst hs; exact ⟨by decide, by decide⟩
  · simp only [kObj, List.mem_cons, List.not_mem_nil, or_false] at hr; subst hr; exact ⟨by decide, by decide⟩
  · simp only [kObj, List.mem_cons, List.not_mem_nil, or_false] at hr; subst hr; exact ⟨by decide, by decide, by decide, by decide⟩
theorem kFew : ObjFew kObj := by
  refine ⟨by decide, by decide, by decide, by decide, by decide, fun s hs => ?_, fun r hr => ?_, fun r hr => ?_⟩
  · simp only [kObj, List.mem_cons, List.not_mem_nil, or_false] at hs; subst hs; decide
  · simp only [kObj, List.mem_cons, List.not_mem_nil, or_false] at hr; subst hr; decide
  · simp only [kObj, List.mem_cons, List.not_mem_nil, or_false] at hr; subst hr; decide
theorem kNum1 : ObjNum kObj1 := ⟨kNum.code, kNum.data, kNum.syms, kNum.kinds, kNum.rels⟩
theorem kFew1 : ObjFew kObj1 := ⟨by decide, kFew.code, kFew.data, kFew.syms, kFew.rels, kFew.symN, kFew.relC, kFew.relN⟩
theorem kNe : kObj ≠ kObj1 := fun h => by
  have := congrArg ObjV.name h
  revert this
  decide
/-- The world behind known's literals. -/
def kWorld (w : World) : World := (((((w.alloc (.cells #[.int .u8 0, .int .u8 0, .int .u8 0, .int .u8 67] 5)).alloc (.cells #[.int .u8 0, .int .u8 0, .int .u8 0, .int .u8 0, .int .u8 0, .int .u8 0, .int .u8 0, .int .u8 0, .int .u8 0, .int .u8 0, .int .u8 0, .int .u8 0, .int .u8 0, .int .u8 0, .int .u8 0, .int .u8 0] 5)).alloc (.cells #[.string ⟨#[102]⟩, .bool false, .int .u32 0, .bool true] 47)).alloc (.cells #[.int .i64 1, .int .u32 0, .string ⟨#[]⟩, .string ⟨#[102]⟩, .int .u16 5] 49)).alloc (.cells #[.string ⟨#[97]⟩, .slice (some ⟨w.heap.size, 0, none⟩) 4 4, .slice (some ⟨w.heap.size + 1, 0, none⟩) 16 16, .slice (some ⟨w.heap.size + 1 + 1, 0, none⟩) 1 1, .slice (some ⟨w.heap.size + 1 + 1 + 1, 0, none⟩) 1 1] 26))
theorem kKeep (w : World) : Keep w (kWorld w) := (((((Keep.refl _).alloc _).alloc _).alloc _).alloc _).alloc _
theorem kBox (w : World) : Box (kWorld w) (w.heap.size + 1 + 1 + 1 + 1) #[.string ⟨#[97]⟩, .slice (some ⟨w.heap.size, 0, none⟩) 4 4, .slice (some ⟨w.heap.size + 1, 0, none⟩) 16 16, .slice (some ⟨w.heap.size + 1 + 1, 0, none⟩) 1 1, .slice (some ⟨w.heap.size + 1 + 1 + 1, 0, none⟩) 1 1] := obox_at _ _ _ _ (by simp)
theorem kAt (w : World) : ObjAt (kWorld w) kObj (.slice (some ⟨w.heap.size, 0, none⟩) 4 4) (.slice (some ⟨w.heap.size + 1, 0, none⟩) 16 16) (.slice (some ⟨w.heap.size + 1 + 1, 0, none⟩) 1 1) (.slice (some ⟨w.heap.size + 1 + 1 + 1, 0, none⟩) 1 1) := by
  refine ⟨⟨_, _, rfl, by decide, by decide, box_cells ((((obox_at _ _ _ _ (by simp)).alloc _).alloc _).alloc _ |>.alloc _) rfl⟩, ⟨_, _, rfl, by decide, by decide, box_cells (((obox_at _ _ _ _ (by simp)).alloc _).alloc _ |>.alloc _) rfl⟩,
    ⟨_, _, rfl, by decide, by decide, box_cells ((obox_at _ _ _ _ (by simp)).alloc _ |>.alloc _) rfl⟩, ⟨_, _, rfl, by decide, by decide, box_cells ((obox_at _ _ _ _ (by simp)).alloc _) rfl⟩⟩
theorem kOk : ObjOk kObj := objW_ok (by rw [kW]; rfl) kNum.syms kNum.rels
theorem kAs1 {w : World} {vc vd vs vr : Value} (h : ObjAt w kObj vc vd vs vr) : ObjAt w kObj1 vc vd vs vr := ⟨h.code, h.data, h.syms, h.rels⟩
theorem omk16 (w : World) : (Instr.makeSlice 22 (.int .i64 16) (.int .i64 16)).run Tryd.prog w = .ok (.slice (some ⟨w.heap.size, 0, none⟩) 16 16) (w.alloc (.cells #[.int .u8 0, .int .u8 0, .int .u8 0, .int .u8 0, .int .u8 0, .int .u8 0, .int .u8 0, .int .u8 0, .int .u8 0, .int .u8 0, .int .u8 0, .int .u8 0, .int .u8 0, .int .u8 0, .int .u8 0, .int .u8 0] 5)) := by kernel_rfl
set_option maxHeartbeats 4000000 in
set_option maxRecDepth 100000 in
theorem oknown_any {Pre : World → Prop} (hP : OPreOk Pre) (hE : PObjEncode Pre) (hD : PObjDecode Pre) (hF : PObjFind) (hS : PObjSame) (hC : PObjCheck Pre) (hN : PObjName) (w : World) (hp : Pre w) :
    Calls Tryd.prog 4 #[] w fun e w' => e = .returned (.bool true) ∧ Keep w w' := by
  have HP := Lib.hid hp
  have HH := Lib.hid hP
  have HE := Lib.hid hE
  have HD := Lib.hid hD
  have HF := Lib.hid hF
  have HS := Lib.hid hS
  have HC := Lib.hid hC
  have HN := Lib.hid hN
  have mk := omk16
  clear hp hP hE hD hF hS hC hN
  go_enter Tryd.func4, Tryd.ntmps4
  go_wp2_with fail
  have NM : kObj.name = ⟨#[97]⟩ := rfl
  have NM1 : kObj1.name = ⟨#[49]⟩ := rfl
  have C1 := HE.out kObj _ _ _ _ _ (kAt w) kNum kFew (HH.out.keep HP.out (kKeep w))
  simp only [objVal, NM] at C1
  unfold kWorld at C1
  refine C1.mono ?_
  clear C1
  rintro e w1 ⟨hk1, p, n, cap, u, rfl, hu, hs⟩
  obtain rfl := hu.good (by rw [kW]; rfl)
  obtain ⟨hn, hsl⟩ := hs (by rw [kW]; rfl)
  rw [kLen] at hn
  subst hn
  have K1 : Hid (Keep (kWorld w) w1) := Lib.hid hk1
  have hc61 : 61 ≤ cap := by
    obtain ⟨_, _, e, h1, _⟩ := hsl
    simp only [Value.slice.injEq, true_and] at e
    omega
  have SL := Lib.hid hsl
  have HK1 := Lib.hid (HH.out.keep HP.out ((kKeep w).trans K1.out))
  have L256 := Lib.hid (encL_lt kNum kOk kFew).1
  have C2 := Lib.hid (HD.out _ (encL kObj) w1 (by rw [kLen]; exact SL.out) L256.out (by rw [kLen]; decide) HK1.out)
  clear hk1 hu hs hsl
  go_wp2_with fail
  refine C2.out.mono ?_
  rintro e w2 ⟨hk2, o2, a1, a2, a3, a4, u2, rfl, ho2, hu2, hy2⟩
  obtain rfl := hy2 _ kBack
  obtain rfl := hu2.good (by unfold decW; rw [kBack]; rfl)
  have K2 := Lib.hid (K1.out.trans hk2)
  have SL2 := Lib.hid (SL.out.keep hk2)
  obtain ⟨e1, d1, rfl, _, _, _⟩ := ho2.code
  obtain ⟨e2, d2, rfl, _, _, _⟩ := ho2.data
  obtain ⟨e3, d3, rfl, _, _, _⟩ := ho2.syms
  obtain ⟨e4, d4, rfl, _, _, _⟩ := ho2.rels
  have HO2 := Lib.hid ho2
  simp only [objVal, NM]
  clear hk2 C2 ho2 hu2 hy2
  have K2a : Hid (Keep (kWorld w) (w2.alloc (.cells #[.string ⟨#[97]⟩, .slice e1 kObj.code.length d1, .slice e2 kObj.data.length d2, .slice e3 kObj.syms.length d3, .slice e4 kObj.rels.length d4] 26))) := Lib.hid (K2.out.alloc _)
  have P2 : Hid (Box (w2.alloc (.cells #[.string ⟨#[97]⟩, .slice e1 kObj.code.length d1, .slice e2 kObj.data.length d2, .slice e3 kObj.syms.length d3, .slice e4 kObj.rels.length d4] 26)) w2.heap.size #[.string ⟨#[97]⟩, .slice e1 kObj.code.length d1, .slice e2 kObj.data.length d2, .slice e3 kObj.syms.length d3, .slice e4 kObj.rels.length d4]) := Lib.hid (Box.new _ _ _)
  have SL7 := SL2.out.take (m := 7) (by decide)
  rw [← List.map_take] at SL7
  have C3 := Lib.hid (HD.out _ ((encL kObj).take 7) _ (by
    rw [show ((encL kObj).take 7).length = 7 by rw [List.length_take, kLen]; rfl]
    exact SL7.keep ((Keep.refl _).alloc (.cells #[.string ⟨#[97]⟩, .slice e1 kObj.code.length d1, .slice e2 kObj.data.length d2, .slice e3 kObj.syms.length d3, .slice e4 kObj.rels.length d4] 26))) (fun x hx => L256.out x (List.mem_of_mem_take hx)) (by rw [List.length_take, kLen]; decide) (HH.out.keep HP.out ((kKeep w).trans K2a.out)))
  clear SL7
  go_wp2_with fail
  refine C3.out.mono ?_
  rintro e w3 ⟨hk3, o3, a1, a2, a3, a4, u3, rfl, ho3, hu3, _⟩
  have K3 := Lib.hid (K2a.out.trans hk3)
  have P3 := Lib.hid (P2.out.keep hk3)
  have hW3 : decW ((encL kObj).take 7) = (byteT, 7, 16) := by unfold decW; rw [kCut]
  rw [hW3] at hu3
  have U3 := Lib.hid hu3
  obtain ⟨q3, rfl⟩ := hu3.bad (by decide)
  obtain ⟨f1, g1, rfl, _, _, _⟩ := ho3.code
  obtain ⟨f2, g2, rfl, _, _, _⟩ := ho3.data
  obtain ⟨f3, g3, rfl, _, _, _⟩ := ho3.syms
  obtain ⟨f4, g4, rfl, _, _, _⟩ := ho3.rels
  have HO3 := Lib.hid (HO2.out.keep (((Keep.refl _).alloc _).trans hk3))
  simp only [objVal]
  unfold faultP at *
  have c3 := fun o => ((Box.keep (kBox w) K3.out).alloc o).cells
  clear hk3 C3 ho3 hu3 hW3
  have C4 := Lib.hid (fun W (hW : Keep (kWorld w) W) => HF.out kObj _ _ _ _ ⟨#[102]⟩ W ((kAt w).keep hW) kNum kFew (by decide))
  simp only [objVal, NM] at C4
  go_wp2_with fail
  refine (C4.out _ (K3.out.alloc _)).mono ?_
  rintro e w4 ⟨hf4, hk4⟩
  unfold FindR at hf4
  rw [kFind] at hf4
  simp only [symVal] at hf4
  subst hf4
  have K4 := Lib.hid ((K3.out.alloc _).trans hk4)
  have P4 := Lib.hid ((P3.out.alloc _).keep hk4)
  have U4 := Lib.hid (ErrV.keep (U3.out.keep ((Keep.refl _).alloc _)) hk4)
  have HO4 := Lib.hid ((HO3.out.keep ((Keep.refl _).alloc _)).keep hk4)
  have c4 := fun o => ((Box.keep (kBox w) K4.out).alloc o).cells
  have c4b := fun o1 o2 => (((Box.keep (kBox w) K4.out).alloc o1).alloc o2).cells
  have p4b := fun o1 o2 => ((P4.out.alloc o1).alloc o2).cells
  have C5 := Lib.hid (fun W (hW : Keep w4 W) => HS.out kObj kObj _ _ _ _ _ _ _ _ W ((kAt w).keep (K4.out.trans hW)) (HO4.out.keep hW) kNum kNum kFew kFew)
  simp only [objVal, NM] at C5
  clear hk4 C4 c3
  go_wp2_with fail
  have S5a := Lib.hid ((Box.new w4 #[.string ⟨#[102]⟩, .bool false, .int .u32 0, .bool true] 47).alloc (.cells #[.string ⟨#[49]⟩, .slice (some ⟨w.heap.size, 0, none⟩) 4 4, .slice (some ⟨w.heap.size + 1, 0, none⟩) 16 16, .slice (some ⟨w.heap.size + 1 + 1, 0, none⟩) 1 1, .slice (some ⟨w.heap.size + 1 + 1 + 1, 0, none⟩) 1 1] 26))
  have Q5a := Lib.hid (Box.new1 w4 (.cells #[.string ⟨#[102]⟩, .bool false, .int .u32 0, .bool true] 47) #[.string ⟨#[49]⟩, .slice (some ⟨w.heap.size, 0, none⟩) 4 4, .slice (some ⟨w.heap.size + 1, 0, none⟩) 16 16, .slice (some ⟨w.heap.size + 1 + 1, 0, none⟩) 1 1, .slice (some ⟨w.heap.size + 1 + 1 + 1, 0, none⟩) 1 1] 26)
  refine (C5.out _ (((Keep.refl _).alloc _).alloc _)).mono ?_
  rintro e w5 ⟨b, rfl, hb, hk5⟩
  obtain rfl : b = true := hb.2 (by first | exact trivial | rfl)
  have K5 := Lib.hid (((K4.out.alloc _).alloc _).trans hk5)
  have S5 := Lib.hid (S5a.out.keep hk5)
  have Q5 := Lib.hid (Q5a.out.keep hk5)
  have U5 := ErrV.keep (ErrV.keep U4.out (((Keep.refl _).alloc _).alloc _)) hk5
  have CT := Lib.hid (tells_any _ _ w5 U5 (HH.out.errT (HH.out.keep HP.out ((kKeep w).trans K5.out))))
  simp only [wrVal, byteT] at CT
  clear hk5 hb U5 C5 c4 c4b p4b
  go_wp2_with fail
  refine CT.out.mono ?_
  rintro e w6 ⟨rfl, hk6⟩
  have K6 := Lib.hid (K5.out.trans hk6)
  have S6 := Lib.hid (S5.out.keep hk6)
  have Q6 := Lib.hid (Q5.out.keep hk6)
  have s6 := S6.out.cells
  have q6 := Q6.out.cells
  have CC := Lib.hid (HC.out kObj1 _ _ _ _ w6 (kAs1 ((kAt w).keep K6.out)) kNum1 kFew1 (HH.out.keep HP.out ((kKeep w).trans K6.out)))
  simp only [objVal, NM1] at CC
  clear hk6 CT
  go_wp2_with fail
  refine CC.out.mono ?_
  rintro e w7 ⟨hk7, u7, rfl, hu7⟩
  rw [kW1] at hu7
  have K7 := Lib.hid (K6.out.trans hk7)
  have Q7 := Lib.hid (Q6.out.keep hk7)
  have CT := Lib.hid (tells_any _ _ w7 hu7 (HH.out.errT (HH.out.keep HP.out ((kKeep w).trans K7.out))))
  obtain ⟨q7, rfl⟩ := hu7.bad (by decide)
  simp only [wrVal, nameT] at CT
  unfold faultP at *
  clear hk7 hu7 CC s6 q6
  go_wp2_with fail
  refine CT.out.mono ?_
  rintro e w8 ⟨rfl, hk8⟩
  have K8 := Lib.hid (K7.out.trans hk8)
  have Q8 := Lib.hid (Q7.out.keep hk8)
  clear hk8 CT
  have CN1 := Lib.hid (HN.out ⟨#[97, 95, 49]⟩ w8 (by decide))
  rw [kGood.1] at CN1
  go_wp2_with fail
  refine CN1.out.mono ?_
  rintro e w9 ⟨rfl, hk9⟩
  have K9 := Lib.hid (K8.out.trans hk9)
  have Q9 := Lib.hid (Q8.out.keep hk9)
  clear hk9 CN1
  have CN2 := Lib.hid (HN.out ⟨#[49]⟩ w9 (by decide))
  rw [kGood.2] at CN2
  go_wp2_with fail
  refine CN2.out.mono ?_
  rintro e w10 ⟨rfl, hk10⟩
  have K10 := Lib.hid (K9.out.trans hk10)
  have Q10 := Lib.hid (Q9.out.keep hk10)
  have q10 := Q10.out.cells
  have o10 := (Box.keep (kBox w) K10.out).cells
  clear hk10 CN2
  have CS := Lib.hid (HS.out kObj kObj1 _ _ _ _ _ _ _ _ w10 ((kAt w).keep K10.out) (kAs1 ((kAt w).keep K10.out)) kNum kNum1 kFew kFew1)
  simp only [objVal, NM, NM1] at CS
  go_wp2_with fail
  refine CS.out.mono ?_
  rintro e w11 ⟨b, rfl, hb, hk11⟩
  obtain rfl : b = false := by
    cases b with
    | false => rfl
    | true => exact absurd (hb.1 rfl) kNe
  have K11 := Lib.hid ((kKeep w).trans (K10.out.trans hk11))
  clear hk11 hb CS
  go_wp2_with fail
  go_ret
  exact ⟨rfl, K11.out⟩
end Go.Proofs.YtahnbeoacdnhjaaDoor
