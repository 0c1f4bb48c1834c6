/- hasplaw18's known, over what the program's img answers; by gen/img9.py. -/
import Derived.Test.YtmcbeclkocjlkaaDoorImgC
import Derived.Test.YtmcbeclkocjlkaaDoorGObjF
namespace Go.Proofs.YtmcbeclkocjlkaaDoor
set_option linter.unusedVariables false
set_option linter.unusedSimpArgs false
open Go Go.RowKit
def kImg : ImgV := ⟨128, [⟨⟨#[97]⟩, ⟨16, 16⟩, ⟨32, 16⟩, ⟨48, 16⟩, [16]⟩], [], [⟨0, 32, 1, true, 0, 40, 1⟩], 0, 16, [1]⟩
def kImg1 : ImgV := { kImg with addr := 20 }
theorem iW : imgW kImg = okW := by kernel_rfl
theorem iW1 : imgW kImg1 = (startT, 0, 12) := by kernel_rfl
theorem iLen : (encI kImg).length = 92 := by kernel_rfl
theorem iBack : decI (encI kImg) = .ok kImg := by kernel_rfl
theorem iCut : decI ((encI kImg).take 5) = .error (byteT, 5, 16) := by kernel_rfl
theorem iNe : kImg ≠ kImg1 := fun h => by
  have := congrArg ImgV.addr h
  revert this
  decide
theorem iNum : ImgNum kImg := by
  refine ⟨⟨by decide, by decide⟩, fun s hs => ?_, fun p hp e he => ?_, fun x hx => ?_, fun x hx => ?_, fun x hx => ?_, ⟨by decide, by decide⟩, fun x hx => ?_⟩
  · simp only [spansI, kImg, List.flatMap_cons, List.flatMap_nil, List.append_nil, List.mem_cons, List.not_mem_nil, or_false] at hs
    rcases hs with rfl | rfl | rfl <;> exact ⟨⟨by decide, by decide⟩, by decide, by decide⟩
  · simp only [kImg, List.mem_cons, List.not_mem_nil, or_false] at hp; subst hp
    simp only [List.mem_cons, List.not_mem_nil, or_false] at he; subst he
    exact ⟨by decide, by decide⟩
  · simp only [kImg, List.mem_cons, List.not_mem_nil, or_false] at hx; subst hx; exact ⟨by decide, by decide⟩
  · simp only [kImg, List.mem_cons, List.not_mem_nil, or_false] at hx; subst hx; exact ⟨by decide, by decide⟩
  · simp only [kImg, List.mem_cons, List.not_mem_nil, or_false] at hx; subst hx; exact ⟨by decide, by decide⟩
  · simp only [kImg, List.mem_cons, List.not_mem_nil, or_false] at hx; subst hx; decide
theorem iFew : ImgFew kImg := by
  refine ⟨by decide, by decide, by decide, by decide, fun p hp => ?_, fun p hp => ?_⟩
  · simp only [kImg, List.mem_cons, List.not_mem_nil, or_false] at hp; subst hp; decide
  · simp only [kImg, List.mem_cons, List.not_mem_nil, or_false] at hp; subst hp; decide
theorem iNum1 : ImgNum kImg1 := ⟨iNum.size, iNum.spans, iNum.ents, iNum.at_, iNum.iaddr, iNum.perm, ⟨by decide, by decide⟩, iNum.bytes256⟩
theorem iFew1 : ImgFew kImg1 := ⟨iFew.parts, iFew.shares, iFew.inits, iFew.bytes, iFew.names, iFew.ents⟩
theorem iOk : ImgOk kImg := (imgW_may (by rw [iW]; rfl)).ok iNum
/-- The world behind known's literals. -/
def iWorld (w : World) : World := (((((w.alloc (.cells #[.int .u32 16] 22)).alloc (.cells #[.string ⟨#[97]⟩, .int .u32 16, .int .u32 16, .int .u32 32, .int .u32 16, .int .u32 48, .int .u32 16, .slice (some ⟨w.heap.size, 0, none⟩) 1 1] 39)).alloc (.cells #[.int .i64 0, .int .u32 32, .int .i64 1, .bool true, .int .i64 0, .int .u32 40, .int .u16 1] 43)).alloc (.cells #[.int .u8 1] 5)).alloc (.cells #[.int .u32 128, .slice (some ⟨w.heap.size + 1, 0, none⟩) 1 1, .slice none 0 0, .slice (some ⟨w.heap.size + 1 + 1, 0, none⟩) 1 1, .int .i64 0, .int .u32 16, .slice (some ⟨w.heap.size + 1 + 1 + 1, 0, none⟩) 1 1] 28))
theorem iKeep (w : World) : Keep w (iWorld w) := (((((Keep.refl _).alloc _).alloc _).alloc _).alloc _).alloc _
theorem iBox (w : World) : Box (iWorld w) (w.heap.size + 1 + 1 + 1 + 1) #[.int .u32 128, .slice (some ⟨w.heap.size + 1, 0, none⟩) 1 1, .slice none 0 0, .slice (some ⟨w.heap.size + 1 + 1, 0, none⟩) 1 1, .int .i64 0, .int .u32 16, .slice (some ⟨w.heap.size + 1 + 1 + 1, 0, none⟩) 1 1] := obox_at _ _ _ _ (by simp)
theorem iAt (w : World) : ImgAt (iWorld w) kImg (.slice (some ⟨w.heap.size + 1, 0, none⟩) 1 1) (.slice none 0 0) (.slice (some ⟨w.heap.size + 1 + 1, 0, none⟩) 1 1) (.slice (some ⟨w.heap.size + 1 + 1 + 1, 0, none⟩) 1 1) [.slice (some ⟨w.heap.size, 0, none⟩) 1 1] := by
  refine ⟨⟨_, _, rfl, by decide, by decide, box_cells ((((obox_at _ _ _ _ (by simp)).alloc _).alloc _).alloc _) rfl⟩, rfl, fun k p v hp hv => ?_, ⟨_, _, rfl, by decide, by decide, .inl rfl⟩,
    ⟨_, _, rfl, by decide, by decide, box_cells (((obox_at _ _ _ _ (by simp)).alloc _).alloc _) rfl⟩, ⟨_, _, rfl, by decide, by decide, box_cells ((obox_at _ _ _ _ (by simp)).alloc _) rfl⟩⟩
  match k, hp, hv with
  | 0, hp, hv =>
    simp only [kImg, List.getElem?_cons_zero, Option.some.injEq] at hp hv
    subst hp hv
    exact ⟨_, _, rfl, by decide, by decide, box_cells (((((obox_at _ _ _ _ rfl).alloc _).alloc _).alloc _).alloc _) rfl⟩
  | k + 1, hp, hv => simp [kImg] at hp
theorem iAs1 {w : World} {vp vs vi vb : Value} {ves : List Value} (h : ImgAt w kImg vp vs vi vb ves) : ImgAt w kImg1 vp vs vi vb ves := ⟨h.parts, h.nves, h.ents, h.shares, h.inits, h.bytes⟩
theorem iS : kImg.size = 128 := rfl
theorem iT : kImg.start = 0 := rfl
theorem iA : kImg.addr = 16 := rfl
theorem iS1 : kImg1.size = 128 := rfl
theorem iT1 : kImg1.start = 0 := rfl
theorem iA1 : kImg1.addr = 20 := rfl
set_option maxHeartbeats 8000000 in
set_option maxRecDepth 100000 in
theorem iknown_any {Pre : World → Prop} (hP : OPreOk Pre) (hE : PImgEncode Pre) (hD : PImgDecode Pre) (hS : PImgSame) (hC : PImgCheck Pre) (w : World) (hp : Pre w) :
    Calls Tryd.prog 4 #[] w fun e w' => e = .returned (.bool true) ∧ Keep w w' := by
  have HP := Lib.hid hp
  have HH := Lib.hid hP
  have HD := Lib.hid hD
  have HS := Lib.hid hS
  have HC := Lib.hid hC
  have C1 := hE kImg _ _ _ _ _ _ (iAt w) iNum iFew (hP.keep hp (iKeep w))
  simp only [imgVal, iS, iT, iA] at C1
  unfold iWorld at C1
  have C1 := Lib.hid C1
  clear hp hP hE hD hS hC
  go_enter Tryd.func4, Tryd.ntmps4
  go_wp2_with fail
  refine C1.out.mono ?_
  clear C1
  rintro e w1 ⟨hk1, p, n, cap, u, rfl, hu, hs⟩
  obtain rfl := hu.good (by rw [iW]; rfl)
  obtain ⟨hn, hsl⟩ := hs (by rw [iW]; rfl)
  rw [iLen] at hn
  subst hn
  have K1 : Hid (Keep (iWorld w) w1) := Lib.hid hk1
  have hc5 : 92 ≤ cap := by
    obtain ⟨_, _, e, h1, _⟩ := hsl
    simp only [Value.slice.injEq, true_and] at e
    omega
  have SL := Lib.hid hsl
  have HK1 := Lib.hid (HH.out.keep HP.out ((iKeep w).trans K1.out))
  have L256 := Lib.hid (encI_lt iNum iOk iFew).1
  have C2 := Lib.hid (HD.out _ (encI kImg) w1 (by rw [iLen]; exact SL.out) L256.out (by rw [iLen]; decide) HK1.out)
  clear hk1 hu hs hsl
  go_wp2_with fail
  refine C2.out.mono ?_
  rintro e w2 ⟨hk2, o2, a1, a2, a3, a4, es2, u2, rfl, ho2, hu2, hy2⟩
  obtain rfl := hy2 _ iBack
  obtain rfl := hu2.good (by unfold decIW; rw [iBack]; rfl)
  have K2 := Lib.hid (K1.out.trans hk2)
  have SL2 := Lib.hid (SL.out.keep hk2)
  obtain ⟨e1, d1, rfl, _⟩ := ho2.parts
  obtain ⟨e2, d2, rfl, _⟩ := ho2.shares
  obtain ⟨e3, d3, rfl, _⟩ := ho2.inits
  obtain ⟨e4, d4, rfl, _⟩ := ho2.bytes
  have HO2 := Lib.hid ho2
  simp only [imgVal, iS, iT, iA]
  clear hk2 C2 ho2 hu2 hy2
  have K2a : Hid (Keep (iWorld w) (w2.alloc (.cells #[.int .u32 128, .slice e1 kImg.parts.length d1, .slice e2 kImg.shares.length d2, .slice e3 kImg.inits.length d3, .int .i64 0, .int .u32 16, .slice e4 kImg.bytes.length d4] 28))) := Lib.hid (K2.out.alloc _)
  have P2 : Hid (Box (w2.alloc (.cells #[.int .u32 128, .slice e1 kImg.parts.length d1, .slice e2 kImg.shares.length d2, .slice e3 kImg.inits.length d3, .int .i64 0, .int .u32 16, .slice e4 kImg.bytes.length d4] 28)) w2.heap.size #[.int .u32 128, .slice e1 kImg.parts.length d1, .slice e2 kImg.shares.length d2, .slice e3 kImg.inits.length d3, .int .i64 0, .int .u32 16, .slice e4 kImg.bytes.length d4]) := Lib.hid (Box.new _ _ _)
  have SL5 := SL2.out.take (m := 5) (by decide)
  rw [← List.map_take] at SL5
  have C3 := Lib.hid (HD.out _ ((encI kImg).take 5) _ (by
    rw [show ((encI kImg).take 5).length = 5 by rw [List.length_take, iLen]; rfl]
    exact SL5.keep ((Keep.refl _).alloc (.cells #[.int .u32 128, .slice e1 kImg.parts.length d1, .slice e2 kImg.shares.length d2, .slice e3 kImg.inits.length d3, .int .i64 0, .int .u32 16, .slice e4 kImg.bytes.length d4] 28))) (fun x hx => L256.out x (List.mem_of_mem_take hx)) (by rw [List.length_take, iLen]; decide) (HH.out.keep HP.out ((iKeep w).trans K2a.out)))
  have hc5' : 5 ≤ cap := by omega
  clear SL5
  go_wp2_with fail
  refine C3.out.mono ?_
  rintro e w3 ⟨hk3, o3, a1, a2, a3, a4, es3, u3, rfl, ho3, hu3, _⟩
  have K3 := Lib.hid (K2a.out.trans hk3)
  have P3 := Lib.hid (P2.out.keep hk3)
  rw [decIW_err iCut] at hu3
  have U3 := Lib.hid hu3
  obtain ⟨q3, rfl⟩ := hu3.bad (by decide)
  obtain ⟨f1, g1, rfl, _⟩ := ho3.parts
  obtain ⟨f2, g2, rfl, _⟩ := ho3.shares
  obtain ⟨f3, g3, rfl, _⟩ := ho3.inits
  obtain ⟨f4, g4, rfl, _⟩ := ho3.bytes
  have HO3 := Lib.hid (HO2.out.keep (((Keep.refl _).alloc _).trans hk3))
  simp only [imgVal]
  unfold faultP at *
  have c3 := fun o => ((Box.keep (iBox w) K3.out).alloc o).cells
  have c3b := fun o1 o2 => (((Box.keep (iBox w) K3.out).alloc o1).alloc o2).cells
  have p3b := fun o1 o2 => ((P3.out.alloc o1).alloc o2).cells
  clear hk3 C3 ho3 hu3
  have Q4 : Hid (Box ((w3.alloc (.cells #[.int .u32 o3.size, .slice f1 o3.parts.length g1, .slice f2 o3.shares.length g2, .slice f3 o3.inits.length g3, .int .i64 o3.start, .int .u32 o3.addr, .slice f4 o3.bytes.length g4] 28)).alloc (.cells #[.int .u32 128, .slice (some ⟨w.heap.size + 1, 0, none⟩) 1 1, .slice none 0 0, .slice (some ⟨w.heap.size + 1 + 1, 0, none⟩) 1 1, .int .i64 0, .int .u32 20, .slice (some ⟨w.heap.size + 1 + 1 + 1, 0, none⟩) 1 1] 28)) (w3.heap.size + 1) #[.int .u32 128, .slice (some ⟨w.heap.size + 1, 0, none⟩) 1 1, .slice none 0 0, .slice (some ⟨w.heap.size + 1 + 1, 0, none⟩) 1 1, .int .i64 0, .int .u32 20, .slice (some ⟨w.heap.size + 1 + 1 + 1, 0, none⟩) 1 1]) := Lib.hid (Box.new1 _ _ _ _)
  have C5 := Lib.hid (fun W (hW : Keep w3 W) => HS.out kImg kImg _ _ _ _ _ _ _ _ _ _ W ((iAt w).keep (K3.out.trans hW)) (HO3.out.keep hW) iNum iNum iFew.mid iFew.mid)
  simp only [imgVal, iS, iT, iA] at C5
  go_wp2_with fail
  refine (C5.out _ (((Keep.refl _).alloc _).alloc _)).mono ?_
  rintro e w5 ⟨b, rfl, hb, hk5⟩
  obtain rfl : b = true := hb.2 (by first | exact trivial | rfl)
  have K5 := Lib.hid (((K3.out.alloc _).alloc _).trans hk5)
  have Q5 := Lib.hid (Q4.out.keep hk5)
  have U5 := ErrV.keep (ErrV.keep U3.out (((Keep.refl _).alloc _).alloc _)) hk5
  have CT := Lib.hid (tells_any _ _ w5 U5 (HH.out.errT (HH.out.keep HP.out ((iKeep w).trans K5.out))))
  simp only [wrVal, byteT] at CT
  clear hk5 hb U5 C5 c3 c3b p3b
  go_wp2_with fail
  refine CT.out.mono ?_
  rintro e w6 ⟨rfl, hk6⟩
  have K6 := Lib.hid (K5.out.trans hk6)
  have Q6 := Lib.hid (Q5.out.keep hk6)
  have q6 := Q6.out.cells
  have CC := Lib.hid (HC.out kImg1 _ _ _ _ _ w6 (iAs1 ((iAt w).keep K6.out)) iNum1 iFew1.mid (HH.out.keep HP.out ((iKeep w).trans K6.out)))
  simp only [imgVal, iS1, iT1, iA1] at CC
  clear hk6 CT
  go_wp2_with fail
  refine CC.out.mono ?_
  rintro e w7 ⟨hk7, u7, rfl, hu7⟩
  rw [iW1] at hu7
  have K7 := Lib.hid (K6.out.trans hk7)
  have Q7 := Lib.hid (Q6.out.keep hk7)
  have CT := Lib.hid (tells_any _ _ w7 hu7 (HH.out.errT (HH.out.keep HP.out ((iKeep w).trans K7.out))))
  obtain ⟨q7, rfl⟩ := hu7.bad (by decide)
  simp only [wrVal, startT] at CT
  unfold faultP at *
  clear hk7 hu7 CC q6
  go_wp2_with fail
  refine CT.out.mono ?_
  rintro e w8 ⟨rfl, hk8⟩
  have K8 := Lib.hid (K7.out.trans hk8)
  have Q8 := Lib.hid (Q7.out.keep hk8)
  have c8 := (Box.keep (iBox w) K8.out).cells
  have CC := Lib.hid (HC.out kImg _ _ _ _ _ w8 ((iAt w).keep K8.out) iNum iFew.mid (HH.out.keep HP.out ((iKeep w).trans K8.out)))
  simp only [imgVal, iS, iT, iA] at CC
  clear hk8 CT
  go_wp2_with fail
  refine CC.out.mono ?_
  rintro e w9 ⟨hk9, u9, rfl, hu9⟩
  obtain rfl := hu9.good (by rw [iW]; rfl)
  have K9 := Lib.hid (K8.out.trans hk9)
  have Q9 := Lib.hid (Q8.out.keep hk9)
  have c9 := (Box.keep (iBox w) K9.out).cells
  have q9 := Q9.out.cells
  have CS := Lib.hid (HS.out kImg kImg1 _ _ _ _ _ _ _ _ _ _ w9 ((iAt w).keep K9.out) (iAs1 ((iAt w).keep K9.out)) iNum iNum1 iFew.mid iFew1.mid)
  simp only [imgVal, iS, iT, iA, iS1, iT1, iA1] at CS
  clear hk9 hu9 CC c8
  go_wp2_with fail
  refine CS.out.mono ?_
  rintro e w11 ⟨b, rfl, hb, hk11⟩
  obtain rfl : b = false := by
    cases b with
    | false => rfl
    | true => exact absurd (hb.1 rfl) iNe
  have K11 := Lib.hid ((iKeep w).trans (K9.out.trans hk11))
  clear hk11 hb CS
  go_wp2_with fail
  go_ret
  exact ⟨rfl, K11.out⟩
end Go.Proofs.YtmcbeclkocjlkaaDoor
