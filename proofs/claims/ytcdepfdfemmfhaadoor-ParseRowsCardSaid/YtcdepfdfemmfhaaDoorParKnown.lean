/- hasplaw14.known, over what the program's Parse, Reg, Mem are to answer. -/
import Derived.Test.YtcdepfdfemmfhaaDoorParC
import Derived.Test.YtcdepfdfemmfhaaDoorGBase
namespace Go.Proofs.YtcdepfdfemmfhaaDoor
set_option linter.unusedVariables false
set_option linter.unusedSimpArgs false
open Go.RowKit
set_option maxHeartbeats 4000000 in
set_option maxRecDepth 100000 in
theorem known14_any {Pre : World → Prop} (hPre : PreOk Pre) (hP : PParse Pre) (hR : PReg) (hM : PMem) (w : World) (hW : Pre w) : Calls Tryd.prog 4 #[] w fun e w' => e = .returned (.bool true) ∧ Keep w w' := by
  have HK := Lib.hid hPre
  have HP := Lib.hid hP
  have HR := Lib.hid hR
  have HM := Lib.hid hM
  have HW := Lib.hid hW
  clear hPre hP hR hM hW
  go_enter Tryd.func4, Tryd.ntmps4
  go_wp2_with fail
  refine (HP.out kp1 _ (by decide) HW.out).mono ?_
  intro e w1 h
  obtain ⟨v1, rfl, a1, k1⟩ := h.good kl1
  clear h
  obtain ⟨b1, off1, cap1, x1, y1, rfl, lb1, c11, t11⟩ := a1.get (i := 1) (l := ka1) rfl
  obtain ⟨b2, off2, cap2, x0, y0, hv, lb2, c10, t10⟩ := a1.get (i := 0) (l := ka0) rfl
  cases hv
  have K1 := Lib.hid k1
  have C11 := Lib.hid c11
  rw [Nat.add_zero] at c10
  have C10 := Lib.hid c10
  have T11 := Lib.hid t11
  have T10 := Lib.hid t10
  clear a1 k1 c11 c10 t11 t10
  unfold lineV
  dsimp only
  have BA := Lib.hid (Box.new w1 #[.string ⟨#[120]⟩, .string ⟨#[108, 119]⟩, .bool false, .slice (some ⟨b1, off1, none⟩) 2 cap1] 27)
  have KA := Lib.hid ((Keep.refl w1).alloc (.cells #[.string ⟨#[120]⟩, .string ⟨#[108, 119]⟩, .bool false, .slice (some ⟨b1, off1, none⟩) 2 cap1] 27))
  go_wp2_with fail
  refine (HP.out kp2 _ (by decide) (HK.out.keep HW.out (K1.out.trans KA.out))).mono ?_
  intro e w2 h
  obtain ⟨v2, q2, rfl, a2, hf, k2⟩ := h.wrong kl2 kl2a
  clear h
  obtain ⟨p2, cp2, rfl⟩ := a2.slice
  have KB := Lib.hid (KA.out.trans k2)
  have BB := Lib.hid (BA.out.keep k2)
  have FB := Lib.hid hf
  clear k2 hf a2
  unfold lineV noLine
  dsimp only
  have KC := Lib.hid (KB.out.alloc (.cells #[.string ⟨#[]⟩, .string ⟨#[]⟩, .bool false, .slice p2 0 cp2] 27))
  have BC := Lib.hid (BB.out.alloc (.cells #[.string ⟨#[]⟩, .string ⟨#[]⟩, .bool false, .slice p2 0 cp2] 27))
  have FC := Lib.hid (FB.out.alloc (.cells #[.string ⟨#[]⟩, .string ⟨#[]⟩, .bool false, .slice p2 0 cp2] 27) : fltB _ q2 tokS 0 12)
  unfold faultP
  go_wp2_with fail
  refine (HP.out kp3 _ (by decide) (HK.out.keep HW.out (K1.out.trans KC.out))).mono ?_
  intro e w3 h
  obtain ⟨v3, rfl, a3, k3⟩ := h.good kl3
  clear h
  obtain ⟨p3, cp3, rfl⟩ := a3.slice
  have KD := Lib.hid (KC.out.trans k3)
  have BD := Lib.hid (BC.out.keep k3)
  have FD := Lib.hid (FC.out.keep k3 : fltB _ q2 tokS 0 12)
  have BE := Lib.hid (Box.new w3 #[.string ⟨#[]⟩, .string ⟨#[119, 111, 114, 100]⟩, .bool true, .slice p3 2 cp3] 27)
  clear k3 a3
  unfold lineV
  dsimp only
  have KE := Lib.hid (KD.out.alloc (.cells #[.string ⟨#[]⟩, .string ⟨#[119, 111, 114, 100]⟩, .bool true, .slice p3 2 cp3] 27))
  have BDE := Lib.hid (BD.out.alloc (.cells #[.string ⟨#[]⟩, .string ⟨#[119, 111, 114, 100]⟩, .bool true, .slice p3 2 cp3] 27))
  have FE := Lib.hid (FD.out.alloc (.cells #[.string ⟨#[]⟩, .string ⟨#[119, 111, 114, 100]⟩, .bool true, .slice p3 2 cp3] 27) : fltB _ q2 tokS 0 12)
  have r1 := BDE.out.cells
  have c1 := KE.out.cellOf C11.out
  have c0 := KE.out.cellOf C10.out
  go_wp2_with fail
  refine (HM.out _ ka1 _ (by decide) (T11.out.keep KE.out)).mono ?_
  rintro e w4 ⟨hm, k4⟩
  unfold MemP at hm
  rw [km] at hm
  obtain ⟨v4, rfl, t4⟩ := hm
  obtain ⟨p4, cp4, rfl⟩ := t4.slice
  have KF := Lib.hid (KE.out.trans k4)
  have BF := Lib.hid (BDE.out.keep k4)
  have BG := Lib.hid (BE.out.keep k4)
  have FF := Lib.hid (FE.out.keep k4 : fltB _ q2 tokS 0 12)
  clear r1 c1 c0 t4 k4
  have r1 := BF.out.cells
  have c0 := KF.out.cellOf C10.out
  have len3 : (ka1.take 3).length = 3 := by decide
  rw [len3]
  go_wp2_with fail
  refine (HR.out _ ka0 _ (by decide) (T10.out.keep KF.out)).mono ?_
  rintro e w5 ⟨rfl, k5⟩
  rw [kr]
  unfold regV
  have KG := Lib.hid (KF.out.trans k5)
  have BH := Lib.hid (BF.out.keep k5)
  have BI := Lib.hid (BG.out.keep k5)
  have FG := Lib.hid (FF.out.keep k5 : fltB _ q2 tokS 0 12)
  clear r1 c0 k5
  have CT := Lib.hid (fun W (hk : Keep w5 W) => tells_any (faultP q2) (wrongV tokS 0 12) W (.inr ⟨q2, tokS, 0, 12, by decide, rfl, rfl, (FG.out.keep hk : fltB _ q2 tokS 0 12)⟩) (HK.out.errT (HK.out.keep HW.out (K1.out.trans (KG.out.trans hk)))))
  unfold faultP wrongV tokS at CT
  have r1 := BH.out.cells
  have r2 := BI.out.cells
  go_wp2_with fail
  refine (CT.out _ (Keep.refl _)).mono ?_
  rintro e w6 ⟨rfl, k6⟩
  have KH := Lib.hid (K1.out.trans (KG.out.trans k6))
  have r3 := (BI.out.keep k6).cells
  clear r1 r2 k6
  go_wp2_with fail
  go_ret
  exact ⟨rfl, KH.out⟩
end Go.Proofs.YtcdepfdfemmfhaaDoor
