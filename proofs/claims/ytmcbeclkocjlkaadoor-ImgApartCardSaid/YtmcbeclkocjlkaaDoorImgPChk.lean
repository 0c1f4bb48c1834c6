/- The program's Check: the first that is wrong of an image. -/
import Derived.Test.YtmcbeclkocjlkaaDoorImgPCk
import Derived.Test.YtmcbeclkocjlkaaDoorImgPCsp
import Derived.Test.YtmcbeclkocjlkaaDoorImgPPar
import Derived.Test.YtmcbeclkocjlkaaDoorGIpF
import Derived.Test.YtmcbeclkocjlkaaDoorImgChkC
import Derived.Test.YtmcbeclkocjlkaaDoorGTell
namespace Go.Proofs.YtmcbeclkocjlkaaDoor
set_option linter.unusedVariables false
set_option linter.unusedSimpArgs false
open Go Go.RowKit
theorem oerr_again {w w' : World} {q : Nat} {x : WrV} (h : OErr w (faultP q) x) (hB : Box w' q #[.string x.1, .int .i64 x.2.1, .iface 68 (.int .i64 x.2.2)]) : OErr w' (faultP q) x := by
  rcases h with ⟨h1, h0⟩ | ⟨q', p', a', n', h1, h2, h3, h4⟩
  · exact absurd h0 (by unfold faultP; simp)
  · refine .inr ⟨q, p', a', n', h1, h2, rfl, ?_⟩
    unfold wrVal wrongV at h2
    simp at h2
    obtain ⟨e1, e2, e3⟩ := h2
    rw [e1, e2, e3] at hB
    exact hB
set_option maxHeartbeats 8000000 in
set_option maxRecDepth 100000 in
theorem icheck_any (i : ImgV) (vp vs vi vb : Value) (ves : List Value) (w : World) (h : ImgAt w i vp vs vi vb ves) (hm : ImgMid i) (hn : ImgNum i) (hE : ErrT w) :
    Calls Tryd.prog 6 #[imgVal i vp vs vi vb] w (IChk w (imgW i)) := by
  have HO := Lib.hid h
  have HE := Lib.hid hE
  have C0 := Lib.hid (fun W (k : Keep w W) => icheckSize_any i vp vs vi vb W hn)
  have C1 := Lib.hid (fun W (k : Keep w W) => icheckBytes_any i vp vs vi vb ves W (HO.out.keep k) hn)
  have C2 := Lib.hid (fun W (k : Keep w W) => icheckCounts_any i vp vs vi vb ves W (HO.out.keep k))
  have C3 := Lib.hid (fun W (k : Keep w W) (h16 : 16 ≤ i.size) => (icheckSpans_any i vp vs vi vb ves W (HO.out.keep k) hn hm h16 : Calls _ _ _ _ (IChk W (spnW i))))
  have C4 := Lib.hid (fun W (k : Keep w W) => (icheckParts_any i vp vs vi vb ves W (HO.out.keep k) hm : Calls _ _ _ _ (IChk W (prtW i))))
  have C5 := Lib.hid (fun W (k : Keep w W) (hS : ∀ k, k < (spansI i).length → spanE i k = 0) => (icheckEnts_any i vp vs vi vb ves W (HO.out.keep k) hn hm hS : Calls _ _ _ _ (IChk W (entW i))))
  have C6 := Lib.hid (fun W (k : Keep w W) => icheckInits_any i vp vs vi vb ves W (HO.out.keep k) hm hn)
  have C7 := Lib.hid (fun W (k : Keep w W) => icheckStart_any i vp vs vi vb ves W (HO.out.keep k) hm)
  have OW := Lib.hid (imgW_parts i)
  unfold imgVal at C0 C1 C2 C3 C4 C5 C6 C7 ⊢
  have LE : 0 < w.heap.size := hE.lt
  obtain ⟨W1, hW1⟩ : ∃ W1, W1 = (((w.alloc (.cells #[.int .u32 i.size, vp, vs, vi, .int .i64 i.start, .int .u32 i.addr, vb] 28)).alloc (.cells #[.pointer none] 52)).alloc (.cells #[.func (.func 11) #[] #[], .func (.func 12) #[] #[], .func (.func 13) #[] #[], .func (.func 14) #[] #[], .func (.func 15) #[] #[], .func (.func 16) #[] #[], .func (.func 17) #[] #[], .func (.func 18) #[] #[]] 34)) := ⟨_, rfl⟩
  have K0 : Hid (Keep w W1) := Lib.hid (by rw [hW1]; exact (((Keep.refl _).alloc _).alloc _).alloc _)
  have BO : Hid (Box W1 w.heap.size #[.int .u32 i.size, vp, vs, vi, .int .i64 i.start, .int .u32 i.addr, vb]) := Lib.hid (by rw [hW1]; exact ((Box.new _ _ _).alloc _).alloc _)
  have BF : Hid (Box W1 (w.heap.size + 1) #[.pointer none]) := Lib.hid (by rw [hW1]; exact (Box.new1 _ _ _ _).alloc _)
  have BL : Hid (Box W1 (w.heap.size + 2) #[.func (.func 11) #[] #[], .func (.func 12) #[] #[], .func (.func 13) #[] #[], .func (.func 14) #[] #[], .func (.func 15) #[] #[], .func (.func 16) #[] #[], .func (.func 17) #[] #[], .func (.func 18) #[] #[]]) := Lib.hid (by rw [hW1]; exact Box.new2 _ _ _ _ _)
  have KK : Hid (Keep W1 W1) := Lib.hid (Keep.refl _)
  clear h hm hn hE HO
  go_enter Tryd.func6, Tryd.ntmps6
  go_wp2_with fail
  rw [← hW1]
  clear hW1
  have co0 := BO.out.cells
  have cl0 := BL.out.cells
  refine wp_loop_rounds 9 ?_
  rw [rounds_succ]
  go_wp2_with fail
  refine (C0.out _ (K0.out.trans KK.out)).mono ?_
  rintro e w1 ⟨v, rfl, hv, hk⟩
  clear co0 cl0
  by_cases z : (sizeW i).2.2 = 0
  rotate_left
  · obtain ⟨q, rfl, hB⟩ := OErr.box hv z
    have EQ : Hid (imgW i = (sizeW i)) := Lib.hid (by
      rw [OW.out]
      exact orI_not z)
    have HV := Lib.hid (hv)
    have HB := Lib.hid hB
    have K2 := Lib.hid (KK.out.trans hk)
    have E2 := Lib.hid (HE.out.keep (K0.out.trans K2.out))
    have F2 := Lib.hid (BF.out.keep K2.out)
    clear hv hB hk z
    unfold faultP
    go_wp2_with fail
    go_at_call 19
    refine (as_once (w.heap.size + 1) q (.pointer none) _ E2.out F2.out (by omega)).mono ?_
    rintro e w9 ⟨rfl, hs, hF⟩
    have cF := hF.cells
    have K9 : Hid (Keep w w9) := Lib.hid ((K0.out.trans K2.out).butNew hs.1 (fun x hx => by subst hx; omega))
    have NQ : q ≠ w.heap.size + 1 := by
      rintro rfl
      have e1 := HB.out.cells 0
      rw [F2.out.cells 0] at e1
      simp at e1
    have HQ := Lib.hid (HB.out.but hs.1 NQ)
    clear hs hF
    go_wp2_with fail
    go_ret
    refine ⟨_, rfl, ?_, K9.out⟩
    rw [EQ.out]
    exact oerr_again HV.out HQ.out
  obtain rfl : v = .nilIface := OErr.good hv z
  have Z0 := Lib.hid z
  have KK0 := Lib.hid (KK.out.trans hk)
  clear hv hk z KK
  have KK := Lib.hid KK0.out
  have co0 := (BO.out.keep KK.out).cells
  have cl0 := (BL.out.keep KK.out).cells
  clear KK0
  go_wp2_with (go_at_call 19; refine (as_nil _ _).mono ?_; rintro e w' ⟨rfl, rfl⟩)
  rw [rounds_succ]
  go_wp2_with fail
  refine (C1.out _ (K0.out.trans KK.out)).mono ?_
  rintro e w2 ⟨v, rfl, hv, hk⟩
  clear co0 cl0
  by_cases z : (bytW i).2.2 = 0
  rotate_left
  · obtain ⟨q, rfl, hB⟩ := OErr.box hv z
    have EQ : Hid (imgW i = (bytW i)) := Lib.hid (by
      rw [OW.out]
      rw [orI_zero Z0.out]
      exact orI_not z)
    have HV := Lib.hid (hv)
    have HB := Lib.hid hB
    have K2 := Lib.hid (KK.out.trans hk)
    have E2 := Lib.hid (HE.out.keep (K0.out.trans K2.out))
    have F2 := Lib.hid (BF.out.keep K2.out)
    clear hv hB hk z
    unfold faultP
    go_wp2_with fail
    go_at_call 19
    refine (as_once (w.heap.size + 1) q (.pointer none) _ E2.out F2.out (by omega)).mono ?_
    rintro e w9 ⟨rfl, hs, hF⟩
    have cF := hF.cells
    have K9 : Hid (Keep w w9) := Lib.hid ((K0.out.trans K2.out).butNew hs.1 (fun x hx => by subst hx; omega))
    have NQ : q ≠ w.heap.size + 1 := by
      rintro rfl
      have e1 := HB.out.cells 0
      rw [F2.out.cells 0] at e1
      simp at e1
    have HQ := Lib.hid (HB.out.but hs.1 NQ)
    clear hs hF
    go_wp2_with fail
    go_ret
    refine ⟨_, rfl, ?_, K9.out⟩
    rw [EQ.out]
    exact oerr_again HV.out HQ.out
  obtain rfl : v = .nilIface := OErr.good hv z
  have Z1 := Lib.hid z
  have KK1 := Lib.hid (KK.out.trans hk)
  clear hv hk z KK
  have KK := Lib.hid KK1.out
  have co0 := (BO.out.keep KK.out).cells
  have cl0 := (BL.out.keep KK.out).cells
  clear KK1
  go_wp2_with (go_at_call 19; refine (as_nil _ _).mono ?_; rintro e w' ⟨rfl, rfl⟩)
  rw [rounds_succ]
  go_wp2_with fail
  refine (C2.out _ (K0.out.trans KK.out)).mono ?_
  rintro e w3 ⟨v, rfl, hv, hk⟩
  clear co0 cl0
  by_cases z : (cntW i).2.2 = 0
  rotate_left
  · obtain ⟨q, rfl, hB⟩ := OErr.box hv z
    have EQ : Hid (imgW i = (cntW i)) := Lib.hid (by
      rw [OW.out]
      rw [orI_zero Z0.out]
      rw [orI_zero Z1.out]
      exact orI_not z)
    have HV := Lib.hid (hv)
    have HB := Lib.hid hB
    have K2 := Lib.hid (KK.out.trans hk)
    have E2 := Lib.hid (HE.out.keep (K0.out.trans K2.out))
    have F2 := Lib.hid (BF.out.keep K2.out)
    clear hv hB hk z
    unfold faultP
    go_wp2_with fail
    go_at_call 19
    refine (as_once (w.heap.size + 1) q (.pointer none) _ E2.out F2.out (by omega)).mono ?_
    rintro e w9 ⟨rfl, hs, hF⟩
    have cF := hF.cells
    have K9 : Hid (Keep w w9) := Lib.hid ((K0.out.trans K2.out).butNew hs.1 (fun x hx => by subst hx; omega))
    have NQ : q ≠ w.heap.size + 1 := by
      rintro rfl
      have e1 := HB.out.cells 0
      rw [F2.out.cells 0] at e1
      simp at e1
    have HQ := Lib.hid (HB.out.but hs.1 NQ)
    clear hs hF
    go_wp2_with fail
    go_ret
    refine ⟨_, rfl, ?_, K9.out⟩
    rw [EQ.out]
    exact oerr_again HV.out HQ.out
  obtain rfl : v = .nilIface := OErr.good hv z
  have Z2 := Lib.hid z
  have KK2 := Lib.hid (KK.out.trans hk)
  clear hv hk z KK
  have KK := Lib.hid KK2.out
  have co0 := (BO.out.keep KK.out).cells
  have cl0 := (BL.out.keep KK.out).cells
  clear KK2
  go_wp2_with (go_at_call 19; refine (as_nil _ _).mono ?_; rintro e w' ⟨rfl, rfl⟩)
  rw [rounds_succ]
  go_wp2_with fail
  refine (C3.out _ (K0.out.trans KK.out) (sizeW_ok Z0.out)).mono ?_
  rintro e w4 ⟨v, rfl, hv, hk⟩
  clear co0 cl0
  by_cases z : (spnW i).2.2 = 0
  rotate_left
  · obtain ⟨q, rfl, hB⟩ := OErr.box hv z
    have EQ : Hid (imgW i = (spnW i)) := Lib.hid (by
      rw [OW.out]
      rw [orI_zero Z0.out]
      rw [orI_zero Z1.out]
      rw [orI_zero Z2.out]
      exact orI_not z)
    have HV := Lib.hid (hv)
    have HB := Lib.hid hB
    have K2 := Lib.hid (KK.out.trans hk)
    have E2 := Lib.hid (HE.out.keep (K0.out.trans K2.out))
    have F2 := Lib.hid (BF.out.keep K2.out)
    clear hv hB hk z
    unfold faultP
    go_wp2_with fail
    go_at_call 19
    refine (as_once (w.heap.size + 1) q (.pointer none) _ E2.out F2.out (by omega)).mono ?_
    rintro e w9 ⟨rfl, hs, hF⟩
    have cF := hF.cells
    have K9 : Hid (Keep w w9) := Lib.hid ((K0.out.trans K2.out).butNew hs.1 (fun x hx => by subst hx; omega))
    have NQ : q ≠ w.heap.size + 1 := by
      rintro rfl
      have e1 := HB.out.cells 0
      rw [F2.out.cells 0] at e1
      simp at e1
    have HQ := Lib.hid (HB.out.but hs.1 NQ)
    clear hs hF
    go_wp2_with fail
    go_ret
    refine ⟨_, rfl, ?_, K9.out⟩
    rw [EQ.out]
    exact oerr_again HV.out HQ.out
  obtain rfl : v = .nilIface := OErr.good hv z
  have Z3 := Lib.hid z
  have KK3 := Lib.hid (KK.out.trans hk)
  clear hv hk z KK
  have KK := Lib.hid KK3.out
  have co0 := (BO.out.keep KK.out).cells
  have cl0 := (BL.out.keep KK.out).cells
  clear KK3
  go_wp2_with (go_at_call 19; refine (as_nil _ _).mono ?_; rintro e w' ⟨rfl, rfl⟩)
  rw [rounds_succ]
  go_wp2_with fail
  refine (C4.out _ (K0.out.trans KK.out)).mono ?_
  rintro e w5 ⟨v, rfl, hv, hk⟩
  clear co0 cl0
  by_cases z : (prtW i).2.2 = 0
  rotate_left
  · obtain ⟨q, rfl, hB⟩ := OErr.box hv z
    have EQ : Hid (imgW i = (prtW i)) := Lib.hid (by
      rw [OW.out]
      rw [orI_zero Z0.out]
      rw [orI_zero Z1.out]
      rw [orI_zero Z2.out]
      rw [orI_zero Z3.out]
      exact orI_not z)
    have HV := Lib.hid (hv)
    have HB := Lib.hid hB
    have K2 := Lib.hid (KK.out.trans hk)
    have E2 := Lib.hid (HE.out.keep (K0.out.trans K2.out))
    have F2 := Lib.hid (BF.out.keep K2.out)
    clear hv hB hk z
    unfold faultP
    go_wp2_with fail
    go_at_call 19
    refine (as_once (w.heap.size + 1) q (.pointer none) _ E2.out F2.out (by omega)).mono ?_
    rintro e w9 ⟨rfl, hs, hF⟩
    have cF := hF.cells
    have K9 : Hid (Keep w w9) := Lib.hid ((K0.out.trans K2.out).butNew hs.1 (fun x hx => by subst hx; omega))
    have NQ : q ≠ w.heap.size + 1 := by
      rintro rfl
      have e1 := HB.out.cells 0
      rw [F2.out.cells 0] at e1
      simp at e1
    have HQ := Lib.hid (HB.out.but hs.1 NQ)
    clear hs hF
    go_wp2_with fail
    go_ret
    refine ⟨_, rfl, ?_, K9.out⟩
    rw [EQ.out]
    exact oerr_again HV.out HQ.out
  obtain rfl : v = .nilIface := OErr.good hv z
  have Z4 := Lib.hid z
  have KK4 := Lib.hid (KK.out.trans hk)
  clear hv hk z KK
  have KK := Lib.hid KK4.out
  have co0 := (BO.out.keep KK.out).cells
  have cl0 := (BL.out.keep KK.out).cells
  clear KK4
  go_wp2_with (go_at_call 19; refine (as_nil _ _).mono ?_; rintro e w' ⟨rfl, rfl⟩)
  rw [rounds_succ]
  go_wp2_with fail
  refine (C5.out _ (K0.out.trans KK.out) (firstE_zero (fstW_ok Z3.out))).mono ?_
  rintro e w6 ⟨v, rfl, hv, hk⟩
  clear co0 cl0
  by_cases z : (entW i).2.2 = 0
  rotate_left
  · obtain ⟨q, rfl, hB⟩ := OErr.box hv z
    have EQ : Hid (imgW i = (entW i)) := Lib.hid (by
      rw [OW.out]
      rw [orI_zero Z0.out]
      rw [orI_zero Z1.out]
      rw [orI_zero Z2.out]
      rw [orI_zero Z3.out]
      rw [orI_zero Z4.out]
      exact orI_not z)
    have HV := Lib.hid (hv)
    have HB := Lib.hid hB
    have K2 := Lib.hid (KK.out.trans hk)
    have E2 := Lib.hid (HE.out.keep (K0.out.trans K2.out))
    have F2 := Lib.hid (BF.out.keep K2.out)
    clear hv hB hk z
    unfold faultP
    go_wp2_with fail
    go_at_call 19
    refine (as_once (w.heap.size + 1) q (.pointer none) _ E2.out F2.out (by omega)).mono ?_
    rintro e w9 ⟨rfl, hs, hF⟩
    have cF := hF.cells
    have K9 : Hid (Keep w w9) := Lib.hid ((K0.out.trans K2.out).butNew hs.1 (fun x hx => by subst hx; omega))
    have NQ : q ≠ w.heap.size + 1 := by
      rintro rfl
      have e1 := HB.out.cells 0
      rw [F2.out.cells 0] at e1
      simp at e1
    have HQ := Lib.hid (HB.out.but hs.1 NQ)
    clear hs hF
    go_wp2_with fail
    go_ret
    refine ⟨_, rfl, ?_, K9.out⟩
    rw [EQ.out]
    exact oerr_again HV.out HQ.out
  obtain rfl : v = .nilIface := OErr.good hv z
  have Z5 := Lib.hid z
  have KK5 := Lib.hid (KK.out.trans hk)
  clear hv hk z KK
  have KK := Lib.hid KK5.out
  have co0 := (BO.out.keep KK.out).cells
  have cl0 := (BL.out.keep KK.out).cells
  clear KK5
  go_wp2_with (go_at_call 19; refine (as_nil _ _).mono ?_; rintro e w' ⟨rfl, rfl⟩)
  rw [rounds_succ]
  go_wp2_with fail
  refine (C6.out _ (K0.out.trans KK.out)).mono ?_
  rintro e w7 ⟨v, rfl, hv, hk⟩
  clear co0 cl0
  by_cases z : (iniW i).2.2 = 0
  rotate_left
  · obtain ⟨q, rfl, hB⟩ := OErr.box hv z
    have EQ : Hid (imgW i = (iniW i)) := Lib.hid (by
      rw [OW.out]
      rw [orI_zero Z0.out]
      rw [orI_zero Z1.out]
      rw [orI_zero Z2.out]
      rw [orI_zero Z3.out]
      rw [orI_zero Z4.out]
      rw [orI_zero Z5.out]
      exact orI_not z)
    have HV := Lib.hid (hv)
    have HB := Lib.hid hB
    have K2 := Lib.hid (KK.out.trans hk)
    have E2 := Lib.hid (HE.out.keep (K0.out.trans K2.out))
    have F2 := Lib.hid (BF.out.keep K2.out)
    clear hv hB hk z
    unfold faultP
    go_wp2_with fail
    go_at_call 19
    refine (as_once (w.heap.size + 1) q (.pointer none) _ E2.out F2.out (by omega)).mono ?_
    rintro e w9 ⟨rfl, hs, hF⟩
    have cF := hF.cells
    have K9 : Hid (Keep w w9) := Lib.hid ((K0.out.trans K2.out).butNew hs.1 (fun x hx => by subst hx; omega))
    have NQ : q ≠ w.heap.size + 1 := by
      rintro rfl
      have e1 := HB.out.cells 0
      rw [F2.out.cells 0] at e1
      simp at e1
    have HQ := Lib.hid (HB.out.but hs.1 NQ)
    clear hs hF
    go_wp2_with fail
    go_ret
    refine ⟨_, rfl, ?_, K9.out⟩
    rw [EQ.out]
    exact oerr_again HV.out HQ.out
  obtain rfl : v = .nilIface := OErr.good hv z
  have Z6 := Lib.hid z
  have KK6 := Lib.hid (KK.out.trans hk)
  clear hv hk z KK
  have KK := Lib.hid KK6.out
  have co0 := (BO.out.keep KK.out).cells
  have cl0 := (BL.out.keep KK.out).cells
  clear KK6
  go_wp2_with (go_at_call 19; refine (as_nil _ _).mono ?_; rintro e w' ⟨rfl, rfl⟩)
  rw [rounds_succ]
  go_wp2_with fail
  refine (C7.out _ (K0.out.trans KK.out)).mono ?_
  rintro e w8 ⟨v, rfl, hv, hk⟩
  clear co0 cl0
  by_cases z : (staW i).2.2 = 0
  rotate_left
  · obtain ⟨q, rfl, hB⟩ := OErr.box hv z
    have EQ : Hid (imgW i = (staW i)) := Lib.hid (by
      rw [OW.out]
      rw [orI_zero Z0.out]
      rw [orI_zero Z1.out]
      rw [orI_zero Z2.out]
      rw [orI_zero Z3.out]
      rw [orI_zero Z4.out]
      rw [orI_zero Z5.out]
      rw [orI_zero Z6.out]
      )
    have HV := Lib.hid (hv)
    have HB := Lib.hid hB
    have K2 := Lib.hid (KK.out.trans hk)
    have E2 := Lib.hid (HE.out.keep (K0.out.trans K2.out))
    have F2 := Lib.hid (BF.out.keep K2.out)
    clear hv hB hk z
    unfold faultP
    go_wp2_with fail
    go_at_call 19
    refine (as_once (w.heap.size + 1) q (.pointer none) _ E2.out F2.out (by omega)).mono ?_
    rintro e w9 ⟨rfl, hs, hF⟩
    have cF := hF.cells
    have K9 : Hid (Keep w w9) := Lib.hid ((K0.out.trans K2.out).butNew hs.1 (fun x hx => by subst hx; omega))
    have NQ : q ≠ w.heap.size + 1 := by
      rintro rfl
      have e1 := HB.out.cells 0
      rw [F2.out.cells 0] at e1
      simp at e1
    have HQ := Lib.hid (HB.out.but hs.1 NQ)
    clear hs hF
    go_wp2_with fail
    go_ret
    refine ⟨_, rfl, ?_, K9.out⟩
    rw [EQ.out]
    exact oerr_again HV.out HQ.out
  obtain rfl : v = .nilIface := OErr.good hv z
  have Z7 := Lib.hid z
  have KK7 := Lib.hid (KK.out.trans hk)
  clear hv hk z KK
  have KK := Lib.hid KK7.out
  have co0 := (BO.out.keep KK.out).cells
  have cl0 := (BL.out.keep KK.out).cells
  clear KK7
  go_wp2_with (go_at_call 19; refine (as_nil _ _).mono ?_; rintro e w' ⟨rfl, rfl⟩)
  rw [rounds_succ]
  go_wp2_with fail
  go_ret
  refine ⟨_, rfl, ?_, K0.out.trans KK.out⟩
  rw [OW.out, orI_zero Z0.out, orI_zero Z1.out, orI_zero Z2.out, orI_zero Z3.out, orI_zero Z4.out, orI_zero Z5.out, orI_zero Z6.out, staW_ok Z7.out]
  exact .isOk
theorem iCheck : PImgCheck ErrT := fun i vp vs vi vb ves w h hn hm hp => (icheck_any i vp vs vi vb ves w h hm hn hp).mono fun _ _ ⟨v, h1, h2, h3⟩ => ⟨h3, v, h1, h2⟩
end Go.Proofs.YtmcbeclkocjlkaaDoor
