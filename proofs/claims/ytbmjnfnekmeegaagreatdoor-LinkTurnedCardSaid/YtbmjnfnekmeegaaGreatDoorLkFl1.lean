/- The linker's fill. -/
import Derived.Test.YtbmjnfnekmeegaaGreatDoorGLkD

namespace Go.Proofs.YtbmjnfnekmeegaaGreatDoor
set_option linter.unusedVariables false
set_option linter.unusedSimpArgs false
open Go Go.RowKit
set_option maxHeartbeats 16000000 in
set_option maxRecDepth 100000 in
theorem lkfill_any (b : Nat) (m : ManV) (vc vi vs vg : Value) (l : List ObjV) (vl : Value) (qs : List V4) (ps ss st ad : Value) (size : Int) (H : LnkOk m l) (hm : ManMay m) (hf : ObjsFew l) (ha : LkAll m l qs) (hi : ∀ x ∈ m.imps, hasC m.comps x.from_ = true) (hs : hasC m.comps m.start.from_ = true) (hne : 0 < m.comps.length) (PH : PlH m l) (NU : ImgNum (lnkI m l size))
    (ves : List Value) (hnv : ves.length = (lparts l m.comps 16).length) (hvs : ∀ (j : Nat) (v : Value), ves[j]? = some v → ∃ pv nv cv, v = .slice pv nv cv) (lo hi' : Nat) (w0 w : World) (hM : ManAt w0 m vc vi vs vg) (hO : ObjsAt w0 vl l qs) (hk0 : Keep w0 w) (hb0 : w0.heap.size ≤ b) (hlo : b < lo) (hhi : hi' ≤ w.heap.size) (hP : RowOf lo hi' w ps (lparts l m.comps 16).length (partRows (lparts l m.comps 16) ves)) (hS : RowOf lo hi' w ss (lshares m.shrs (lend l m.comps 16)).length (spanRows (lshares m.shrs (lend l m.comps 16)))) (hbx : Box w b #[vc, vi, vs, vg, .string m.start.comp, .string m.start.from_, .string m.start.name, vl, .int .u32 size, ps, ss, .slice none 0 0, st, ad, .slice none 0 0]) :
    Calls Tryz.prog 30 #[.pointer (some ⟨b, 0, none⟩)] w fun e w' => ∃ u isv bsv, e = .returned u ∧ KeepBut (fun z => z = b) w w' ∧ Box w' b #[vc, vi, vs, vg, .string m.start.comp, .string m.start.from_, .string m.start.name, vl, .int .u32 size, ps, ss, isv, .int .i64 (lnkI m l size).start, .int .u32 (lnkI m l size).addr, bsv] ∧ RowOf w.heap.size w'.heap.size w' isv (lnkI m l size).inits.length (initRows (lnkI m l size).inits) ∧ RowOf w.heap.size w'.heap.size w' bsv (lnkI m l size).bytes.length ((lnkI m l size).bytes.map byteV) := by
  have hblt := hbx.lt
  have hps0 : 0 < (lparts l m.comps 16).length := by rw [lparts_len]; exact hne
  obtain ⟨pp, off, capp, rfl, hpp1, hpp2, hpp3, hpx⟩ := rowParts hP hnv hps0
  have HPX := Lib.hid hpx
  obtain ⟨nc, hnc⟩ : ∃ nc, m.comps.length = nc + 1 := ⟨m.comps.length - 1, by omega⟩
  have HNC := Lib.hid hnc
  have hpl : (lparts l m.comps 16).length = nc + 1 := by rw [lparts_len]; exact hnc
  rw [hpl] at hbx
  have HB := Lib.hid hbx
  have HM := Lib.hid hM
  have HO := Lib.hid hO
  have HK0 := Lib.hid hk0
  have HA := Lib.hid ha
  have HPH := Lib.hid PH
  have HF := Lib.hid hf
  have HMM := Lib.hid hm
  have HH := Lib.hid H
  have HI := Lib.hid hi
  have HST := Lib.hid hs
  have HNU := Lib.hid NU
  have HNV := Lib.hid hnv
  have HVS := Lib.hid hvs
  have HP := Lib.hid hP
  have HS := Lib.hid hS
  have h8 := PH.comps
  obtain ⟨cl, hcl⟩ : ∃ cl, m.comps[nc]? = some cl := ⟨_, List.getElem?_eq_getElem (by omega)⟩
  have hpn : (lparts l m.comps 16)[nc]? = some (lpart l cl (lend l (m.comps.take nc) 16)) := by
    obtain ⟨q1, rfl⟩ := List.getElem?_eq_some_iff.1 hcl
    exact lparts_at m.comps 16 nc q1
  obtain ⟨_, _, _, _, _, x3, x4, _⟩ := hpx nc _ hpn
  obtain ⟨N, hN⟩ : ∃ N, N = (lbytes l m.comps 16 []).length := ⟨_, rfl⟩
  have hlast := lbk_last PH hcl hnc.symm
  rw [← hN] at hlast
  have hcm := List.mem_of_getElem? hcl
  rw [(lpart_of PH hcm _ rfl).1] at x3 x4
  dsimp only at x3 x4
  obtain ⟨da, hda⟩ : ∃ da, da = lend l (m.comps.take nc) 16 + fillN (objOf l cl.name).code.length := ⟨_, rfl⟩
  obtain ⟨dn, hdn⟩ : ∃ dn, dn = (objOf l cl.name).data.length := ⟨_, rfl⟩
  rw [← hda] at x3 hlast
  rw [← hdn] at x4 hlast
  have hle := lend_k PH nc
  obtain ⟨_, f1, f2, _⟩ := PH.obj cl hcm
  have f3 := fillN_le f1
  have hdb : 0 ≤ da ∧ da ≤ 42000 ∧ dn ≤ 500 := by omega
  have hNb : N ≤ 42500 := by omega
  have HNN := Lib.hid hN
  clear hvs hpx hpn hda hdn hcm hcl hN hle f1 f2 f3 hbx hM hO hk0 ha PH hf hm H hi hs NU hnv hP hS hps0 hpl hne hnc
  have hn7 : nc ≤ 7 := by have := HNC.out; omega
  have wr1 : IntKind.i64.wrap ((nc : Int) + 1 - 1) = (nc : Int) := by rw [IntKind.wrap_i64]; omega
  have wr0 : IntKind.i64.wrap (nc : Int) = (nc : Int) := by rw [IntKind.wrap_i64]; omega
  have hn0 : (0 : Int) ≤ (nc : Int) := by omega
  have hn01 : (nc : Int) < (nc : Int) + 1 := by omega
  have wr2 : IntKind.u32.wrap (da + (dn : Int)) = (N : Int) := by rw [IntKind.wrap_u32]; omega
  have bx := HB.out.cells
  go_enter Tryz.func30, Tryz.ntmps30
  go_wp2_with fail
  refine Rel.regionP (KeepBut (fun z => w.heap.size ≤ z)) (butWay _) [] [0, 1, 2, 3, 4, 5, 6, 7, 8, 9, 10, 11, 12] 2 (by kernel_rfl) (by kernel_rfl) (Keep.refl _) ?_
  repeat (apply Rel.pre_step (by rfl) (by rfl) (by rfl)
          · intro W' hW'
            have c1 := (HB.out.but hW' (by omega)).cells
            have d3 := ocell_but hW' hpp3 (by omega) x3
            have d4 := ocell_but hW' hpp3 (by omega) x4
            go_simp
            exact ⟨rfl, Keep.refl _⟩
          go_simp)
  apply Rel.pre_end
  have KR : Hid (Keep w w.drew) := Lib.hid (Keep.refl _).drew
  apply Rel.every_one 13 (by kernel_rfl) (by rfl) (by rfl)
  intro W1 h1
  go_simp
  apply Rel.gives_value
  refine ⟨((Keep.refl _).alloc _).but _, ?_⟩
  have BT := Lib.hid (Box.new W1 #[.int .u32 0, .int .u32 0] 80)
  obtain ⟨tb, htb⟩ : ∃ tb, tb = W1.heap.size := ⟨_, rfl⟩
  rw [← htb] at BT ⊢
  have h1w : w.heap.size ≤ tb := by rw [htb]; exact h1.size
  have KW := Lib.hid (h1.alloc (.cells #[.int .u32 0, .int .u32 0] 80))
  obtain ⟨WB, hWB⟩ : ∃ WB, WB = W1.alloc (.cells #[.int .u32 0, .int .u32 0] 80) := ⟨_, rfl⟩
  rw [← hWB] at KW BT ⊢
  clear hWB htb h1
  go_simp
  apply Rel.every_one 14 (by kernel_rfl) (by rfl) (by rfl)
  intro W2 h2
  have BTx := BT.out.keep h2
  have KW2 := Lib.hid (KW.out.trans h2)
  have ct := BTx.cells
  have ft := BTx.thawed
  go_simp
  apply Rel.gives_skip
  obtain ⟨W4, hW4⟩ : ∃ W4, W4 = ((W2.setCell ⟨tb, 0, none⟩ (.int .u32 da)).setCell ⟨tb, 1, none⟩ (.int .u32 (dn : Int))) := ⟨_, rfl⟩
  rw [← hW4]
  have BS0 : Hid (Box W4 tb #[.int .u32 da, .int .u32 (dn : Int)]) := Lib.hid (by rw [hW4]; simpa using ((BTx.set 0 (.int .u32 da)).set 1 (.int .u32 (dn : Int))))
  have KW4 : Hid (Keep w W4) := Lib.hid (by rw [hW4]; exact Keep.setAt h1w (Keep.setAt h1w KW2.out _) _)
  have K24 : KeepBut (fun z => w.heap.size ≤ z) W2 W4 := by
    rw [hW4]
    exact KeepBut.setAt (S := fun z => w.heap.size ≤ z) (.inl h1w) (KeepBut.setAt (S := fun z => w.heap.size ≤ z) (.inl h1w) (KeepBut.refl _ _) _) _
  refine ⟨K24, ?_⟩
  clear hW4 K24 ct ft BTx KW2 BT KW h2
  go_simp
  refine Rel.every_end (by kernel_rfl) ?_
  intro WA hA
  have KA := Lib.hid (KW4.out.trans hA)
  have BA := Lib.hid (BS0.out.keep hA)
  clear KW4 BS0 hA
  obtain ⟨MC, hMC, hmk⟩ := make_bytes N (by omega)
  replace hmk := hmk WA
  have HMC := Lib.hid hMC
  have hmk' := hmk
  rw [hlast] at hmk'
  have ba := BA.out.cells
  obtain ⟨W1, hW1⟩ : ∃ W1, W1 = WA.alloc (.cells MC 5) := ⟨_, rfl⟩
  rw [← hW1] at hmk'
  have BB1 : Hid (Box W1 WA.heap.size MC) := Lib.hid (by rw [hW1]; exact Box.new _ _ _)
  have K1 : Hid (Keep w W1) := Lib.hid (by rw [hW1]; exact KA.out.alloc _)
  have bw := (HB.out.keep K1.out).cells
  have fw := (HB.out.keep K1.out).thawed
  obtain ⟨pb, hpbe⟩ : ∃ pb, pb = WA.heap.size := ⟨_, rfl⟩
  have hpb : w.heap.size ≤ pb := by rw [hpbe]; exact KA.out.size
  rw [← hpbe] at BB1 hmk'
  have FS0 : Hid (FS w b (#[vc, vi, vs, vg, .string m.start.comp, .string m.start.from_, .string m.start.name, vl, .int .u32 size, .slice (some ⟨pp, off, none⟩) (nc + 1) capp, ss, .slice none 0 0, st, ad, .slice (some ⟨pb, 0, none⟩) N N]) pb (zrow N []) (.slice none 0 0) [] (W1.setCell ⟨b, 14, none⟩ (.slice (some ⟨pb, 0, none⟩) N N))) := Lib.hid (FS.store (X := #[vc, vi, vs, vg, .string m.start.comp, .string m.start.from_, .string m.start.name, vl, .int .u32 size, .slice (some ⟨pp, off, none⟩) (nc + 1) capp, ss, .slice none 0 0, st, ad, .slice none 0 0]) ⟨K1.out.but _, HB.out.keep K1.out, ⟨MC, BB1.out, HMC.out⟩, ⟨by simp [initRows], .inl ⟨rfl, rfl⟩⟩⟩ hblt hpb 14 _ rfl)
  obtain ⟨WF, hWF⟩ : ∃ WF, WF = W1.setCell ⟨b, 14, none⟩ (.slice (some ⟨pb, 0, none⟩) N N) := ⟨_, rfl⟩
  rw [← hWF] at FS0
  have HWF := Lib.hid hWF
  clear hMC x3 x4 bx hmk hW1 hpbe hWF
  go_wp2_with fail
  rw [← HWF.out]
  clear HWF bw fw hmk' ba hlast wr1 wr2 hdb
  go_loopw [39] (fun i wr => ∃ (k : Nat) (isv : Value), k ≤ nc + 1 ∧ i = .int .i64 (k : Int) ∧ FS w b (#[vc, vi, vs, vg, .string m.start.comp, .string m.start.from_, .string m.start.name, vl, .int .u32 size, .slice (some ⟨pp, off, none⟩) (nc + 1) capp, ss, isv, st, ad, .slice (some ⟨pb, 0, none⟩) N N]) pb (zrow N (lbk m l k)) isv (linits m l (lparts l m.comps 16) (lshares m.shrs (lend l m.comps 16)) (m.comps.take k) 0) wr) (fun i _ => nc + 1 - (intOf i).toNat)
  case atStart => exact ⟨0, .slice none 0 0, Nat.zero_le _, rfl, by rw [List.take_zero]; exact FS0.out⟩
  case round =>
    obtain ⟨k, isv, hk, rfl, hF⟩ := hrel
    obtain ⟨wq, hwq⟩ : ∃ x, x = wr := ⟨_, rfl⟩
    subst hwq
    have HFQ := Lib.hid hF
    clear hF FS0 K1 BB1 BA KA HMC
    by_cases hlt : k < nc + 1
    · obtain ⟨cc, hcc⟩ : ∃ cc, m.comps[k]? = some cc := ⟨_, List.getElem?_eq_getElem (by rw [HNC.out]; exact hlt)⟩
      obtain ⟨ko, o, q, HL, hfo⟩ := HA.out k cc hcc
      have Kw : Hid (Keep w0 wq) := Lib.hid (HK0.out.butNew HFQ.out.but (fun x hx => by rw [hx]; exact hb0))
      have HOA := Lib.hid (HO.out.at_ ko o q HL.obj HL.val)
      obtain ⟨pa, ca, pb', cb', pd, cd, pe, ce, rfl⟩ := HOA.out.sls
      have ho : o ∈ l := List.mem_of_getElem? HL.obj
      have hcm : cc ∈ m.comps := List.mem_of_getElem? hcc
      have hoo : objOf l cc.name = o := objOf_find hfo
      obtain ⟨n1, hn1⟩ : ∃ n, n = o.code.length := ⟨_, rfl⟩
      obtain ⟨n2, hn2⟩ : ∃ n, n = o.data.length := ⟨_, rfl⟩
      obtain ⟨n3, hn3⟩ : ∃ n, n = o.syms.length := ⟨_, rfl⟩
      obtain ⟨n4, hn4⟩ : ∃ n, n = o.rels.length := ⟨_, rfl⟩
      have CO : Hid (∀ W isv', LkAt W b m vc vi vs vg l vl qs (.int .u32 size) (.slice (some ⟨pp, off, none⟩) (nc + 1) capp) ss isv' st ad (.slice (some ⟨pb, 0, none⟩) N N) → Calls Tryz.prog 67 #[.pointer (some ⟨b, 0, none⟩), .int .i64 (k : Int)] W fun e w' => e = .returned (.agg #[.string o.name, .slice pa n1 ca, .slice pb' n2 cb', .slice pd n3 cd, .slice pe n4 ce]) ∧ Keep W w') :=
        Lib.hid (fun W isv' hW => by rw [hn1, hn2, hn3, hn4]; exact lkobject_any b m vc vi vs vg l vl qs (.int .u32 size) _ ss isv' st ad _ k cc ko o _ HL W hW (by have := HF.out.len; omega))
      have HCC : Hid (∀ W, Keep w0 W → CellsAt W pa (o.code.map byteV)) := Lib.hid (fun W hW => by
        obtain ⟨_, _, e, _, _, g⟩ := HOA.out.code.keep hW
        cases e
        exact g)
      have HCD : Hid (∀ W, Keep w0 W → CellsAt W pb' (o.data.map byteV)) := Lib.hid (fun W hW => by
        obtain ⟨_, _, e, _, _, g⟩ := HOA.out.data.keep hW
        cases e
        exact g)
      have hpn : (lparts l m.comps 16)[k]? = some (lpart l cc (lend l (m.comps.take k) 16)) := by
        obtain ⟨q1, rfl⟩ := List.getElem?_eq_some_iff.1 hcc
        exact lparts_at m.comps 16 k q1
      obtain ⟨ve, hve, d0, d1, d2, d3, d4, d5, d6, d7⟩ := HPX.out k _ hpn
      obtain ⟨vp, vn, vcp, rfl⟩ := HVS.out k ve hve
      rw [(lpart_of HPH.out hcm _ hoo).1, ← hn1, ← hn2] at d0 d1 d2 d3 d4 d5 d6
      dsimp only at d0 d1 d2 d3 d4 d5 d6
      have LB := lbk_in HPH.out hcc
      have HLB : Hid (padL (padL (lbk m l k) (lend l (m.comps.take k) 16) o.code) (lend l (m.comps.take k) 16 + fillN n1) o.data = lbk m l (k + 1)) := Lib.hid (by unfold lbk; rw [lbytes_snoc hcc, hoo, hn1])
      rw [hoo, ← hn1, ← hn2, ← HNN.out] at LB
      have g1 := lend_k HPH.out k
      obtain ⟨_, g2, g3, g4⟩ := HPH.out.obj cc hcm
      rw [hoo] at g2 g3 g4
      have g5 : n1 ≠ 0 := by
        have := (HH.out.obj_of hcm).code
        rw [hoo] at this
        omega
      obtain ⟨fn, hfn⟩ : ∃ fn : Nat, fillN n1 = (fn : Int) := ⟨(n1 + 15) / 16 * 16, rfl⟩
      have g6 : n1 ≤ fn ∧ fn ≤ 512 := by unfold fillN at hfn; omega
      obtain ⟨xn, hxn⟩ : ∃ xn : Nat, lend l (m.comps.take k) 16 = (xn : Int) := ⟨(lend l (m.comps.take k) 16).toNat, by omega⟩
      obtain ⟨dx, hdx⟩ : ∃ dx : Nat, dx = xn + fn := ⟨_, rfl⟩
      have hdx' : (xn : Int) + (fn : Int) = (dx : Int) := by omega
      simp only [hfn, hxn, hdx'] at d1 d2 d3 d4 d5 d6 LB HLB
      obtain ⟨sx, hsx⟩ : ∃ sx, sx = (dx : Int) + (n2 : Int) := ⟨_, rfl⟩
      rw [← hsx] at d5
      obtain ⟨cn, hcn⟩ : ∃ cn, cn = cc.name := ⟨_, rfl⟩
      obtain ⟨cs, hcs⟩ : ∃ cs, cs = cc.stack := ⟨_, rfl⟩
      rw [← hcn] at d0
      rw [← hcs] at d6
      have hb3 : xn < N ∧ xn + n1 ≤ N ∧ dx ≤ N ∧ dx + n2 ≤ N ∧ (lbk m l k).length ≤ xn ∧ xn + n1 ≤ dx := by omega
      obtain ⟨hx1, hx2, hx3, hx4, hx5, hx6⟩ := hb3
      have hx7 : xn ≤ N := by omega
      have hx8 : ¬ N = xn := by omega
      have hx9 : (xn : Int) ≤ (N : Int) := by omega
      have hx10 : (dx : Int) ≤ (N : Int) := by omega
      have hn1' : o.code.length = n1 := hn1.symm
      have hn2' : o.data.length = n2 := hn2.symm
      have hpl1 : Hid ((padL (lbk m l k) (xn : Int) o.code).length ≤ dx) := Lib.hid (by
        have := pad_len (c := o.code) (show ((lbk m l k).length : Int) ≤ (xn : Int) by omega)
        rw [hn1'] at this
        omega)
      have c0 := ocell_but HFQ.out.but hpp3 (by omega) d0
      have c1 := ocell_but HFQ.out.but hpp3 (by omega) d1
      have c2 := ocell_but HFQ.out.but hpp3 (by omega) d2
      have c3 := ocell_but HFQ.out.but hpp3 (by omega) d3
      have c4 := ocell_but HFQ.out.but hpp3 (by omega) d4
      have c5 := ocell_but HFQ.out.but hpp3 (by omega) d5
      have c6 := ocell_but HFQ.out.but hpp3 (by omega) d6
      have c7 := ocell_but HFQ.out.but hpp3 (by omega) d7
      have HRS : Hid ((linits m l (lparts l m.comps 16) (lshares m.shrs (lend l m.comps 16)) (m.comps.take k) 0).length + n4 ≤ 512) := Lib.hid (by
        have := linits_few (l := l) (ps := (lparts l m.comps 16)) (ss := (lshares m.shrs (lend l m.comps 16))) hcc
        rw [hoo, ← hn4] at this
        have := HH.out.rels
        omega)
      have HIN : Hid (∀ r ∈ o.rels, linit m l (lparts l m.comps 16) (lshares m.shrs (lend l m.comps 16)) k o r ∈ (lnkI m l size).inits) := Lib.hid (fun r hr => by
        have := linits_in (l := l) (ps := (lparts l m.comps 16)) (ss := (lshares m.shrs (lend l m.comps 16))) hcc (r := r) (by rw [hoo]; exact hr)
        rw [hoo] at this
        exact this)
      have HSN : Hid (linits m l (lparts l m.comps 16) (lshares m.shrs (lend l m.comps 16)) (m.comps.take (k + 1)) 0 = linits m l (lparts l m.comps 16) (lshares m.shrs (lend l m.comps 16)) (m.comps.take k) 0 ++ o.rels.map fun x => linit m l (lparts l m.comps 16) (lshares m.shrs (lend l m.comps 16)) k o x) := Lib.hid (by rw [linits_snoc hcc, hoo])
      have HKK := Lib.hid (And.intro hcc (And.intro hoo hn4))
      obtain ⟨Wa, hWa⟩ : ∃ Wa, Wa = wq.alloc (.cells #[.string cn, .int .u32 (xn : Int), .int .u32 (fn : Int), .int .u32 (dx : Int), .int .u32 (n2 : Int), .int .u32 sx, .int .u32 cs, .slice vp vn vcp] 83) := ⟨_, rfl⟩
      have KWa : Hid (Keep wq Wa) := Lib.hid (by rw [hWa]; exact (Keep.refl _).alloc _)
      have BPa : Hid (Box Wa wq.heap.size #[.string cn, .int .u32 (xn : Int), .int .u32 (fn : Int), .int .u32 (dx : Int), .int .u32 (n2 : Int), .int .u32 sx, .int .u32 cs, .slice vp vn vcp]) := Lib.hid (by rw [hWa]; exact Box.new _ _ _)
      have LKa : Hid (LkAt Wa b m vc vi vs vg l vl qs (.int .u32 size) (.slice (some ⟨pp, off, none⟩) (nc + 1) capp) ss isv st ad (.slice (some ⟨pb, 0, none⟩) N N)) := Lib.hid ⟨HFQ.out.box.keep KWa.out, HM.out.keep (Kw.out.trans KWa.out), HO.out.keep (Kw.out.trans KWa.out)⟩
      have hkn : (k : Int) < (nc : Int) + 1 := by omega
      have hpbq : pb < wq.heap.size := by obtain ⟨_, a, _⟩ := HFQ.out.byt; exact a.lt
      have HLT := Lib.hid hlt
      clear d0 d1 d2 d3 d4 d5 d6 d7 hpn hve LB g1 g2 g3 g4 g5 g6 hfn hxn hdx hdx' hsx hcn hcs ho hcm hoo hn1 hn2 hn3 hn4 HL hfo hcc hlt
      go_wp2_with fail
      rw [← hWa]
      refine (CO.out Wa isv LKa.out).mono ?_
      rintro e wb ⟨rfl, hkb⟩
      obtain ⟨Wc, hWc⟩ : ∃ Wc, Wc = wb.alloc (.cells #[.string o.name, .slice pa n1 ca, .slice pb' n2 cb', .slice pd n3 cd, .slice pe n4 ce] 76) := ⟨_, rfl⟩
      have KWc : Hid (Keep wq Wc) := Lib.hid (by rw [hWc]; exact (KWa.out.trans hkb).alloc _)
      have BP : Hid (Box Wc wq.heap.size #[.string cn, .int .u32 (xn : Int), .int .u32 (fn : Int), .int .u32 (dx : Int), .int .u32 (n2 : Int), .int .u32 sx, .int .u32 cs, .slice vp vn vcp]) := Lib.hid (by rw [hWc]; exact (BPa.out.keep hkb).alloc _)
      have BO : Hid (Box Wc wb.heap.size #[.string o.name, .slice pa n1 ca, .slice pb' n2 cb', .slice pd n3 cd, .slice pe n4 ce]) := Lib.hid (by rw [hWc]; exact Box.new _ _ _)
      have hsb : wq.heap.size ≤ wb.heap.size := (KWa.out.trans hkb).size
      obtain ⟨gp, hgp⟩ : ∃ gp, gp = wq.heap.size := ⟨_, rfl⟩
      have F := Lib.hid (HFQ.out.keep KWc.out)
      have KC := Lib.hid (Kw.out.trans KWc.out)
      have HWc := Lib.hid hWc
      clear hkb hWa c0 c1 c2 c3 c4 c5 c6 c7 hWc hgp LKa BPa KWa CO
      go_wp2_with fail
      rw [← HWc.out]
      clear HWc
      refine region_grows_tail 10 (Keep Wc) (by kernel_rfl) (by kernel_rfl) (Keep.refl _).drew ?_
      simp only [List.take_succ_cons, List.take_zero, List.drop_succ_cons, List.drop_zero]
      repeat (first
        | (apply text_pass (by rfl); go_simp)
        | (apply text_step (by rfl)
           · intro W hW
             have cb := (F.out.keep hW).box.cells
             have cp := (BP.out.keep hW).cells
             have co := (BO.out.keep hW).cells
             go_simp
             exact ⟨rfl, hW⟩
           go_simp))
      apply text_end
      intro Wd hd
      have F1 := F.out.keep hd
      have BP1 := BP.out.keep hd
      have BO1 := BO.out.keep hd
      have CC1 := HCC.out Wd (KC.out.trans hd)
      obtain ⟨vs1, B1, e1⟩ := F1.byt
      have h4 := B1.lt
      refine wpList_copy_box rfl (.tmp 54) (.tmp 56) 38 38 rfl 5 Tryz.underlying38 (by kernel_rfl) _ _ _ _ _ _ rfl rfl pb xn vs1 B1 (o.code.map byteV) (by rw [List.length_map, hn1']; show n1 = min _ _; omega) ?q1 (by rw [← Array.length_toList, e1]; simp only [List.length_map]; rw [zrow_length (by omega)]; omega) (by intro u hu; obtain ⟨y, _, rfl⟩ := List.mem_map.1 hu; rfl) ?q2
      case q1 =>
        intro hpos
        refine ⟨by simp, ?_⟩
        rcases CC1 with e | ⟨cb1, co1, e1, _, e2⟩
        · rw [e] at hpos; simp at hpos
        · exact ⟨_, e1, fun j u hj => by rw [Addr.add_lit]; exact e2 j u hj⟩
      case q2 =>
        intro w5 vs5 B5 e5 k5
        have F5 : FS w b (#[vc, vi, vs, vg, .string m.start.comp, .string m.start.from_, .string m.start.name, vl, .int .u32 size, .slice (some ⟨pp, off, none⟩) (nc + 1) capp, ss, isv, st, ad, .slice (some ⟨pb, 0, none⟩) N N]) pb (zrow N (padL (lbk m l k) (xn : Int) o.code)) isv (linits m l (lparts l m.comps 16) (lshares m.shrs (lend l m.comps 16)) (m.comps.take k) 0) w5 := F1.put hblt hpb B5 (by
          rw [e5, e1, ovr_map, zrow_put (by omega) (by omega)]) k5
        have F2 := Lib.hid F5
        replace BO := Lib.hid (BO1.but k5 (by omega))
        replace BP := Lib.hid (BP1.but k5 (by omega))
        have KC2 := Lib.hid (HK0.out.butNew F5.but (fun x hx => by rw [hx]; exact hb0))
        clear F5 F1 BP1 BO1 CC1 B1 e1 B5 e5 k5 hd F KC
        go_wp2_with fail
        by_cases hdx : dx < N
        · have hdxn : ¬ N = dx := by omega
          refine region_grows_tail 10 (Keep w5) (by kernel_rfl) (by kernel_rfl) (Keep.refl _).drew ?_
          simp only [List.take_succ_cons, List.take_zero, List.drop_succ_cons, List.drop_zero]
          repeat (first
            | (apply text_pass (by rfl); go_simp)
            | (apply text_step (by rfl)
               · intro W hW
                 have cb := (F2.out.keep hW).box.cells
                 have cp := (BP.out.keep hW).cells
                 have co := (BO.out.keep hW).cells
                 go_simp
                 exact ⟨rfl, hW⟩
               go_simp))
          apply text_end
          intro Wd hd
          have F4 := F2.out.keep hd
          have BP4 := BP.out.keep hd
          have BO4 := BO.out.keep hd
          have CD4 := HCD.out Wd (KC2.out.trans hd)
          obtain ⟨vs2, B4, e4⟩ := F4.byt
          have h4 := B4.lt
          refine wpList_copy_box rfl (.tmp 65) (.tmp 67) 38 38 rfl 5 Tryz.underlying38 (by kernel_rfl) _ _ _ _ _ _ rfl rfl pb dx vs2 B4 (o.data.map byteV) (by rw [List.length_map, hn2']; show n2 = min _ _; omega) ?p1 (by rw [← Array.length_toList, e4]; simp only [List.length_map]; rw [zrow_length (by have := hpl1.out; omega)]; omega) (by intro u hu; obtain ⟨y, _, rfl⟩ := List.mem_map.1 hu; rfl) ?p2
          case p1 =>
            intro hpos
            refine ⟨by simp, ?_⟩
            rcases CD4 with e | ⟨cb1, co1, e1, _, e2⟩
            · rw [e] at hpos; simp at hpos
            · exact ⟨_, e1, fun j u hj => by rw [Addr.add_lit]; exact e2 j u hj⟩
          case p2 =>
            intro w6 vs6 B6 e6 k6
            have F6 : FS w b (#[vc, vi, vs, vg, .string m.start.comp, .string m.start.from_, .string m.start.name, vl, .int .u32 size, .slice (some ⟨pp, off, none⟩) (nc + 1) capp, ss, isv, st, ad, .slice (some ⟨pb, 0, none⟩) N N]) pb (zrow N (lbk m l (k + 1))) isv (linits m l (lparts l m.comps 16) (lshares m.shrs (lend l m.comps 16)) (m.comps.take k) 0) w6 := F4.put hblt hpb B6 (by
              rw [e6, e4, ovr_map, zrow_put (by have := hpl1.out; omega) (by omega), HLB.out]) k6
            have F7 := Lib.hid F6
            have BO6 := BO4.but k6 (by omega)
            have co := BO6.cells
            clear F6 F4 BP4 BO4 CD4 B4 e4 B6 e6 k6 BO6 hd F2 KC2 BP BO HCD HCC
            go_wp2_with fail
            clear co
            go_loopw [72] (fun i wi => ∃ (j : Nat) (isv' : Value), j ≤ n4 ∧ i = .int .i64 (j : Int) ∧ FS w b (#[vc, vi, vs, vg, .string m.start.comp, .string m.start.from_, .string m.start.name, vl, .int .u32 size, .slice (some ⟨pp, off, none⟩) (nc + 1) capp, ss, isv', st, ad, .slice (some ⟨pb, 0, none⟩) N N]) pb (zrow N (lbk m l (k + 1))) isv' (linits m l (lparts l m.comps 16) (lshares m.shrs (lend l m.comps 16)) (m.comps.take k) 0 ++ (o.rels.take j).map fun x => linit m l (lparts l m.comps 16) (lshares m.shrs (lend l m.comps 16)) k o x) wi) (fun i _ => n4 - (intOf i).toNat)
            case atStart => exact ⟨0, isv, Nat.zero_le _, rfl, by rw [List.take_zero, List.map_nil, List.append_nil]; exact F7.out⟩
            case round =>
              obtain ⟨j, isv', hj, rfl, hF⟩ := hrel
              obtain ⟨wi, hwi⟩ : ∃ x, x = wr := ⟨_, rfl⟩
              subst hwi
              have HFI := Lib.hid hF
              clear hF F7
              by_cases hjl : j < n4
              · obtain ⟨r, hr⟩ : ∃ r, o.rels[j]? = some r := ⟨_, List.getElem?_eq_getElem (by rw [← HKK.out.2.2]; exact hjl)⟩
                have Kwi : Hid (Keep w0 wi) := Lib.hid (HK0.out.butNew HFI.out.but (fun x hx => by rw [hx]; exact hb0))
                have hrm : r ∈ o.rels := List.mem_of_getElem? hr
                obtain ⟨p5, cap5, e5, _, _, h5⟩ := (HOA.out.rels.keep Kwi.out).rowsAt (m := 5) (fun _ => rfl)
                obtain ⟨br, offr, rfl, hbr, hx5⟩ := (h5.resolve_left (fun e => by rw [e] at hr; simp at hr)).resolve_left (by decide)
                have xx := hx5 j r hr
                have CIN0 := Lib.hid (fun W (hW : FS w b (#[vc, vi, vs, vg, .string m.start.comp, .string m.start.from_, .string m.start.name, vl, .int .u32 size, .slice (some ⟨pp, off, none⟩) (nc + 1) capp, ss, isv', st, ad, .slice (some ⟨pb, 0, none⟩) N N]) pb (zrow N (lbk m l (k + 1))) isv' (linits m l (lparts l m.comps 16) (lshares m.shrs (lend l m.comps 16)) (m.comps.take k) 0 ++ (o.rels.take j).map fun x => linit m l (lparts l m.comps 16) (lshares m.shrs (lend l m.comps 16)) k o x) W) =>
                  lkinitial_any b m vc vi vs vg l vl qs (.int .u32 size) (.slice (some ⟨pp, off, none⟩) (nc + 1) capp) ss isv' st ad (.slice (some ⟨pb, 0, none⟩) N N) k _ HKK.out.1 r (by rw [HKK.out.2.1]; exact hrm) HH.out HMM.out HF.out HA.out HI.out ves HNV.out (by rw [HKK.out.2.1]; exact HNU.out.at_ _ (HIN.out r hrm)) (by rw [HKK.out.2.1]; exact HNU.out.iaddr _ (HIN.out r hrm)) W
                    ⟨hW.box, HM.out.keep (HK0.out.butNew hW.but (fun x hx => by rw [hx]; exact hb0)), HO.out.keep (HK0.out.butNew hW.but (fun x hx => by rw [hx]; exact hb0))⟩ (by
                      have z := (HP.out.but hW.but (fun z h1 h2 => by omega)).sl
                      rw [lparts_len] at z ⊢
                      rw [HNC.out] at z ⊢
                      exact z) (HS.out.but hW.but (fun z h1 h2 => by omega)).sl)
                rw [HKK.out.2.1] at CIN0
                have HTS : Hid ((linits m l (lparts l m.comps 16) (lshares m.shrs (lend l m.comps 16)) (m.comps.take k) 0 ++ (o.rels.take (j + 1)).map fun x => linit m l (lparts l m.comps 16) (lshares m.shrs (lend l m.comps 16)) k o x) = (linits m l (lparts l m.comps 16) (lshares m.shrs (lend l m.comps 16)) (m.comps.take k) 0 ++ (o.rels.take j).map fun x => linit m l (lparts l m.comps 16) (lshares m.shrs (lend l m.comps 16)) k o x) ++ [linit m l (lparts l m.comps 16) (lshares m.shrs (lend l m.comps 16)) k o r]) := Lib.hid (by
                  rw [List.take_add_one, hr, List.map_append, ← List.append_assoc]
                  rfl)
                have HIL : Hid ((linits m l (lparts l m.comps 16) (lshares m.shrs (lend l m.comps 16)) (m.comps.take k) 0 ++ (o.rels.take j).map fun x => linit m l (lparts l m.comps 16) (lshares m.shrs (lend l m.comps 16)) k o x).length + 1 ≤ 512) := Lib.hid (by
                  rw [List.length_append, List.length_map, List.length_take]
                  have := HRS.out
                  omega)
                obtain ⟨⟨xc, xa, xk, xd, xs, xr, xp⟩, hx⟩ : ∃ x, x = linit m l (lparts l m.comps 16) (lshares m.shrs (lend l m.comps 16)) k o r := ⟨_, rfl⟩
                rw [← hx] at HTS CIN0
                obtain ⟨rk, ro, rc, rn, rp⟩ := r
                have CIN : Hid (∀ W, FS w b (#[vc, vi, vs, vg, .string m.start.comp, .string m.start.from_, .string m.start.name, vl, .int .u32 size, .slice (some ⟨pp, off, none⟩) (nc + 1) capp, ss, isv', st, ad, .slice (some ⟨pb, 0, none⟩) N N]) pb (zrow N (lbk m l (k + 1))) isv' (linits m l (lparts l m.comps 16) (lshares m.shrs (lend l m.comps 16)) (m.comps.take k) 0 ++ (o.rels.take j).map fun x => linit m l (lparts l m.comps 16) (lshares m.shrs (lend l m.comps 16)) k o x) W → Calls Tryz.prog 79 #[.pointer (some ⟨b, 0, none⟩), .int .i64 (k : Int), .agg #[.int .i64 rk, .int .u32 ro, .string rc, .string rn, .int .u16 rp]] W fun e w' => e = .returned (.agg #[.int .i64 xc, .int .u32 xa, .int .i64 xk, .bool xd, .int .i64 xs, .int .u32 xr, .int .u16 xp]) ∧ Keep W w') := Lib.hid CIN0.out
                have y0 := xx 0 (.int .i64 rk) (by decide) rfl
                have y1 := xx 1 (.int .u32 ro) (by decide) rfl
                have y2 := xx 2 (.string rc) (by decide) rfl
                have y3 := xx 3 (.string rn) (by decide) rfl
                have y4 := xx 4 (.int .u16 rp) (by decide) rfl
                rw [Nat.add_zero] at y0
                cases e5
                have hji : (j : Int) < (n4 : Int) := by omega
                have HJL := Lib.hid hjl
                obtain ⟨Wg, hWg⟩ : ∃ Wg, Wg = wi.alloc (.cells #[.int .i64 rk, .int .u32 ro, .string rc, .string rn, .int .u16 rp] 137) := ⟨_, rfl⟩
                have P : Hid (FS w b (#[vc, vi, vs, vg, .string m.start.comp, .string m.start.from_, .string m.start.name, vl, .int .u32 size, .slice (some ⟨pp, off, none⟩) (nc + 1) capp, ss, isv', st, ad, .slice (some ⟨pb, 0, none⟩) N N]) pb (zrow N (lbk m l (k + 1))) isv' (linits m l (lparts l m.comps 16) (lshares m.shrs (lend l m.comps 16)) (m.comps.take k) 0 ++ (o.rels.take j).map fun x => linit m l (lparts l m.comps 16) (lshares m.shrs (lend l m.comps 16)) k o x) Wg) := Lib.hid (by rw [hWg]; exact HFI.out.keep ((Keep.refl _).alloc _))
                have BR : Hid (Box Wg wi.heap.size #[.int .i64 rk, .int .u32 ro, .string rc, .string rn, .int .u16 rp]) := Lib.hid (by rw [hWg]; exact Box.new _ _ _)
                have hbi : b < wi.heap.size := HFI.out.box.lt
                have hib : ¬ wi.heap.size = b := by omega
                have his : isv'.ownBlock ≠ some wi.heap.size := fun e => by have := (World.ownsRow.lt HFI.out.own _ e).2; omega
                have hig : wi.heap.size < Wg.heap.size := BR.out.lt
                obtain ⟨i7, hi7, hz7, hs7, hb7⟩ := oinfo_parts infoInL
                clear xx hx5 h5 hr hrm hjl CIN0 hx hbr
                have hkl := hx1
                go_wp2_with fail
                rw [← hWg]
                clear hWg y0 y1 y2 y3 y4
                refine Rel.regionP (KeepBut (fun z => z = b ∨ isv'.ownBlock = some z ∨ Wg.heap.size ≤ z)) (butWay _) [] [0, 1, 2, 3, 5, 6, 7] 7 (by kernel_rfl) (by kernel_rfl) (Keep.refl _) ?_
                repeat (apply Rel.pre_step (by rfl) (by rfl) (by rfl)
                        · intro W' hW'
                          have cr := (BR.out.but hW' (by rintro (e | e | e); exact hib e; exact his e; omega)).cells
                          go_simp
                          exact ⟨rfl, Keep.refl _⟩
                        go_simp)
                apply Rel.pre_end
                refine Rel.every_two 4 8 (by kernel_rfl) (by rfl) (by rfl) (by rfl) (by rfl) ?_ ?_
                · intro W1 h1
                  have PP := Lib.hid (P.out.keep h1)
                  have cx := PP.out.box.cells
                  go_simp
                  apply Rel.gives_value
                  refine ⟨KeepBut.refl _ _, ?_⟩
                  skip
                  clear h1 cx P
                  have P := PP
                  clear PP
                  go_simp
                  apply Rel.every_one 8 (by kernel_rfl) (by rfl) (by rfl)
                  intro W1 h1
                  have P1 := P.out.keep h1
                  go_simp
                  apply Rel.gives_enter
                  first | go_at_fn 79 | go_at_call 79 | skip
                  refine (CIN.out W1 P1).mono ?_
                  rintro e w1 ⟨rfl, hk1⟩
                  refine ⟨_, rfl, hk1.but _, ?_⟩
                  have PP := Lib.hid (P1.keep hk1)
                  clear hk1 h1 P1 P
                  have P := PP
                  clear PP
                  go_simp
                  apply Rel.every_one 9 (by kernel_rfl) (by rfl) (by rfl)
                  intro W1 h1
                  go_simp
                  apply Rel.gives_value
                  refine ⟨((Keep.refl _).alloc _).but _, ?_⟩
                  have PP := Lib.hid (P.out.keep (h1.alloc (.cells #[.int .i64 xc, .int .u32 xa, .int .i64 xk, .bool xd, .int .i64 xs, .int .u32 xr, .int .u16 xp] 130)))
                  have BB := Lib.hid (Box.new W1 #[.int .i64 xc, .int .u32 xa, .int .i64 xk, .bool xd, .int .i64 xs, .int .u32 xr, .int .u16 xp] 130)
                  obtain ⟨gb, hgb⟩ : ∃ gb, gb = W1.heap.size := ⟨_, rfl⟩
                  rw [← hgb] at BB ⊢
                  obtain ⟨WB, hWB⟩ : ∃ WB, WB = W1.alloc (.cells #[.int .i64 xc, .int .u32 xa, .int .i64 xk, .bool xd, .int .i64 xs, .int .u32 xr, .int .u16 xp] 130) := ⟨_, rfl⟩
                  rw [← hWB] at PP BB ⊢
                  clear hWB hgb h1 P
                  have P := PP
                  clear PP
                  go_simp
                  apply Rel.every_one 10 (by kernel_rfl) (by rfl) (by rfl)
                  intro W6 h6
                  have P6 := Lib.hid (P.out.keep h6)
                  have B6 := BB.out.keep h6
                  refine gives_append_src W6 (.tmp 80) (.tmp 85) 37 37 rfl (pb + 1) 130 i7 _ 7 48 Tryz.underlying37 hi7 hz7 hs7 hb7 rfl _ _ _ rfl P6.out.own (.slice (some ⟨gb, 0, none⟩) 1 1) 1 (initRow ⟨xc, xa, xk, xd, xs, xr, xp⟩) rfl (Src.ofSlice W6 Tryz.underlying37 _ 1 1 _ rfl (fun j u hj => by rw [show (⟨gb, 0, none⟩ : Addr).add j = ⟨gb, j, none⟩ by unfold Addr.add; split <;> simp_all, B6.cells, ← Array.getElem?_toList]; exact hj) (by intro u hu; simp [initRow] at hu; rcases hu with rfl | rfl | rfl | rfl | rfl | rfl | rfl <;> rfl)) (by have := HIL.out; unfold maxLen; omega) (by have := HIL.out; omega) (by have := P6.out.byt; obtain ⟨_, a, _⟩ := this; have := a.lt; omega) ?_
                  intro v7 V7 o7 g7 b7
                  refine ⟨grown_but g7 _ (fun g hg => .inr (.inl hg)), ?_⟩
                  have o7' : V7.ownsRow (pb + 1) 130 7 v7 (linits m l (lparts l m.comps 16) (lshares m.shrs (lend l m.comps 16)) (m.comps.take k) 0 ++ (o.rels.take (j + 1)).map fun x => linit m l (lparts l m.comps 16) (lshares m.shrs (lend l m.comps 16)) k o x).length (initRows (linits m l (lparts l m.comps 16) (lshares m.shrs (lend l m.comps 16)) (m.comps.take k) 0 ++ (o.rels.take (j + 1)).map fun x => linit m l (lparts l m.comps 16) (lshares m.shrs (lend l m.comps 16)) k o x)) := by
                    rw [HTS.out]
                    unfold initRows
                    rw [List.flatMap_append, List.length_append]
                    simpa [initRows] using o7
                  have PP := Lib.hid (P6.out.push hblt hpb o7' g7)
                  obtain ⟨pw, cw, hv7, _, _, _⟩ := owns_cells o7' (by rw [HTS.out, List.length_append, List.length_singleton]; have := HIL.out; unfold maxLen; omega)
                  obtain ⟨nv, hnv⟩ : ∃ nv, nv = (linits m l (lparts l m.comps 16) (lshares m.shrs (lend l m.comps 16)) (m.comps.take k) 0 ++ (o.rels.take (j + 1)).map fun x => linit m l (lparts l m.comps 16) (lshares m.shrs (lend l m.comps 16)) k o x).length := ⟨_, rfl⟩
                  rw [← hnv] at hv7
                  clear hnv
                  subst hv7
                  clear o7 o7' g7 b7 h6 B6 P6 P BB
                  have P := PP
                  clear PP
                  go_simp
                  apply Rel.every_one 11 (by kernel_rfl) (by rfl) (by rfl)
                  intro W8 h8
                  go_simp
                  apply Rel.gives_value
                  refine ⟨KeepBut.refl _ _, ?_⟩
                  have PP := Lib.hid (P.out.keep h8)
                  clear h8 P
                  have P := PP
                  clear PP
                  go_simp
                  apply Rel.every_one 12 (by kernel_rfl) (by rfl) (by rfl)
                  intro W8 h8
                  go_simp
                  apply Rel.gives_value
                  refine ⟨KeepBut.refl _ _, ?_⟩
                  have PP := Lib.hid (P.out.keep h8)
                  clear h8 P
                  have P := PP
                  clear PP
                  go_simp
                  apply Rel.every_one 13 (by kernel_rfl) (by rfl) (by rfl)
                  intro W9 h9
                  have P9 := P.out.keep h9
                  have cx := P9.box.cells
                  have fx := P9.box.thawed
                  go_simp
                  apply Rel.gives_skip
                  refine ⟨KeepBut.setAt (S := fun z => z = b ∨ isv'.ownBlock = some z ∨ Wg.heap.size ≤ z) (.inl (.inl rfl)) (KeepBut.refl _ _) _, ?_⟩
                  have PP := Lib.hid (P9.store hblt hpb 11 (.slice pw nv cw) (X' := #[vc, vi, vs, vg, .string m.start.comp, .string m.start.from_, .string m.start.name, vl, .int .u32 size, .slice (some ⟨pp, off, none⟩) (nc + 1) capp, ss, .slice pw nv cw, st, ad, .slice (some ⟨pb, 0, none⟩) N N]) rfl)
                  clear h9 cx fx P9 P
                  have P := PP
                  clear PP
                  go_simp
                  refine Rel.every_end (by kernel_rfl) ?_
                  intro WA hA
                  have PP := Lib.hid (P.out.keep hA)
                  clear hA P
                  have P := PP
                  clear PP
                  have hjl := HJL.out
                  have hq4 : n4 ≤ 512 := by have := HRS.out; omega
                  go_wp2_with fail
                  go_roundw
                  case rel => exact ⟨j + 1, .slice pw nv cw, hjl, by go_num, P.out⟩
                  case measure => simp [intOf]; omega
                · intro W1 h1
                  have P1 := P.out.keep h1
                  go_simp
                  apply Rel.gives_enter
                  first | go_at_fn 79 | go_at_call 79 | skip
                  refine (CIN.out W1 P1).mono ?_
                  rintro e w1 ⟨rfl, hk1⟩
                  refine ⟨_, rfl, hk1.but _, ?_⟩
                  have PP := Lib.hid (P1.keep hk1)
                  clear hk1 h1 P1 P
                  have P := PP
                  clear PP
                  go_simp
                  refine Rel.every_two 4 9 (by kernel_rfl) (by rfl) (by rfl) (by rfl) (by rfl) ?_ ?_
                  · intro W1 h1
                    have PP := Lib.hid (P.out.keep h1)
                    have cx := PP.out.box.cells
                    go_simp
                    apply Rel.gives_value
                    refine ⟨KeepBut.refl _ _, ?_⟩
                    skip
                    clear h1 cx P
                    have P := PP
                    clear PP
                    go_simp
                    apply Rel.every_one 9 (by kernel_rfl) (by rfl) (by rfl)
                    intro W1 h1
                    go_simp
                    apply Rel.gives_value
                    refine ⟨((Keep.refl _).alloc _).but _, ?_⟩
                    have PP := Lib.hid (P.out.keep (h1.alloc (.cells #[.int .i64 xc, .int .u32 xa, .int .i64 xk, .bool xd, .int .i64 xs, .int .u32 xr, .int .u16 xp] 130)))
                    have BB := Lib.hid (Box.new W1 #[.int .i64 xc, .int .u32 xa, .int .i64 xk, .bool xd, .int .i64 xs, .int .u32 xr, .int .u16 xp] 130)
                    obtain ⟨gb, hgb⟩ : ∃ gb, gb = W1.heap.size := ⟨_, rfl⟩
                    rw [← hgb] at BB ⊢
                    obtain ⟨WB, hWB⟩ : ∃ WB, WB = W1.alloc (.cells #[.int .i64 xc, .int .u32 xa, .int .i64 xk, .bool xd, .int .i64 xs, .int .u32 xr, .int .u16 xp] 130) := ⟨_, rfl⟩
                    rw [← hWB] at PP BB ⊢
                    clear hWB hgb h1 P
                    have P := PP
                    clear PP
                    go_simp
                    apply Rel.every_one 10 (by kernel_rfl) (by rfl) (by rfl)
                    intro W6 h6
                    have P6 := Lib.hid (P.out.keep h6)
                    have B6 := BB.out.keep h6
                    refine gives_append_src W6 (.tmp 80) (.tmp 85) 37 37 rfl (pb + 1) 130 i7 _ 7 48 Tryz.underlying37 hi7 hz7 hs7 hb7 rfl _ _ _ rfl P6.out.own (.slice (some ⟨gb, 0, none⟩) 1 1) 1 (initRow ⟨xc, xa, xk, xd, xs, xr, xp⟩) rfl (Src.ofSlice W6 Tryz.underlying37 _ 1 1 _ rfl (fun j u hj => by rw [show (⟨gb, 0, none⟩ : Addr).add j = ⟨gb, j, none⟩ by unfold Addr.add; split <;> simp_all, B6.cells, ← Array.getElem?_toList]; exact hj) (by intro u hu; simp [initRow] at hu; rcases hu with rfl | rfl | rfl | rfl | rfl | rfl | rfl <;> rfl)) (by have := HIL.out; unfold maxLen; omega) (by have := HIL.out; omega) (by have := P6.out.byt; obtain ⟨_, a, _⟩ := this; have := a.lt; omega) ?_
                    intro v7 V7 o7 g7 b7
                    refine ⟨grown_but g7 _ (fun g hg => .inr (.inl hg)), ?_⟩
                    have o7' : V7.ownsRow (pb + 1) 130 7 v7 (linits m l (lparts l m.comps 16) (lshares m.shrs (lend l m.comps 16)) (m.comps.take k) 0 ++ (o.rels.take (j + 1)).map fun x => linit m l (lparts l m.comps 16) (lshares m.shrs (lend l m.comps 16)) k o x).length (initRows (linits m l (lparts l m.comps 16) (lshares m.shrs (lend l m.comps 16)) (m.comps.take k) 0 ++ (o.rels.take (j + 1)).map fun x => linit m l (lparts l m.comps 16) (lshares m.shrs (lend l m.comps 16)) k o x)) := by
                      rw [HTS.out]
                      unfold initRows
                      rw [List.flatMap_append, List.length_append]
                      simpa [initRows] using o7
                    have PP := Lib.hid (P6.out.push hblt hpb o7' g7)
                    obtain ⟨pw, cw, hv7, _, _, _⟩ := owns_cells o7' (by rw [HTS.out, List.length_append, List.length_singleton]; have := HIL.out; unfold maxLen; omega)
                    obtain ⟨nv, hnv⟩ : ∃ nv, nv = (linits m l (lparts l m.comps 16) (lshares m.shrs (lend l m.comps 16)) (m.comps.take k) 0 ++ (o.rels.take (j + 1)).map fun x => linit m l (lparts l m.comps 16) (lshares m.shrs (lend l m.comps 16)) k o x).length := ⟨_, rfl⟩
                    rw [← hnv] at hv7
                    clear hnv
                    subst hv7
                    clear o7 o7' g7 b7 h6 B6 P6 P BB
                    have P := PP
                    clear PP
                    go_simp
                    apply Rel.every_one 11 (by kernel_rfl) (by rfl) (by rfl)
                    intro W8 h8
                    go_simp
                    apply Rel.gives_value
                    refine ⟨KeepBut.refl _ _, ?_⟩
                    have PP := Lib.hid (P.out.keep h8)
                    clear h8 P
                    have P := PP
                    clear PP
                    go_simp
                    apply Rel.every_one 12 (by kernel_rfl) (by rfl) (by rfl)
                    intro W8 h8
                    go_simp
                    apply Rel.gives_value
                    refine ⟨KeepBut.refl _ _, ?_⟩
                    have PP := Lib.hid (P.out.keep h8)
                    clear h8 P
                    have P := PP
                    clear PP
                    go_simp
                    apply Rel.every_one 13 (by kernel_rfl) (by rfl) (by rfl)
                    intro W9 h9
                    have P9 := P.out.keep h9
                    have cx := P9.box.cells
                    have fx := P9.box.thawed
                    go_simp
                    apply Rel.gives_skip
                    refine ⟨KeepBut.setAt (S := fun z => z = b ∨ isv'.ownBlock = some z ∨ Wg.heap.size ≤ z) (.inl (.inl rfl)) (KeepBut.refl _ _) _, ?_⟩
                    have PP := Lib.hid (P9.store hblt hpb 11 (.slice pw nv cw) (X' := #[vc, vi, vs, vg, .string m.start.comp, .string m.start.from_, .string m.start.name, vl, .int .u32 size, .slice (some ⟨pp, off, none⟩) (nc + 1) capp, ss, .slice pw nv cw, st, ad, .slice (some ⟨pb, 0, none⟩) N N]) rfl)
                    clear h9 cx fx P9 P
                    have P := PP
                    clear PP
                    go_simp
                    refine Rel.every_end (by kernel_rfl) ?_
                    intro WA hA
                    have PP := Lib.hid (P.out.keep hA)
                    clear hA P
                    have P := PP
                    clear PP
                    have hjl := HJL.out
                    have hq4 : n4 ≤ 512 := by have := HRS.out; omega
                    go_wp2_with fail
                    go_roundw
                    case rel => exact ⟨j + 1, .slice pw nv cw, hjl, by go_num, P.out⟩
                    case measure => simp [intOf]; omega
                  · intro W1 h1
                    go_simp
                    apply Rel.gives_value
                    refine ⟨((Keep.refl _).alloc _).but _, ?_⟩
                    have PP := Lib.hid (P.out.keep (h1.alloc (.cells #[.int .i64 xc, .int .u32 xa, .int .i64 xk, .bool xd, .int .i64 xs, .int .u32 xr, .int .u16 xp] 130)))
                    have BB := Lib.hid (Box.new W1 #[.int .i64 xc, .int .u32 xa, .int .i64 xk, .bool xd, .int .i64 xs, .int .u32 xr, .int .u16 xp] 130)
                    obtain ⟨gb, hgb⟩ : ∃ gb, gb = W1.heap.size := ⟨_, rfl⟩
                    rw [← hgb] at BB ⊢
                    obtain ⟨WB, hWB⟩ : ∃ WB, WB = W1.alloc (.cells #[.int .i64 xc, .int .u32 xa, .int .i64 xk, .bool xd, .int .i64 xs, .int .u32 xr, .int .u16 xp] 130) := ⟨_, rfl⟩
                    rw [← hWB] at PP BB ⊢
                    clear hWB hgb h1 P
                    have P := PP
                    clear PP
                    go_simp
                    apply Rel.every_one 4 (by kernel_rfl) (by rfl) (by rfl)
                    intro W1 h1
                    have PP := Lib.hid (P.out.keep h1)
                    have cx := PP.out.box.cells
                    go_simp
                    apply Rel.gives_value
                    refine ⟨KeepBut.refl _ _, ?_⟩
                    replace BB := Lib.hid (BB.out.keep h1)
                    clear h1 cx P
                    have P := PP
                    clear PP
                    go_simp
                    apply Rel.every_one 10 (by kernel_rfl) (by rfl) (by rfl)
                    intro W6 h6
                    have P6 := Lib.hid (P.out.keep h6)
                    have B6 := BB.out.keep h6
                    refine gives_append_src W6 (.tmp 80) (.tmp 85) 37 37 rfl (pb + 1) 130 i7 _ 7 48 Tryz.underlying37 hi7 hz7 hs7 hb7 rfl _ _ _ rfl P6.out.own (.slice (some ⟨gb, 0, none⟩) 1 1) 1 (initRow ⟨xc, xa, xk, xd, xs, xr, xp⟩) rfl (Src.ofSlice W6 Tryz.underlying37 _ 1 1 _ rfl (fun j u hj => by rw [show (⟨gb, 0, none⟩ : Addr).add j = ⟨gb, j, none⟩ by unfold Addr.add; split <;> simp_all, B6.cells, ← Array.getElem?_toList]; exact hj) (by intro u hu; simp [initRow] at hu; rcases hu with rfl | rfl | rfl | rfl | rfl | rfl | rfl <;> rfl)) (by have := HIL.out; unfold maxLen; omega) (by have := HIL.out; omega) (by have := P6.out.byt; obtain ⟨_, a, _⟩ := this; have := a.lt; omega) ?_
                    intro v7 V7 o7 g7 b7
                    refine ⟨grown_but g7 _ (fun g hg => .inr (.inl hg)), ?_⟩
                    have o7' : V7.ownsRow (pb + 1) 130 7 v7 (linits m l (lparts l m.comps 16) (lshares m.shrs (lend l m.comps 16)) (m.comps.take k) 0 ++ (o.rels.take (j + 1)).map fun x => linit m l (lparts l m.comps 16) (lshares m.shrs (lend l m.comps 16)) k o x).length (initRows (linits m l (lparts l m.comps 16) (lshares m.shrs (lend l m.comps 16)) (m.comps.take k) 0 ++ (o.rels.take (j + 1)).map fun x => linit m l (lparts l m.comps 16) (lshares m.shrs (lend l m.comps 16)) k o x)) := by
                      rw [HTS.out]
                      unfold initRows
                      rw [List.flatMap_append, List.length_append]
                      simpa [initRows] using o7
                    have PP := Lib.hid (P6.out.push hblt hpb o7' g7)
                    obtain ⟨pw, cw, hv7, _, _, _⟩ := owns_cells o7' (by rw [HTS.out, List.length_append, List.length_singleton]; have := HIL.out; unfold maxLen; omega)
                    obtain ⟨nv, hnv⟩ : ∃ nv, nv = (linits m l (lparts l m.comps 16) (lshares m.shrs (lend l m.comps 16)) (m.comps.take k) 0 ++ (o.rels.take (j + 1)).map fun x => linit m l (lparts l m.comps 16) (lshares m.shrs (lend l m.comps 16)) k o x).length := ⟨_, rfl⟩
                    rw [← hnv] at hv7
                    clear hnv
                    subst hv7
                    clear o7 o7' g7 b7 h6 B6 P6 P BB
                    have P := PP
                    clear PP
                    go_simp
                    apply Rel.every_one 11 (by kernel_rfl) (by rfl) (by rfl)
                    intro W8 h8
                    go_simp
                    apply Rel.gives_value
                    refine ⟨KeepBut.refl _ _, ?_⟩
                    have PP := Lib.hid (P.out.keep h8)
                    clear h8 P
                    have P := PP
                    clear PP
                    go_simp
                    apply Rel.every_one 12 (by kernel_rfl) (by rfl) (by rfl)
                    intro W8 h8
                    go_simp
                    apply Rel.gives_value
                    refine ⟨KeepBut.refl _ _, ?_⟩
                    have PP := Lib.hid (P.out.keep h8)
                    clear h8 P
                    have P := PP
                    clear PP
                    go_simp
                    apply Rel.every_one 13 (by kernel_rfl) (by rfl) (by rfl)
                    intro W9 h9
                    have P9 := P.out.keep h9
                    have cx := P9.box.cells
                    have fx := P9.box.thawed
                    go_simp
                    apply Rel.gives_skip
                    refine ⟨KeepBut.setAt (S := fun z => z = b ∨ isv'.ownBlock = some z ∨ Wg.heap.size ≤ z) (.inl (.inl rfl)) (KeepBut.refl _ _) _, ?_⟩
                    have PP := Lib.hid (P9.store hblt hpb 11 (.slice pw nv cw) (X' := #[vc, vi, vs, vg, .string m.start.comp, .string m.start.from_, .string m.start.name, vl, .int .u32 size, .slice (some ⟨pp, off, none⟩) (nc + 1) capp, ss, .slice pw nv cw, st, ad, .slice (some ⟨pb, 0, none⟩) N N]) rfl)
                    clear h9 cx fx P9 P
                    have P := PP
                    clear PP
                    go_simp
                    refine Rel.every_end (by kernel_rfl) ?_
                    intro WA hA
                    have PP := Lib.hid (P.out.keep hA)
                    clear hA P
                    have P := PP
                    clear PP
                    have hjl := HJL.out
                    have hq4 : n4 ≤ 512 := by have := HRS.out; omega
                    go_wp2_with fail
                    go_roundw
                    case rel => exact ⟨j + 1, .slice pw nv cw, hjl, by go_num, P.out⟩
                    case measure => simp [intOf]; omega
              · obtain rfl : j = n4 := by omega
                have hje : ¬ ((j : Int) < (j : Int)) := by omega
                go_wp2_with fail
                go_roundw
                case rel =>
                  refine ⟨k + 1, isv', HLT.out, by go_num, ?_⟩
                  have z := HFI.out
                  rw [List.take_of_length_le (l := o.rels) (by rw [← HKK.out.2.2]; exact Nat.le_refl _), ← HSN.out] at z
                  exact z
                case measure => have := HLT.out; simp [intOf]; omega
        · obtain rfl : N = dx := by omega
          refine region_grows_tail 10 (Keep w5) (by kernel_rfl) (by kernel_rfl) (Keep.refl _).drew ?_
          simp only [List.take_succ_cons, List.take_zero, List.drop_succ_cons, List.drop_zero]
          repeat (first
            | (apply text_pass (by rfl); go_simp)
            | (apply text_step (by rfl)
               · intro W hW
                 have cb := (F2.out.keep hW).box.cells
                 have cp := (BP.out.keep hW).cells
                 have co := (BO.out.keep hW).cells
                 go_simp
                 exact ⟨rfl, hW⟩
               go_simp))
          apply text_end
          intro Wd hd
          have F4 := F2.out.keep hd
          have BP4 := BP.out.keep hd
          have BO4 := BO.out.keep hd
          have CD4 := HCD.out Wd (KC2.out.trans hd)
          obtain ⟨vs2, B4, e4⟩ := F4.byt
          have h4 := B4.lt
          refine wpList_copy_box rfl (.tmp 65) (.tmp 67) 38 38 rfl 5 Tryz.underlying38 (by kernel_rfl) _ _ _ _ _ _ rfl rfl pb N vs2 B4 (o.data.map byteV) (by rw [List.length_map, hn2']; show n2 = min _ _; omega) ?p1 (by rw [← Array.length_toList, e4]; simp only [List.length_map]; rw [zrow_length (by have := hpl1.out; omega)]; omega) (by intro u hu; obtain ⟨y, _, rfl⟩ := List.mem_map.1 hu; rfl) ?p2
          case p1 =>
            intro hpos
            refine ⟨by exfalso; rw [List.length_map] at hpos; omega, ?_⟩
            rcases CD4 with e | ⟨cb1, co1, e1, _, e2⟩
            · rw [e] at hpos; simp at hpos
            · exact ⟨_, e1, fun j u hj => by rw [Addr.add_lit]; exact e2 j u hj⟩
          case p2 =>
            intro w6 vs6 B6 e6 k6
            have F6 : FS w b (#[vc, vi, vs, vg, .string m.start.comp, .string m.start.from_, .string m.start.name, vl, .int .u32 size, .slice (some ⟨pp, off, none⟩) (nc + 1) capp, ss, isv, st, ad, .slice (some ⟨pb, 0, none⟩) N N]) pb (zrow N (lbk m l (k + 1))) isv (linits m l (lparts l m.comps 16) (lshares m.shrs (lend l m.comps 16)) (m.comps.take k) 0) w6 := F4.put hblt hpb B6 (by
              rw [e6, e4, ovr_map, zrow_put (by have := hpl1.out; omega) (by omega), HLB.out]) k6
            have F7 := Lib.hid F6
            have BO6 := BO4.but k6 (by omega)
            have co := BO6.cells
            clear F6 F4 BP4 BO4 CD4 B4 e4 B6 e6 k6 BO6 hd F2 KC2 BP BO HCD HCC
            go_wp2_with fail
            clear co
            go_loopw [72] (fun i wi => ∃ (j : Nat) (isv' : Value), j ≤ n4 ∧ i = .int .i64 (j : Int) ∧ FS w b (#[vc, vi, vs, vg, .string m.start.comp, .string m.start.from_, .string m.start.name, vl, .int .u32 size, .slice (some ⟨pp, off, none⟩) (nc + 1) capp, ss, isv', st, ad, .slice (some ⟨pb, 0, none⟩) N N]) pb (zrow N (lbk m l (k + 1))) isv' (linits m l (lparts l m.comps 16) (lshares m.shrs (lend l m.comps 16)) (m.comps.take k) 0 ++ (o.rels.take j).map fun x => linit m l (lparts l m.comps 16) (lshares m.shrs (lend l m.comps 16)) k o x) wi) (fun i _ => n4 - (intOf i).toNat)
            case atStart => exact ⟨0, isv, Nat.zero_le _, rfl, by rw [List.take_zero, List.map_nil, List.append_nil]; exact F7.out⟩
            case round =>
              obtain ⟨j, isv', hj, rfl, hF⟩ := hrel
              obtain ⟨wi, hwi⟩ : ∃ x, x = wr := ⟨_, rfl⟩
              subst hwi
              have HFI := Lib.hid hF
              clear hF F7
              by_cases hjl : j < n4
              · obtain ⟨r, hr⟩ : ∃ r, o.rels[j]? = some r := ⟨_, List.getElem?_eq_getElem (by rw [← HKK.out.2.2]; exact hjl)⟩
                have Kwi : Hid (Keep w0 wi) := Lib.hid (HK0.out.butNew HFI.out.but (fun x hx => by rw [hx]; exact hb0))
                have hrm : r ∈ o.rels := List.mem_of_getElem? hr
                obtain ⟨p5, cap5, e5, _, _, h5⟩ := (HOA.out.rels.keep Kwi.out).rowsAt (m := 5) (fun _ => rfl)
                obtain ⟨br, offr, rfl, hbr, hx5⟩ := (h5.resolve_left (fun e => by rw [e] at hr; simp at hr)).resolve_left (by decide)
                have xx := hx5 j r hr
                have CIN0 := Lib.hid (fun W (hW : FS w b (#[vc, vi, vs, vg, .string m.start.comp, .string m.start.from_, .string m.start.name, vl, .int .u32 size, .slice (some ⟨pp, off, none⟩) (nc + 1) capp, ss, isv', st, ad, .slice (some ⟨pb, 0, none⟩) N N]) pb (zrow N (lbk m l (k + 1))) isv' (linits m l (lparts l m.comps 16) (lshares m.shrs (lend l m.comps 16)) (m.comps.take k) 0 ++ (o.rels.take j).map fun x => linit m l (lparts l m.comps 16) (lshares m.shrs (lend l m.comps 16)) k o x) W) =>
                  lkinitial_any b m vc vi vs vg l vl qs (.int .u32 size) (.slice (some ⟨pp, off, none⟩) (nc + 1) capp) ss isv' st ad (.slice (some ⟨pb, 0, none⟩) N N) k _ HKK.out.1 r (by rw [HKK.out.2.1]; exact hrm) HH.out HMM.out HF.out HA.out HI.out ves HNV.out (by rw [HKK.out.2.1]; exact HNU.out.at_ _ (HIN.out r hrm)) (by rw [HKK.out.2.1]; exact HNU.out.iaddr _ (HIN.out r hrm)) W
                    ⟨hW.box, HM.out.keep (HK0.out.butNew hW.but (fun x hx => by rw [hx]; exact hb0)), HO.out.keep (HK0.out.butNew hW.but (fun x hx => by rw [hx]; exact hb0))⟩ (by
                      have z := (HP.out.but hW.but (fun z h1 h2 => by omega)).sl
                      rw [lparts_len] at z ⊢
                      rw [HNC.out] at z ⊢
                      exact z) (HS.out.but hW.but (fun z h1 h2 => by omega)).sl)
                rw [HKK.out.2.1] at CIN0
                have HTS : Hid ((linits m l (lparts l m.comps 16) (lshares m.shrs (lend l m.comps 16)) (m.comps.take k) 0 ++ (o.rels.take (j + 1)).map fun x => linit m l (lparts l m.comps 16) (lshares m.shrs (lend l m.comps 16)) k o x) = (linits m l (lparts l m.comps 16) (lshares m.shrs (lend l m.comps 16)) (m.comps.take k) 0 ++ (o.rels.take j).map fun x => linit m l (lparts l m.comps 16) (lshares m.shrs (lend l m.comps 16)) k o x) ++ [linit m l (lparts l m.comps 16) (lshares m.shrs (lend l m.comps 16)) k o r]) := Lib.hid (by
                  rw [List.take_add_one, hr, List.map_append, ← List.append_assoc]
                  rfl)
                have HIL : Hid ((linits m l (lparts l m.comps 16) (lshares m.shrs (lend l m.comps 16)) (m.comps.take k) 0 ++ (o.rels.take j).map fun x => linit m l (lparts l m.comps 16) (lshares m.shrs (lend l m.comps 16)) k o x).length + 1 ≤ 512) := Lib.hid (by
                  rw [List.length_append, List.length_map, List.length_take]
                  have := HRS.out
                  omega)
                obtain ⟨⟨xc, xa, xk, xd, xs, xr, xp⟩, hx⟩ : ∃ x, x = linit m l (lparts l m.comps 16) (lshares m.shrs (lend l m.comps 16)) k o r := ⟨_, rfl⟩
                rw [← hx] at HTS CIN0
                obtain ⟨rk, ro, rc, rn, rp⟩ := r
                have CIN : Hid (∀ W, FS w b (#[vc, vi, vs, vg, .string m.start.comp, .string m.start.from_, .string m.start.name, vl, .int .u32 size, .slice (some ⟨pp, off, none⟩) (nc + 1) capp, ss, isv', st, ad, .slice (some ⟨pb, 0, none⟩) N N]) pb (zrow N (lbk m l (k + 1))) isv' (linits m l (lparts l m.comps 16) (lshares m.shrs (lend l m.comps 16)) (m.comps.take k) 0 ++ (o.rels.take j).map fun x => linit m l (lparts l m.comps 16) (lshares m.shrs (lend l m.comps 16)) k o x) W → Calls Tryz.prog 79 #[.pointer (some ⟨b, 0, none⟩), .int .i64 (k : Int), .agg #[.int .i64 rk, .int .u32 ro, .string rc, .string rn, .int .u16 rp]] W fun e w' => e = .returned (.agg #[.int .i64 xc, .int .u32 xa, .int .i64 xk, .bool xd, .int .i64 xs, .int .u32 xr, .int .u16 xp]) ∧ Keep W w') := Lib.hid CIN0.out
                have y0 := xx 0 (.int .i64 rk) (by decide) rfl
                have y1 := xx 1 (.int .u32 ro) (by decide) rfl
                have y2 := xx 2 (.string rc) (by decide) rfl
                have y3 := xx 3 (.string rn) (by decide) rfl
                have y4 := xx 4 (.int .u16 rp) (by decide) rfl
                rw [Nat.add_zero] at y0
                cases e5
                have hji : (j : Int) < (n4 : Int) := by omega
                have HJL := Lib.hid hjl
                obtain ⟨Wg, hWg⟩ : ∃ Wg, Wg = wi.alloc (.cells #[.int .i64 rk, .int .u32 ro, .string rc, .string rn, .int .u16 rp] 137) := ⟨_, rfl⟩
                have P : Hid (FS w b (#[vc, vi, vs, vg, .string m.start.comp, .string m.start.from_, .string m.start.name, vl, .int .u32 size, .slice (some ⟨pp, off, none⟩) (nc + 1) capp, ss, isv', st, ad, .slice (some ⟨pb, 0, none⟩) N N]) pb (zrow N (lbk m l (k + 1))) isv' (linits m l (lparts l m.comps 16) (lshares m.shrs (lend l m.comps 16)) (m.comps.take k) 0 ++ (o.rels.take j).map fun x => linit m l (lparts l m.comps 16) (lshares m.shrs (lend l m.comps 16)) k o x) Wg) := Lib.hid (by rw [hWg]; exact HFI.out.keep ((Keep.refl _).alloc _))
                have BR : Hid (Box Wg wi.heap.size #[.int .i64 rk, .int .u32 ro, .string rc, .string rn, .int .u16 rp]) := Lib.hid (by rw [hWg]; exact Box.new _ _ _)
                have hbi : b < wi.heap.size := HFI.out.box.lt
                have hib : ¬ wi.heap.size = b := by omega
                have his : isv'.ownBlock ≠ some wi.heap.size := fun e => by have := (World.ownsRow.lt HFI.out.own _ e).2; omega
                have hig : wi.heap.size < Wg.heap.size := BR.out.lt
                obtain ⟨i7, hi7, hz7, hs7, hb7⟩ := oinfo_parts infoInL
                clear xx hx5 h5 hr hrm hjl CIN0 hx hbr
                have hkl := hx1
                go_wp2_with fail
                rw [← hWg]
                clear hWg y0 y1 y2 y3 y4
                refine Rel.regionP (KeepBut (fun z => z = b ∨ isv'.ownBlock = some z ∨ Wg.heap.size ≤ z)) (butWay _) [] [0, 1, 2, 3, 5, 6, 7] 7 (by kernel_rfl) (by kernel_rfl) (Keep.refl _) ?_
                repeat (apply Rel.pre_step (by rfl) (by rfl) (by rfl)
                        · intro W' hW'
                          have cr := (BR.out.but hW' (by rintro (e | e | e); exact hib e; exact his e; omega)).cells
                          go_simp
                          exact ⟨rfl, Keep.refl _⟩
                        go_simp)
                apply Rel.pre_end
                refine Rel.every_two 4 8 (by kernel_rfl) (by rfl) (by rfl) (by rfl) (by rfl) ?_ ?_
                · intro W1 h1
                  have PP := Lib.hid (P.out.keep h1)
                  have cx := PP.out.box.cells
                  go_simp
                  apply Rel.gives_value
                  refine ⟨KeepBut.refl _ _, ?_⟩
                  skip
                  clear h1 cx P
                  have P := PP
                  clear PP
                  go_simp
                  apply Rel.every_one 8 (by kernel_rfl) (by rfl) (by rfl)
                  intro W1 h1
                  have P1 := P.out.keep h1
                  go_simp
                  apply Rel.gives_enter
                  first | go_at_fn 79 | go_at_call 79 | skip
                  refine (CIN.out W1 P1).mono ?_
                  rintro e w1 ⟨rfl, hk1⟩
                  refine ⟨_, rfl, hk1.but _, ?_⟩
                  have PP := Lib.hid (P1.keep hk1)
                  clear hk1 h1 P1 P
                  have P := PP
                  clear PP
                  go_simp
                  apply Rel.every_one 9 (by kernel_rfl) (by rfl) (by rfl)
                  intro W1 h1
                  go_simp
                  apply Rel.gives_value
                  refine ⟨((Keep.refl _).alloc _).but _, ?_⟩
                  have PP := Lib.hid (P.out.keep (h1.alloc (.cells #[.int .i64 xc, .int .u32 xa, .int .i64 xk, .bool xd, .int .i64 xs, .int .u32 xr, .int .u16 xp] 130)))
                  have BB := Lib.hid (Box.new W1 #[.int .i64 xc, .int .u32 xa, .int .i64 xk, .bool xd, .int .i64 xs, .int .u32 xr, .int .u16 xp] 130)
                  obtain ⟨gb, hgb⟩ : ∃ gb, gb = W1.heap.size := ⟨_, rfl⟩
                  rw [← hgb] at BB ⊢
                  obtain ⟨WB, hWB⟩ : ∃ WB, WB = W1.alloc (.cells #[.int .i64 xc, .int .u32 xa, .int .i64 xk, .bool xd, .int .i64 xs, .int .u32 xr, .int .u16 xp] 130) := ⟨_, rfl⟩
                  rw [← hWB] at PP BB ⊢
                  clear hWB hgb h1 P
                  have P := PP
                  clear PP
                  go_simp
                  apply Rel.every_one 10 (by kernel_rfl) (by rfl) (by rfl)
                  intro W6 h6
                  have P6 := Lib.hid (P.out.keep h6)
                  have B6 := BB.out.keep h6
                  refine gives_append_src W6 (.tmp 80) (.tmp 85) 37 37 rfl (pb + 1) 130 i7 _ 7 48 Tryz.underlying37 hi7 hz7 hs7 hb7 rfl _ _ _ rfl P6.out.own (.slice (some ⟨gb, 0, none⟩) 1 1) 1 (initRow ⟨xc, xa, xk, xd, xs, xr, xp⟩) rfl (Src.ofSlice W6 Tryz.underlying37 _ 1 1 _ rfl (fun j u hj => by rw [show (⟨gb, 0, none⟩ : Addr).add j = ⟨gb, j, none⟩ by unfold Addr.add; split <;> simp_all, B6.cells, ← Array.getElem?_toList]; exact hj) (by intro u hu; simp [initRow] at hu; rcases hu with rfl | rfl | rfl | rfl | rfl | rfl | rfl <;> rfl)) (by have := HIL.out; unfold maxLen; omega) (by have := HIL.out; omega) (by have := P6.out.byt; obtain ⟨_, a, _⟩ := this; have := a.lt; omega) ?_
                  intro v7 V7 o7 g7 b7
                  refine ⟨grown_but g7 _ (fun g hg => .inr (.inl hg)), ?_⟩
                  have o7' : V7.ownsRow (pb + 1) 130 7 v7 (linits m l (lparts l m.comps 16) (lshares m.shrs (lend l m.comps 16)) (m.comps.take k) 0 ++ (o.rels.take (j + 1)).map fun x => linit m l (lparts l m.comps 16) (lshares m.shrs (lend l m.comps 16)) k o x).length (initRows (linits m l (lparts l m.comps 16) (lshares m.shrs (lend l m.comps 16)) (m.comps.take k) 0 ++ (o.rels.take (j + 1)).map fun x => linit m l (lparts l m.comps 16) (lshares m.shrs (lend l m.comps 16)) k o x)) := by
                    rw [HTS.out]
                    unfold initRows
                    rw [List.flatMap_append, List.length_append]
                    simpa [initRows] using o7
                  have PP := Lib.hid (P6.out.push hblt hpb o7' g7)
                  obtain ⟨pw, cw, hv7, _, _, _⟩ := owns_cells o7' (by rw [HTS.out, List.length_append, List.length_singleton]; have := HIL.out; unfold maxLen; omega)
                  obtain ⟨nv, hnv⟩ : ∃ nv, nv = (linits m l (lparts l m.comps 16) (lshares m.shrs (lend l m.comps 16)) (m.comps.take k) 0 ++ (o.rels.take (j + 1)).map fun x => linit m l (lparts l m.comps 16) (lshares m.shrs (lend l m.comps 16)) k o x).length := ⟨_, rfl⟩
                  rw [← hnv] at hv7
                  clear hnv
                  subst hv7
                  clear o7 o7' g7 b7 h6 B6 P6 P BB
                  have P := PP
                  clear PP
                  go_simp
                  apply Rel.every_one 11 (by kernel_rfl) (by rfl) (by rfl)
                  intro W8 h8
                  go_simp
                  apply Rel.gives_value
                  refine ⟨KeepBut.refl _ _, ?_⟩
                  have PP := Lib.hid (P.out.keep h8)
                  clear h8 P
                  have P := PP
                  clear PP
                  go_simp
                  apply Rel.every_one 12 (by kernel_rfl) (by rfl) (by rfl)
                  intro W8 h8
                  go_simp
                  apply Rel.gives_value
                  refine ⟨KeepBut.refl _ _, ?_⟩
                  have PP := Lib.hid (P.out.keep h8)
                  clear h8 P
                  have P := PP
                  clear PP
                  go_simp
                  apply Rel.every_one 13 (by kernel_rfl) (by rfl) (by rfl)
                  intro W9 h9
                  have P9 := P.out.keep h9
                  have cx := P9.box.cells
                  have fx := P9.box.thawed
                  go_simp
                  apply Rel.gives_skip
                  refine ⟨KeepBut.setAt (S := fun z => z = b ∨ isv'.ownBlock = some z ∨ Wg.heap.size ≤ z) (.inl (.inl rfl)) (KeepBut.refl _ _) _, ?_⟩
                  have PP := Lib.hid (P9.store hblt hpb 11 (.slice pw nv cw) (X' := #[vc, vi, vs, vg, .string m.start.comp, .string m.start.from_, .string m.start.name, vl, .int .u32 size, .slice (some ⟨pp, off, none⟩) (nc + 1) capp, ss, .slice pw nv cw, st, ad, .slice (some ⟨pb, 0, none⟩) N N]) rfl)
                  clear h9 cx fx P9 P
                  have P := PP
                  clear PP
                  go_simp
                  refine Rel.every_end (by kernel_rfl) ?_
                  intro WA hA
                  have PP := Lib.hid (P.out.keep hA)
                  clear hA P
                  have P := PP
                  clear PP
                  have hjl := HJL.out
                  have hq4 : n4 ≤ 512 := by have := HRS.out; omega
                  go_wp2_with fail
                  go_roundw
                  case rel => exact ⟨j + 1, .slice pw nv cw, hjl, by go_num, P.out⟩
                  case measure => simp [intOf]; omega
                · intro W1 h1
                  have P1 := P.out.keep h1
                  go_simp
                  apply Rel.gives_enter
                  first | go_at_fn 79 | go_at_call 79 | skip
                  refine (CIN.out W1 P1).mono ?_
                  rintro e w1 ⟨rfl, hk1⟩
                  refine ⟨_, rfl, hk1.but _, ?_⟩
                  have PP := Lib.hid (P1.keep hk1)
                  clear hk1 h1 P1 P
                  have P := PP
                  clear PP
                  go_simp
                  refine Rel.every_two 4 9 (by kernel_rfl) (by rfl) (by rfl) (by rfl) (by rfl) ?_ ?_
                  · intro W1 h1
                    have PP := Lib.hid (P.out.keep h1)
                    have cx := PP.out.box.cells
                    go_simp
                    apply Rel.gives_value
                    refine ⟨KeepBut.refl _ _, ?_⟩
                    skip
                    clear h1 cx P
                    have P := PP
                    clear PP
                    go_simp
                    apply Rel.every_one 9 (by kernel_rfl) (by rfl) (by rfl)
                    intro W1 h1
                    go_simp
                    apply Rel.gives_value
                    refine ⟨((Keep.refl _).alloc _).but _, ?_⟩
                    have PP := Lib.hid (P.out.keep (h1.alloc (.cells #[.int .i64 xc, .int .u32 xa, .int .i64 xk, .bool xd, .int .i64 xs, .int .u32 xr, .int .u16 xp] 130)))
                    have BB := Lib.hid (Box.new W1 #[.int .i64 xc, .int .u32 xa, .int .i64 xk, .bool xd, .int .i64 xs, .int .u32 xr, .int .u16 xp] 130)
                    obtain ⟨gb, hgb⟩ : ∃ gb, gb = W1.heap.size := ⟨_, rfl⟩
                    rw [← hgb] at BB ⊢
                    obtain ⟨WB, hWB⟩ : ∃ WB, WB = W1.alloc (.cells #[.int .i64 xc, .int .u32 xa, .int .i64 xk, .bool xd, .int .i64 xs, .int .u32 xr, .int .u16 xp] 130) := ⟨_, rfl⟩
                    rw [← hWB] at PP BB ⊢
                    clear hWB hgb h1 P
                    have P := PP
                    clear PP
                    go_simp
                    apply Rel.every_one 10 (by kernel_rfl) (by rfl) (by rfl)
                    intro W6 h6
                    have P6 := Lib.hid (P.out.keep h6)
                    have B6 := BB.out.keep h6
                    refine gives_append_src W6 (.tmp 80) (.tmp 85) 37 37 rfl (pb + 1) 130 i7 _ 7 48 Tryz.underlying37 hi7 hz7 hs7 hb7 rfl _ _ _ rfl P6.out.own (.slice (some ⟨gb, 0, none⟩) 1 1) 1 (initRow ⟨xc, xa, xk, xd, xs, xr, xp⟩) rfl (Src.ofSlice W6 Tryz.underlying37 _ 1 1 _ rfl (fun j u hj => by rw [show (⟨gb, 0, none⟩ : Addr).add j = ⟨gb, j, none⟩ by unfold Addr.add; split <;> simp_all, B6.cells, ← Array.getElem?_toList]; exact hj) (by intro u hu; simp [initRow] at hu; rcases hu with rfl | rfl | rfl | rfl | rfl | rfl | rfl <;> rfl)) (by have := HIL.out; unfold maxLen; omega) (by have := HIL.out; omega) (by have := P6.out.byt; obtain ⟨_, a, _⟩ := this; have := a.lt; omega) ?_
                    intro v7 V7 o7 g7 b7
                    refine ⟨grown_but g7 _ (fun g hg => .inr (.inl hg)), ?_⟩
                    have o7' : V7.ownsRow (pb + 1) 130 7 v7 (linits m l (lparts l m.comps 16) (lshares m.shrs (lend l m.comps 16)) (m.comps.take k) 0 ++ (o.rels.take (j + 1)).map fun x => linit m l (lparts l m.comps 16) (lshares m.shrs (lend l m.comps 16)) k o x).length (initRows (linits m l (lparts l m.comps 16) (lshares m.shrs (lend l m.comps 16)) (m.comps.take k) 0 ++ (o.rels.take (j + 1)).map fun x => linit m l (lparts l m.comps 16) (lshares m.shrs (lend l m.comps 16)) k o x)) := by
                      rw [HTS.out]
                      unfold initRows
                      rw [List.flatMap_append, List.length_append]
                      simpa [initRows] using o7
                    have PP := Lib.hid (P6.out.push hblt hpb o7' g7)
                    obtain ⟨pw, cw, hv7, _, _, _⟩ := owns_cells o7' (by rw [HTS.out, List.length_append, List.length_singleton]; have := HIL.out; unfold maxLen; omega)
                    obtain ⟨nv, hnv⟩ : ∃ nv, nv = (linits m l (lparts l m.comps 16) (lshares m.shrs (lend l m.comps 16)) (m.comps.take k) 0 ++ (o.rels.take (j + 1)).map fun x => linit m l (lparts l m.comps 16) (lshares m.shrs (lend l m.comps 16)) k o x).length := ⟨_, rfl⟩
                    rw [← hnv] at hv7
                    clear hnv
                    subst hv7
                    clear o7 o7' g7 b7 h6 B6 P6 P BB
                    have P := PP
                    clear PP
                    go_simp
                    apply Rel.every_one 11 (by kernel_rfl) (by rfl) (by rfl)
                    intro W8 h8
                    go_simp
                    apply Rel.gives_value
                    refine ⟨KeepBut.refl _ _, ?_⟩
                    have PP := Lib.hid (P.out.keep h8)
                    clear h8 P
                    have P := PP
                    clear PP
                    go_simp
                    apply Rel.every_one 12 (by kernel_rfl) (by rfl) (by rfl)
                    intro W8 h8
                    go_simp
                    apply Rel.gives_value
                    refine ⟨KeepBut.refl _ _, ?_⟩
                    have PP := Lib.hid (P.out.keep h8)
                    clear h8 P
                    have P := PP
                    clear PP
                    go_simp
                    apply Rel.every_one 13 (by kernel_rfl) (by rfl) (by rfl)
                    intro W9 h9
                    have P9 := P.out.keep h9
                    have cx := P9.box.cells
                    have fx := P9.box.thawed
                    go_simp
                    apply Rel.gives_skip
                    refine ⟨KeepBut.setAt (S := fun z => z = b ∨ isv'.ownBlock = some z ∨ Wg.heap.size ≤ z) (.inl (.inl rfl)) (KeepBut.refl _ _) _, ?_⟩
                    have PP := Lib.hid (P9.store hblt hpb 11 (.slice pw nv cw) (X' := #[vc, vi, vs, vg, .string m.start.comp, .string m.start.from_, .string m.start.name, vl, .int .u32 size, .slice (some ⟨pp, off, none⟩) (nc + 1) capp, ss, .slice pw nv cw, st, ad, .slice (some ⟨pb, 0, none⟩) N N]) rfl)
                    clear h9 cx fx P9 P
                    have P := PP
                    clear PP
                    go_simp
                    refine Rel.every_end (by kernel_rfl) ?_
                    intro WA hA
                    have PP := Lib.hid (P.out.keep hA)
                    clear hA P
                    have P := PP
                    clear PP
                    have hjl := HJL.out
                    have hq4 : n4 ≤ 512 := by have := HRS.out; omega
                    go_wp2_with fail
                    go_roundw
                    case rel => exact ⟨j + 1, .slice pw nv cw, hjl, by go_num, P.out⟩
                    case measure => simp [intOf]; omega
                  · intro W1 h1
                    go_simp
                    apply Rel.gives_value
                    refine ⟨((Keep.refl _).alloc _).but _, ?_⟩
                    have PP := Lib.hid (P.out.keep (h1.alloc (.cells #[.int .i64 xc, .int .u32 xa, .int .i64 xk, .bool xd, .int .i64 xs, .int .u32 xr, .int .u16 xp] 130)))
                    have BB := Lib.hid (Box.new W1 #[.int .i64 xc, .int .u32 xa, .int .i64 xk, .bool xd, .int .i64 xs, .int .u32 xr, .int .u16 xp] 130)
                    obtain ⟨gb, hgb⟩ : ∃ gb, gb = W1.heap.size := ⟨_, rfl⟩
                    rw [← hgb] at BB ⊢
                    obtain ⟨WB, hWB⟩ : ∃ WB, WB = W1.alloc (.cells #[.int .i64 xc, .int .u32 xa, .int .i64 xk, .bool xd, .int .i64 xs, .int .u32 xr, .int .u16 xp] 130) := ⟨_, rfl⟩
                    rw [← hWB] at PP BB ⊢
                    clear hWB hgb h1 P
                    have P := PP
                    clear PP
                    go_simp
                    apply Rel.every_one 4 (by kernel_rfl) (by rfl) (by rfl)
                    intro W1 h1
                    have PP := Lib.hid (P.out.keep h1)
                    have cx := PP.out.box.cells
                    go_simp
                    apply Rel.gives_value
                    refine ⟨KeepBut.refl _ _, ?_⟩
                    replace BB := Lib.hid (BB.out.keep h1)
                    clear h1 cx P
                    have P := PP
                    clear PP
                    go_simp
                    apply Rel.every_one 10 (by kernel_rfl) (by rfl) (by rfl)
                    intro W6 h6
                    have P6 := Lib.hid (P.out.keep h6)
                    have B6 := BB.out.keep h6
                    refine gives_append_src W6 (.tmp 80) (.tmp 85) 37 37 rfl (pb + 1) 130 i7 _ 7 48 Tryz.underlying37 hi7 hz7 hs7 hb7 rfl _ _ _ rfl P6.out.own (.slice (some ⟨gb, 0, none⟩) 1 1) 1 (initRow ⟨xc, xa, xk, xd, xs, xr, xp⟩) rfl (Src.ofSlice W6 Tryz.underlying37 _ 1 1 _ rfl (fun j u hj => by rw [show (⟨gb, 0, none⟩ : Addr).add j = ⟨gb, j, none⟩ by unfold Addr.add; split <;> simp_all, B6.cells, ← Array.getElem?_toList]; exact hj) (by intro u hu; simp [initRow] at hu; rcases hu with rfl | rfl | rfl | rfl | rfl | rfl | rfl <;> rfl)) (by have := HIL.out; unfold maxLen; omega) (by have := HIL.out; omega) (by have := P6.out.byt; obtain ⟨_, a, _⟩ := this; have := a.lt; omega) ?_
                    intro v7 V7 o7 g7 b7
                    refine ⟨grown_but g7 _ (fun g hg => .inr (.inl hg)), ?_⟩
                    have o7' : V7.ownsRow (pb + 1) 130 7 v7 (linits m l (lparts l m.comps 16) (lshares m.shrs (lend l m.comps 16)) (m.comps.take k) 0 ++ (o.rels.take (j + 1)).map fun x => linit m l (lparts l m.comps 16) (lshares m.shrs (lend l m.comps 16)) k o x).length (initRows (linits m l (lparts l m.comps 16) (lshares m.shrs (lend l m.comps 16)) (m.comps.take k) 0 ++ (o.rels.take (j + 1)).map fun x => linit m l (lparts l m.comps 16) (lshares m.shrs (lend l m.comps 16)) k o x)) := by
                      rw [HTS.out]
                      unfold initRows
                      rw [List.flatMap_append, List.length_append]
                      simpa [initRows] using o7
                    have PP := Lib.hid (P6.out.push hblt hpb o7' g7)
                    obtain ⟨pw, cw, hv7, _, _, _⟩ := owns_cells o7' (by rw [HTS.out, List.length_append, List.length_singleton]; have := HIL.out; unfold maxLen; omega)
                    obtain ⟨nv, hnv⟩ : ∃ nv, nv = (linits m l (lparts l m.comps 16) (lshares m.shrs (lend l m.comps 16)) (m.comps.take k) 0 ++ (o.rels.take (j + 1)).map fun x => linit m l (lparts l m.comps 16) (lshares m.shrs (lend l m.comps 16)) k o x).length := ⟨_, rfl⟩
                    rw [← hnv] at hv7
                    clear hnv
                    subst hv7
                    clear o7 o7' g7 b7 h6 B6 P6 P BB
                    have P := PP
                    clear PP
                    go_simp
                    apply Rel.every_one 11 (by kernel_rfl) (by rfl) (by rfl)
                    intro W8 h8
                    go_simp
                    apply Rel.gives_value
                    refine ⟨KeepBut.refl _ _, ?_⟩
                    have PP := Lib.hid (P.out.keep h8)
                    clear h8 P
                    have P := PP
                    clear PP
                    go_simp
                    apply Rel.every_one 12 (by kernel_rfl) (by rfl) (by rfl)
                    intro W8 h8
                    go_simp
                    apply Rel.gives_value
                    refine ⟨KeepBut.refl _ _, ?_⟩
                    have PP := Lib.hid (P.out.keep h8)
                    clear h8 P
                    have P := PP
                    clear PP
                    go_simp
                    apply Rel.every_one 13 (by kernel_rfl) (by rfl) (by rfl)
                    intro W9 h9
                    have P9 := P.out.keep h9
                    have cx := P9.box.cells
                    have fx := P9.box.thawed
                    go_simp
                    apply Rel.gives_skip
                    refine ⟨KeepBut.setAt (S := fun z => z = b ∨ isv'.ownBlock = some z ∨ Wg.heap.size ≤ z) (.inl (.inl rfl)) (KeepBut.refl _ _) _, ?_⟩
                    have PP := Lib.hid (P9.store hblt hpb 11 (.slice pw nv cw) (X' := #[vc, vi, vs, vg, .string m.start.comp, .string m.start.from_, .string m.start.name, vl, .int .u32 size, .slice (some ⟨pp, off, none⟩) (nc + 1) capp, ss, .slice pw nv cw, st, ad, .slice (some ⟨pb, 0, none⟩) N N]) rfl)
                    clear h9 cx fx P9 P
                    have P := PP
                    clear PP
                    go_simp
                    refine Rel.every_end (by kernel_rfl) ?_
                    intro WA hA
                    have PP := Lib.hid (P.out.keep hA)
                    clear hA P
                    have P := PP
                    clear PP
                    have hjl := HJL.out
                    have hq4 : n4 ≤ 512 := by have := HRS.out; omega
                    go_wp2_with fail
                    go_roundw
                    case rel => exact ⟨j + 1, .slice pw nv cw, hjl, by go_num, P.out⟩
                    case measure => simp [intOf]; omega
              · obtain rfl : j = n4 := by omega
                have hje : ¬ ((j : Int) < (j : Int)) := by omega
                go_wp2_with fail
                go_roundw
                case rel =>
                  refine ⟨k + 1, isv', HLT.out, by go_num, ?_⟩
                  have z := HFI.out
                  rw [List.take_of_length_le (l := o.rels) (by rw [← HKK.out.2.2]; exact Nat.le_refl _), ← HSN.out] at z
                  exact z
                case measure => have := HLT.out; simp [intOf]; omega
    · obtain rfl : k = nc + 1 := by omega
      have hkn : ¬ ((nc : Int) + 1 < (nc : Int) + 1) := by omega
      have Kw : Hid (Keep w0 wq) := Lib.hid (HK0.out.butNew HFQ.out.but (fun x hx => by rw [hx]; exact hb0))
      obtain ⟨ic, icc, g1, g2, g3⟩ := cidx_find HST.out
      obtain ⟨ko, o, q, HL, hfo⟩ := HA.out ic icc g1
      have hoo : objOf l m.start.from_ = o := by rw [← g2]; exact objOf_find hfo
      obtain ⟨hic, hie⟩ := List.getElem?_eq_some_iff.1 g1
      have hpi : (lparts l m.comps 16)[ic]? = some (lpart l icc (lbeg m l ic)) := by rw [← hie]; exact lparts_at m.comps 16 ic hic
      have hpa : partAt (lparts l m.comps 16) ((ic : Nat) : Int) = lpart l icc (lbeg m l ic) := by rw [← hie]; exact lnk_partAt hic
      have hex := HH.out.start
      have hmo : ObjMore o := by have := (HH.out.obj_of (List.mem_of_getElem? g1)).more; rwa [g2, hoo] at this
      rw [hoo] at hex
      have hdt := exports_sym hex hmo
      have hst : (lnkI m l size).start = (ic : Int) := g3
      have had : (lnkI m l size).addr = (lpart l icc (lbeg m l ic)).code.at_ + (symOf o m.start.name).off := by
        show (partAt (lparts l m.comps 16) (idxL m.comps m.start.from_ 0)).code.at_ + (symOf (objOf l m.start.from_) m.start.name).off = _
        rw [g3, hpa, hoo]
      obtain ⟨AD, hAD⟩ : ∃ AD, AD = (lnkI m l size).addr := ⟨_, rfl⟩
      have CS : Hid (∀ W (sv : Value), FS w b (#[vc, vi, vs, vg, .string m.start.comp, .string m.start.from_, .string m.start.name, vl, .int .u32 size, .slice (some ⟨pp, off, none⟩) (nc + 1) capp, ss, isv, sv, ad, .slice (some ⟨pb, 0, none⟩) N N]) pb (zrow N (lbk m l (nc + 1))) isv (linits m l (lparts l m.comps 16) (lshares m.shrs (lend l m.comps 16)) (m.comps.take (nc + 1)) 0) W → Calls Tryz.prog 81 #[.pointer (some ⟨b, 0, none⟩), .int .i64 (ic : Int), .string m.start.name] W fun e w' => e = .returned (.tuple #[.bool false, .int .u32 AD]) ∧ Keep W w') := Lib.hid (fun W sv hW => by
        have z := lksymbol_any b m vc vi vs vg l vl qs (.int .u32 size) (.slice (some ⟨pp, off, none⟩) (nc + 1) capp) ss isv sv ad (.slice (some ⟨pb, 0, none⟩) N N) ic icc ko o q HL m.start.name HF.out (lparts l m.comps 16) ves _ hpi HNV.out W
          ⟨hW.box, HM.out.keep (HK0.out.butNew hW.but (fun x hx => by rw [hx]; exact hb0)), HO.out.keep (HK0.out.butNew hW.but (fun x hx => by rw [hx]; exact hb0))⟩ (by
            have z := (HP.out.but hW.but (fun z h1 h2 => by omega)).sl
            rw [lparts_len] at z ⊢
            rw [HNC.out] at z ⊢
            exact z) (by rw [hdt, if_neg (by decide), ← had]; exact HNU.out.addr)
        rw [hdt, if_neg (by decide), ← had, ← hAD] at z
        exact z)
      have CI : Hid (∀ W, Keep wq W → Calls Tryz.prog 80 #[.agg #[vc, vi, vs, vg, .string m.start.comp, .string m.start.from_, .string m.start.name], .string m.start.from_] W fun e w' => e = .returned (.int .i64 (ic : Int)) ∧ Keep W w') := Lib.hid (fun W hW => by
        have := pindexM_any m vc vi vs vg m.start.from_ W (HM.out.keep (Kw.out.trans hW)) (by have := HMM.out.comps; omega)
        rw [g3] at this
        exact this)
      have HEND := Lib.hid (And.intro hst hAD)
      clear g1 g2 g3 HL hfo hoo hic hie hpi hpa hex hmo hdt hst had hAD hlt hk
      go_wp2_with fail
      refine region_grows_tail 14 (Keep wq) (by kernel_rfl) (by kernel_rfl) (Keep.refl _).drew ?_
      simp only [List.take_succ_cons, List.take_zero, List.drop_succ_cons, List.drop_zero]
      repeat (first
        | (apply text_pass (by rfl); go_simp)
        | (apply text_step (by rfl)
           · intro W hW
             have cb := (HFQ.out.box.keep hW).cells
             go_simp
             first
               | (apply yes_enter; go_at_call 80; refine (CI.out _ hW).mono ?_; rintro e w' ⟨rfl, hk⟩; exact ⟨rfl, hW.trans hk⟩)
               | exact ⟨rfl, hW⟩
           go_simp))
      apply text_end
      intro W6 hW6
      have F6 := HFQ.out.keep hW6
      have cb := F6.box.cells
      have fb := F6.box.thawed
      obtain ⟨W7, hW7⟩ : ∃ W7, W7 = W6.setCell ⟨b, 12, none⟩ (.int .i64 (ic : Int)) := ⟨_, rfl⟩
      have F7 : Hid (FS w b (#[vc, vi, vs, vg, .string m.start.comp, .string m.start.from_, .string m.start.name, vl, .int .u32 size, .slice (some ⟨pp, off, none⟩) (nc + 1) capp, ss, isv, .int .i64 (ic : Int), ad, .slice (some ⟨pb, 0, none⟩) N N]) pb (zrow N (lbk m l (nc + 1))) isv (linits m l (lparts l m.comps 16) (lshares m.shrs (lend l m.comps 16)) (m.comps.take (nc + 1)) 0) W7) := Lib.hid (by rw [hW7]; exact F6.store hblt hpb 12 _ rfl)
      have HW7 := Lib.hid hW7
      clear hW7 F6 hW6 HFQ Kw CI
      go_wp2_with fail
      rw [← HW7.out]
      clear HW7 cb fb
      refine region_grows_tail 18 (Keep W7) (by kernel_rfl) (by kernel_rfl) (Keep.refl _).drew ?_
      simp only [List.take_succ_cons, List.take_zero, List.drop_succ_cons, List.drop_zero]
      repeat (first
        | (apply text_pass (by rfl); go_simp)
        | (apply text_step (by rfl)
           · intro W hW
             have cb := (F7.out.keep hW).box.cells
             go_simp
             first
               | (apply yes_enter; go_at_call 81; refine (CS.out _ _ (F7.out.keep hW)).mono ?_; rintro e w' ⟨rfl, hk⟩; exact ⟨rfl, hW.trans hk⟩)
               | exact ⟨rfl, hW⟩
           go_simp))
      apply text_end
      intro W8 hW8
      have F8 := F7.out.keep hW8
      have cb := F8.box.cells
      have fb := F8.box.thawed
      have F9 : Hid (FS w b (#[vc, vi, vs, vg, .string m.start.comp, .string m.start.from_, .string m.start.name, vl, .int .u32 size, .slice (some ⟨pp, off, none⟩) (nc + 1) capp, ss, isv, .int .i64 (ic : Int), .int .u32 AD, .slice (some ⟨pb, 0, none⟩) N N]) pb (zrow N (lbk m l (nc + 1))) isv (linits m l (lparts l m.comps 16) (lshares m.shrs (lend l m.comps 16)) (m.comps.take (nc + 1)) 0) (W8.setCell ⟨b, 13, none⟩ (.int .u32 AD))) := Lib.hid (F8.store hblt hpb 13 _ rfl)
      clear F8 hW8 F7 CS
      go_wp2_with fail
      go_end0
      have Z := F9.out
      have hB : zrow N (lbk m l (nc + 1)) = (lnkI m l size).bytes := by
        show _ = lbytes l m.comps 16 []
        unfold lbk
        rw [← HNC.out, List.take_length, HNN.out, zrow_all]
      have hI : linits m l (lparts l m.comps 16) (lshares m.shrs (lend l m.comps 16)) (m.comps.take (nc + 1)) 0 = (lnkI m l size).inits := by
        rw [← HNC.out, List.take_length]
        rfl
      rw [hB, hI] at Z
      refine ⟨_, isv, .slice (some ⟨pb, 0, none⟩) N N, rfl, Z.but, ?_, (owns_rowOf Z.own ?_).wide (by omega) (Nat.le_refl _), ?_⟩
      · have := Z.box
        rw [HEND.out.1, ← HEND.out.2, lparts_len, HNC.out]
        exact this
      · have e : (lnkI m l size).inits.length = relsN m l := linits_len m.comps 0
        rw [e]
        have := HH.out.rels
        unfold maxLen
        omega
      · obtain ⟨vs9, B9, e9⟩ := Z.byt
        have hNN : N = (lnkI m l size).bytes.length := HNN.out
        rw [hNN]
        refine ⟨_, _, rfl, Nat.le_refl _, by rw [← hNN]; unfold maxLen; omega, .inr ⟨pb, rfl, hpb, B9.lt, B9.lt, fun i x hx => ?_⟩⟩
        rw [Nat.zero_add, B9.cells, ← Array.getElem?_toList, e9]
        exact hx
end Go.Proofs.YtbmjnfnekmeegaaGreatDoor
