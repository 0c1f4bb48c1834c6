/- The program's checkSpans. -/
import Derived.Test.YtmcbeclkocjlkaaDoorImgPSpn
import Derived.Test.YtmcbeclkocjlkaaDoorGImgF
import Derived.Test.YtmcbeclkocjlkaaDoorAppSrc
import Derived.Test.YtmcbeclkocjlkaaDoorGRdrC
import Derived.Deep.Upon
namespace Go.Proofs.YtmcbeclkocjlkaaDoor
set_option linter.unusedVariables false
set_option linter.unusedSimpArgs false
open Go Go.RowKit
theorem infoCS : (Tryd.prog.info? 36).map (fun i => (i.zero, i.size, i.bytes)) = some (some (.agg #[.int .u32 0, .int .u32 0]), 2, 8) := by kernel_rfl
/-- What lies where a slice says can be appended, whatever its width. -/
theorem SlAt.srcW {P : Program} {tx e : TypeId} (hk : P.underlying tx = some (.slice e)) {w : World} {v : Value} {n m : Nat} {xs : List Value} (h : SlAt w v n xs) (hl : xs.length = n * m) (hm : 0 < m) (one : ∀ u ∈ xs, u.oneCell' = true) : Src P m tx v n xs w := by
  obtain ⟨p, cap, rfl, _, _, h3⟩ := h
  rcases h3 with h3 | ⟨b, off, rfl, _, h5⟩
  · subst h3
    have hn : n = 0 := by
      simp only [List.length_nil] at hl
      rcases Nat.eq_zero_or_pos n with h | h
      · exact h
      · have := Nat.mul_pos h hm; omega
    subst hn
    cases p with
    | none => exact Src.ofNil w hk cap
    | some a => exact Src.ofSlice w hk a 0 cap [] (by simp) (fun j u hj => by simp at hj) (fun u hu => by cases hu)
  · refine Src.ofSlice w hk _ _ cap _ hl (fun j u hj => ?_) one
    rw [show (⟨b, off, none⟩ : Addr).add j = ⟨b, off + j, none⟩ by unfold Addr.add; split <;> simp_all]
    exact h5 j u hj
theorem own_spans {w : World} {base : Nat} {e : TypeId} {l : List SpanV} {n : Nat} {v : Value} (h : w.ownsRow base e 2 v n (spanRows l)) (hn : n = l.length) (hm : n ≤ maxLen) : ∃ p cap, v = .slice p l.length cap ∧ l.length ≤ cap ∧ cap ≤ maxLen ∧ SpanCells w p l := by
  subst hn
  obtain ⟨p, cap, rfl, h1, h2, h3⟩ := owns_cells h hm
  refine ⟨p, cap, rfl, h1, h2, ?_⟩
  rcases h3 with h3 | ⟨b, rfl, _, hb, hc⟩
  · left
    have := spanRows_length l
    rw [h3] at this
    simp at this
    exact List.length_eq_zero_iff.1 (by omega)
  · refine .inr ⟨b, 0, rfl, hb, fun j s hs => ?_⟩
    have r := fun i hi => rows_row (f := spanRow) (k := 2) (fun _ => rfl) l j i hi s hs
    have c0 := hc (j * 2 + 0) (.int .u32 s.at_) (by have := r 0 (by decide); unfold spanRows; rw [this]; rfl)
    have c1 := hc (j * 2 + 1) (.int .u32 s.size) (by have := r 1 (by decide); unfold spanRows; rw [this]; rfl)
    simp only [Nat.zero_add, Nat.add_zero] at c0 c1 ⊢
    exact ⟨c0, c1⟩
set_option maxHeartbeats 4000000 in
set_option maxRecDepth 100000 in
theorem icheckSpans_any (i : ImgV) (vp vs vi vb : Value) (ves : List Value) (w : World) (h : ImgAt w i vp vs vi vb ves) (hn : ImgNum i) (hm : ImgMid i) (h16 : 16 ≤ i.size) :
    Calls Tryd.prog 14 #[imgVal i vp vs vi vb] w (IChk w (fstW spanT (spansI i).length (spanE i))) := by
  obtain ⟨i0, hi0, hz0, hz1, hz2⟩ := oinfo_parts infoCS
  have HO := Lib.hid h
  have HN := Lib.hid hn
  have nves := h.nves
  obtain ⟨pp, pc, rfl, hpc, _, hpp⟩ := h.partsAt
  obtain ⟨sp, sc, rfl, hsc, _, _⟩ := h.sharesAt
  have HPP := Lib.hid hpp
  have fp := hm.parts
  have fs := hm.shares
  have z1 := hn.size.2
  have wz : IntKind.u32.wrap (i.size - 16) = i.size - 16 := IntWalk.u32_in _ (by omega)
  unfold imgVal
  obtain ⟨W0, hW0⟩ : ∃ W0, W0 = (w.alloc (.cells #[.int .u32 i.size, .slice pp i.parts.length pc, .slice sp i.shares.length sc, vi, .int .i64 i.start, .int .u32 i.addr, vb] 28)).alloc (.cells #[.slice none 0 0] 24) := ⟨_, rfl⟩
  have K0 : Hid (Keep w W0) := Lib.hid (by rw [hW0]; exact ((Keep.refl _).alloc _).alloc _)
  have BI : Hid (Box W0 w.heap.size #[.int .u32 i.size, .slice pp i.parts.length pc, .slice sp i.shares.length sc, vi, .int .i64 i.start, .int .u32 i.addr, vb]) := Lib.hid (by rw [hW0]; exact (Box.new _ _ _).alloc _)
  have BA : Hid (Box W0 (w.heap.size + 1) #[.slice none 0 0]) := Lib.hid (by rw [hW0]; exact Box.new1 _ _ _ _)
  have LW : Hid (W0.heap.size = w.heap.size + 2) := Lib.hid (by rw [hW0]; simp)
  have bi0 := BI.out.cells
  clear h hpp hm hn
  go_enter Tryd.func14, Tryd.ntmps14
  clear bi0
  go_wp2_with fail
  rw [← hW0]
  clear hW0
  go_loopw [5, 10] (fun _ ii wr => ∃ (j : Nat) (v : Value), j ≤ i.parts.length ∧ ii = .int .i64 (j : Int) ∧ Box wr (w.heap.size + 1) #[v] ∧ wr.ownsRow W0.heap.size 36 2 v (j * 3) (spanRows ((i.parts.take j).flatMap threeS)) ∧ Box wr w.heap.size #[.int .u32 i.size, .slice pp i.parts.length pc, .slice sp i.shares.length sc, vi, .int .i64 i.start, .int .u32 i.addr, vb] ∧ Keep w wr ∧ W0.heap.size ≤ wr.heap.size) (fun _ ii _ => i.parts.length - (intOf ii).toNat)
  case atStart => exact ⟨0, _, Nat.zero_le _, rfl, BA.out, World.ownsRow_nil _ _ _ _, BI.out, K0.out, Nat.le_refl _⟩
  case round =>
    obtain ⟨k, v, hk, rfl, hA, hO, hI, hK, hS⟩ := hrel
    obtain ⟨vp_, vc_, hv, _⟩ := ownForm hO
    subst hv
    have HA := Lib.hid hA
    have HR := Lib.hid hO
    have HI := Lib.hid hI
    have HK := Lib.hid hK
    have HS := Lib.hid hS
    clear hA hO hI hK hS
    by_cases hlt : k < i.parts.length
    · have hki : (k : Int) < (i.parts.length : Int) := by omega
      obtain ⟨x, hx⟩ : ∃ x, i.parts[k]? = some x := ⟨_, List.getElem?_eq_getElem hlt⟩
      obtain ⟨ve, hve⟩ : ∃ ve, ves[k]? = some ve := ⟨_, List.getElem?_eq_getElem (by omega)⟩
      have HR2 := Lib.hid (take_three i.parts k x hx)
      obtain ⟨b, off, hp, hb, hcl⟩ : ∃ b off, pp = some ⟨b, off, none⟩ ∧ b < w.heap.size ∧ _ := by
        rcases HPP.out with e | e
        · rw [e] at hx; simp at hx
        · exact e
      have hcl := hcl k x ve hx hve
      have c0 := HK.out.cellOf hcl.1
      have c1 := HK.out.cellOf hcl.2.1
      have c2 := HK.out.cellOf hcl.2.2.1
      have c3 := HK.out.cellOf hcl.2.2.2.1
      have c4 := HK.out.cellOf hcl.2.2.2.2.1
      have c5 := HK.out.cellOf hcl.2.2.2.2.2.1
      have c6 := HK.out.cellOf hcl.2.2.2.2.2.2.1
      have c7 := HK.out.cellOf hcl.2.2.2.2.2.2.2
      have HEF := Lib.hid (HO.out.ents k x ve hx hve)
      obtain ⟨ep, ec, hvf, _⟩ := HEF.out
      subst hvf
      subst hp
      have KA : Hid (Keep wr ((wr.alloc (.cells #[.string x.name, .int .u32 x.code.at_, .int .u32 x.code.size, .int .u32 x.data.at_, .int .u32 x.data.size, .int .u32 x.stack.at_, .int .u32 x.stack.size, .slice ep x.entries.length ec] 39)).alloc (.cells #[.int .u32 x.code.at_, .int .u32 x.code.size, .int .u32 x.data.at_, .int .u32 x.data.size, .int .u32 x.stack.at_, .int .u32 x.stack.size] 36))) := Lib.hid (((Keep.refl _).alloc _).alloc _)
      have BR : Hid (Box ((wr.alloc (.cells #[.string x.name, .int .u32 x.code.at_, .int .u32 x.code.size, .int .u32 x.data.at_, .int .u32 x.data.size, .int .u32 x.stack.at_, .int .u32 x.stack.size, .slice ep x.entries.length ec] 39)).alloc (.cells #[.int .u32 x.code.at_, .int .u32 x.code.size, .int .u32 x.data.at_, .int .u32 x.data.size, .int .u32 x.stack.at_, .int .u32 x.stack.size] 36)) (wr.heap.size + 1) #[.int .u32 x.code.at_, .int .u32 x.code.size, .int .u32 x.data.at_, .int .u32 x.data.size, .int .u32 x.stack.at_, .int .u32 x.stack.size]) := Lib.hid (Box.new1 _ _ _ _)
      have cA := (fun o => (HA.out.alloc o).cells)
      clear hcl hve hx
      have hown : World.ownsRow ((wr.alloc (.cells #[.string x.name, .int .u32 x.code.at_, .int .u32 x.code.size, .int .u32 x.data.at_, .int .u32 x.data.size, .int .u32 x.stack.at_, .int .u32 x.stack.size, .slice ep x.entries.length ec] 39)).alloc (.cells #[.int .u32 x.code.at_, .int .u32 x.code.size, .int .u32 x.data.at_, .int .u32 x.data.size, .int .u32 x.stack.at_, .int .u32 x.stack.size] 36)) W0.heap.size 36 2 (.slice vp_ (k * 3) vc_) (k * 3) (spanRows ((i.parts.take k).flatMap threeS)) := owns_keep HR.out KA.out
      go_wp2_with (at_builtin; (refine wpList_append_own_at _ rfl _ _ 24 rfl W0.heap.size 36 i0 _ 2 8 Tryd.underlying24 hi0 hz0 hz1 hz2 rfl (by decide) _ _ _ rfl hown ⟨wr.heap.size + 1, 0, none⟩ 3 3 (spanRows (threeS x)) rfl rfl ?b0 ?d0 ?e0 ?f0 ?g0 ?_))
      case b0 =>
        intro j u hj
        match j, hj with
        | 0, hj => simp [threeS, spanRows, spanRow] at hj; subst hj; simp [Addr.add, BR.out.cells]
        | 1, hj => simp [threeS, spanRows, spanRow] at hj; subst hj; simp [Addr.add, BR.out.cells]
        | 2, hj => simp [threeS, spanRows, spanRow] at hj; subst hj; simp [Addr.add, BR.out.cells]
        | 3, hj => simp [threeS, spanRows, spanRow] at hj; subst hj; simp [Addr.add, BR.out.cells]
        | 4, hj => simp [threeS, spanRows, spanRow] at hj; subst hj; simp [Addr.add, BR.out.cells]
        | 5, hj => simp [threeS, spanRows, spanRow] at hj; subst hj; simp [Addr.add, BR.out.cells]
        | (n + 6), hj => simp [threeS, spanRows, spanRow] at hj
      case d0 => exact spanRows_one _
      case e0 => unfold maxLen; omega
      case f0 => omega
      case g0 => have := HS.out; have := KA.out.size; omega
      intro v1 w1 hown1 hgrow hle hblk
      obtain ⟨q1, qc1, hv1, _, _, _⟩ := owns_cells hown1 (by unfold maxLen; omega)
      subst hv1
      have LO : ∀ g, Value.ownBlock (.slice vp_ (k * 3) vc_) = some g → W0.heap.size ≤ g := fun g hg => (World.ownsRow.lt hown g hg).1
      have NA : some (w.heap.size + 1) ≠ Value.ownBlock (.slice vp_ (k * 3) vc_) := fun e => by have := LO _ e.symm; have := LW.out; omega
      have NI : some w.heap.size ≠ Value.ownBlock (.slice vp_ (k * 3) vc_) := fun e => by have := LO _ e.symm; have := LW.out; omega
      have A1 := Lib.hid (grown_box hgrow (HA.out.keep KA.out) NA)
      have I1 := Lib.hid (grown_box hgrow (HI.out.keep KA.out) NI)
      have K1 := Lib.hid (grown_keep (HK.out.trans KA.out) hgrow (fun g hg => by have := LO g hg; have := LW.out; omega))
      have S1 := Lib.hid (show W0.heap.size ≤ w1.heap.size from Nat.le_trans HS.out (Nat.le_trans KA.out.size hgrow.size))
      have O1 := Lib.hid hown1
      have fA := A1.out.thawed
      have cA := A1.out.cells
      clear hown1 hgrow hle hblk LO NA NI hown
      go_wp2_with fail
      go_roundw
      case rel =>
        have kb : KeepBut (fun z => z = w.heap.size + 1) w1 (w1.setCell ⟨w.heap.size + 1, 0, none⟩ (.slice q1 (k * 3 + 3) qc1)) := KeepBut.setAt (S := fun z => z = w.heap.size + 1) (.inl rfl) (KeepBut.refl _ _) _
        refine ⟨k + 1, .slice q1 (k * 3 + 3) qc1, hlt, by go_num, by simpa using A1.out.set 0 (.slice q1 (k * 3 + 3) qc1), ?_, I1.out.but kb (by omega), K1.out.butNew kb (fun z hz => by omega), Nat.le_trans S1.out kb.size⟩
        rw [HR2.out, show (k + 1) * 3 = k * 3 + 3 by omega]
        exact owns_but O1.out kb (fun g hg => by have := (World.ownsRow.lt O1.out g hg).1; have := LW.out; omega)
      case measure => simp [intOf]; omega
    · obtain rfl : k = i.parts.length := by omega
      have hown := HR.out
      rw [List.take_length] at hown
      have SR := Lib.hid (SlAt.srcW (P := Tryd.prog) (m := 2) Tryd.underlying24 (HO.out.shares.keep HK.out) (spanRows_length _) (by decide) (spanRows_one _))
      have cI := HI.out.cells
      have cA := HA.out.cells
      have fA0 := HA.out.thawed
      go_wp2_with (at_builtin; (refine wpList_append_src_at rfl _ _ 24 24 rfl W0.heap.size 36 i0 _ 2 8 Tryd.underlying24 hi0 hz0 hz1 hz2 rfl _ _ _ rfl hown _ i.shares.length (spanRows i.shares) rfl SR.out ?e1 ?f1 ?g1 ?_))
      case e1 => unfold maxLen; omega
      case f1 => omega
      case g1 => exact HS.out
      intro v1 w1 hown1 hgrow hblk
      have LO : ∀ g, Value.ownBlock (.slice vp_ (i.parts.length * 3) vc_) = some g → W0.heap.size ≤ g := fun g hg => (World.ownsRow.lt hown g hg).1
      have NA : some (w.heap.size + 1) ≠ Value.ownBlock (.slice vp_ (i.parts.length * 3) vc_) := fun e => by have := LO _ e.symm; have := LW.out; omega
      have NI : some w.heap.size ≠ Value.ownBlock (.slice vp_ (i.parts.length * 3) vc_) := fun e => by have := LO _ e.symm; have := LW.out; omega
      have A1 := Lib.hid (grown_box hgrow HA.out NA)
      have I1 := Lib.hid (grown_box hgrow HI.out NI)
      have K1 := Lib.hid (grown_keep HK.out hgrow (fun g hg => by have := LO g hg; have := LW.out; omega))
      have O1 : Hid (w1.ownsRow W0.heap.size 36 2 v1 (i.parts.length * 3 + i.shares.length) (spanRows (spansI i))) := Lib.hid (by
        rw [spansI_eq]; unfold spanRows; rw [List.flatMap_append]; exact hown1)
      have hlen : i.parts.length * 3 + i.shares.length = (spansI i).length := by rw [spansI_eq, List.length_append, three_length]
      obtain ⟨q1, qc1, hv1, hq1, hq2, _⟩ := own_spans O1.out hlen (by unfold maxLen; omega)
      subst hv1
      have fA := A1.out.thawed
      have cA1 := A1.out.cells
      have cI1 := I1.out.cells
      have FL := Lib.hid (show (spansI i).length ≤ 10000 by omega)
      clear hown1 hgrow hblk LO NA NI hown cI cA fA0
      have KB : Hid (KeepBut (fun z => z = w.heap.size + 1) w1 (w1.setCell ⟨w.heap.size + 1, 0, none⟩ (.slice q1 (spansI i).length qc1))) := Lib.hid (KeepBut.setAt (S := fun z => z = w.heap.size + 1) (.inl rfl) (KeepBut.refl _ _) _)
      have A2 : Hid (Box (w1.setCell ⟨w.heap.size + 1, 0, none⟩ (.slice q1 (spansI i).length qc1)) (w.heap.size + 1) #[.slice q1 (spansI i).length qc1]) := Lib.hid (by simpa using A1.out.set 0 (.slice q1 (spansI i).length qc1))
      have I2 := Lib.hid (I1.out.but KB.out (by omega))
      have K2 := Lib.hid (K1.out.butNew KB.out (fun z hz => by omega))
      have O2 := Lib.hid (owns_but O1.out KB.out (fun g hg => by have := (World.ownsRow.lt O1.out g hg).1; have := LW.out; omega))
      obtain ⟨W2, hW2⟩ : ∃ W2, W2 = w1.setCell ⟨w.heap.size + 1, 0, none⟩ (.slice q1 (spansI i).length qc1) := ⟨_, rfl⟩
      have cI2 := I2.out.cells
      have cA2 := A2.out.cells
      have cAo := fun o => (A2.out.alloc o).cells
      rw [← hW2] at KB A2 I2 K2 O2
      obtain ⟨W3, hW3⟩ : ∃ W3, W3 = W2.alloc (.cells #[.int .u32 16, .int .u32 (i.size - 16)] 36) := ⟨_, rfl⟩
      have K3 : Hid (Keep W2 W3) := Lib.hid (by rw [hW3]; exact (Keep.refl _).alloc _)
      have BR : Hid (Box W3 W2.heap.size #[.int .u32 16, .int .u32 (i.size - 16)]) := Lib.hid (by rw [hW3]; exact Box.new _ _ _)
      have A3 := Lib.hid (A2.out.keep K3.out)
      have cA3 := A3.out.cells
      obtain ⟨_, _, e3, _, _, SC⟩ := own_spans (owns_keep O2.out K3.out) hlen (by unfold maxLen; omega)
      have e4 := Value.slice.inj e3
      obtain ⟨rfl, _, rfl⟩ := e4
      have HSC := Lib.hid SC
      have RO : Hid (SpanOk (⟨16, i.size - 16⟩ : SpanV)) := Lib.hid ⟨⟨by show (0 : Int) ≤ 16; decide, by show (16 : Int) < 4294967296; decide⟩, ⟨by show 0 ≤ i.size - 16; omega, by show i.size - 16 < 4294967296; omega⟩⟩
      have CE := Lib.hid (fun bR (hR : Box W3 bR #[.int .u32 16, .int .u32 (i.size - 16)]) => ieach2_any spanT (spansI i).length (by have := FL.out; omega) 33 (.pointer (some ⟨w.heap.size + 1, 0, none⟩)) (.pointer (some ⟨bR, 0, none⟩)) (spanE i) W3 (enters_of Tryd.func33 (by kernel_rfl) rfl) (fun j W hj kw => by
        obtain ⟨s, hs⟩ : ∃ s, (spansI i)[j]? = some s := ⟨_, List.getElem?_eq_getElem hj⟩
        have := icloS_any (spansI i) ⟨16, i.size - 16⟩ q1 qc1 (w.heap.size + 1) bR RO.out hq1 hq2 HN.out.spans j s hs (by have := FL.out; omega) W (A3.out.keep kw) (hR.keep kw) (HSC.out.keep kw)
        rw [spE_i hs h16] at this
        exact this))
      have W3S : Hid (W2.heap.size = w1.heap.size) := Lib.hid (by rw [hW2]; simp [World.setCell])
      clear SC
      clear A2 I2 O2 KB O1 A1 I1 K1 cA3
      go_wp2_with fail
      rw [← hW2]
      rw [← hW3]
      clear hW2 hW3 cA1 cI1 cI2 cA2 cAo fA
      refine (CE.out w1.heap.size (by rw [← W3S.out]; exact BR.out)).mono ?_
      rintro e w5 ⟨u, rfl, hu, hk⟩
      have HU := Lib.hid hu
      have K5 := Lib.hid ((K2.out.trans K3.out).trans hk)
      clear hu hk CE
      go_wp2_with fail
      go_ret
      exact ⟨u, rfl, HU.out, K5.out⟩
end Go.Proofs.YtmcbeclkocjlkaaDoor
