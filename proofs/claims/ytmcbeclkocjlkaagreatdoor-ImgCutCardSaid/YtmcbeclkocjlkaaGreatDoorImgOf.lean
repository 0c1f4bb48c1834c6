/- hasplaw18's Of: an image as the document's, its parts, shares, inits copied; by gen/img4.py. -/
import Derived.Test.YtmcbeclkocjlkaaGreatDoorImgAt
import Derived.Test.YtmcbeclkocjlkaaGreatDoorGPlainI
import Derived.Test.YtmcbeclkocjlkaaGreatDoorRowOf
namespace Go.Proofs.YtmcbeclkocjlkaaGreatDoor
set_option linter.unusedVariables false
set_option linter.unusedSimpArgs false
open Go Go.RowKit
theorem infoIPart : (Tryz.prog.info? 65).map (fun i => (i.zero, i.size, i.bytes)) = some (some (.agg #[.string ⟨#[]⟩, .int .u32 0, .int .u32 0, .int .u32 0, .int .u32 0, .int .u32 0, .int .u32 0, .slice none 0 0]), 8, 64) := by kernel_rfl
theorem infoSpanO : (Tryz.prog.info? 61).map (fun i => (i.zero, i.size, i.bytes)) = some (some (.agg #[.int .u32 0, .int .u32 0]), 2, 8) := by kernel_rfl
theorem infoIInit : (Tryz.prog.info? 69).map (fun i => (i.zero, i.size, i.bytes)) = some (some (.agg #[.int .i64 0, .int .u32 0, .int .i64 0, .bool false, .int .i64 0, .int .u32 0, .int .u16 0]), 7, 48) := by kernel_rfl
theorem ispan_any (s : SpanV) (w : World) : Calls Tryz.prog 20 #[spanVal s] w fun e w' => e = .returned (spanVal s) ∧ Keep w w' := by
  unfold spanVal
  go_enter Tryz.func20, Tryz.ntmps20
  go_wp2_with fail
  refine bodyPost_ret (v := spanVal s) (by simp [results, Tryz.results20, go_sem, spanVal]; done) rfl ⟨rfl, ?_⟩
  repeat (with_reducible refine Keep.setAt ?_ ?_ _; · first | omega | (simp; done) | (simp; omega))
  exact ((Keep.refl _).alloc _).alloc _
theorem partRow_one (p : PartV) (ep : Option Addr) (n ec : Nat) : ∀ u ∈ partRow (p, .slice ep n ec), u.oneCell' = true := by
  intro u hu
  simp only [partRow, List.mem_cons, List.not_mem_nil, or_false] at hu
  rcases hu with rfl | rfl | rfl | rfl | rfl | rfl | rfl | rfl <;> rfl
theorem spanRow_one (s : SpanV) : ∀ u ∈ spanRow s, u.oneCell' = true := by
  intro u hu
  simp only [spanRow, List.mem_cons, List.not_mem_nil, or_false] at hu
  rcases hu with rfl | rfl <;> rfl
theorem initRow_one (x : InitV) : ∀ u ∈ initRow x, u.oneCell' = true := by
  intro u hu
  simp only [initRow, List.mem_cons, List.not_mem_nil, or_false] at hu
  rcases hu with rfl | rfl | rfl | rfl | rfl | rfl | rfl <;> rfl
/-- What is kept in all worlds of the loops that fill the fields. -/
structure IOfI (i : ImgV) (pp sp ip bp : Option Addr) (pcap scap icap bcap : Nat) (w wr : World) (v1 v2 v3 : Value) : Prop where
  img : Box wr w.heap.size #[.int .u32 i.size, .slice pp i.parts.length pcap, .slice sp i.shares.length scap, .slice ip i.inits.length icap, .int .i64 i.start, .int .u32 i.addr, .slice bp i.bytes.length bcap]
  res : Box wr (w.heap.size + 1) #[.int .u32 0, .slice none 0 0, .slice none 0 0, .slice none 0 0, .int .i64 0, .int .u32 0, .slice none 0 0]
  x : Box wr (w.heap.size + 1 + 1) #[.int .u32 i.size, v1, v2, v3, .int .i64 i.start, .int .u32 i.addr, .slice bp i.bytes.length bcap]
  keep : Keep w wr
theorem IOfI.but {i : ImgV} {pp sp ip bp : Option Addr} {pcap scap icap bcap : Nat} {w wr W' : World} {v1 v2 v3 u1 u2 u3 : Value} {base PB : Nat} (hb : w.heap.size + 3 ≤ base) (h : IOfI i pp sp ip bp pcap scap icap bcap w wr v1 v2 v3) (k : KeepBut (SOf w base PB) wr W') (hx : Box W' (w.heap.size + 1 + 1) #[.int .u32 i.size, u1, u2, u3, .int .i64 i.start, .int .u32 i.addr, .slice bp i.bytes.length bcap]) : IOfI i pp sp ip bp pcap scap icap bcap w W' u1 u2 u3 :=
  ⟨Box.but h.img k (by unfold SOf; omega), Box.but h.res k (by unfold SOf; omega), hx, h.keep.butNew k (fun z hz => by unfold SOf at hz; omega)⟩
theorem iof_end {i : ImgV} {vp vs vi vb v1 v2 v3 : Value} {ves : List Value} {w wr W9 : World} {a b : Nat} (h : ImgAt w i vp vs vi vb ves) (ke : Keep w wr) (r1 : RowOf (w.heap.size + 3) a wr v1 i.parts.length ((i.parts.zip ves).flatMap partRow)) (r2 : RowOf a b wr v2 i.shares.length (spanRows i.shares)) (r3 : RowOf b wr.heap.size wr v3 i.inits.length (initRows i.inits)) (ha : w.heap.size + 3 ≤ a) (hb : a ≤ b) (hc : b ≤ wr.heap.size)
    (kf : KeepBut (fun z => z = w.heap.size + 1) wr W9) : ImgAt W9 i v1 v2 v3 vb ves := by
  have k9 : Keep w W9 := ke.butNew kf (fun z hz => by omega)
  exact ⟨(r1.but kf (fun b h1 h2 e => by omega)).sl, h.nves, fun k p v hp hv => (h.ents k p v hp hv).keep k9, (r2.but kf (fun b h1 h2 e => by omega)).sl, (r3.but kf (fun b h1 h2 e => by omega)).sl, h.bytes.keep k9⟩
set_option maxHeartbeats 8000000 in
set_option maxRecDepth 100000 in
theorem iof_any (i : ImgV) (vp vs vi vb : Value) (ves : List Value) (w : World) (h : ImgAt w i vp vs vi vb ves) (hf : ImgMid i) :
    Calls Tryz.prog 7 #[imgVal i vp vs vi vb] w fun e w' => Keep w w' ∧ ∃ v1 v2 v3, e = .returned (imgVal i v1 v2 v3 vb) ∧ ImgAt w' i v1 v2 v3 vb ves := by
  obtain ⟨i0, hi0, hz0, hz1, hz2⟩ := oinfo_parts infoIPart
  obtain ⟨j0, hj0, yz0, yz1, yz2⟩ := oinfo_parts infoSpanO
  obtain ⟨k0, hk0, xz0, xz1, xz2⟩ := oinfo_parts infoIInit
  have HA := Lib.hid h
  have nves := h.nves
  have fp := hf.parts
  have fs := hf.shares
  have fi := hf.inits
  obtain ⟨pp, pcap, rfl, _, _, hxp⟩ := h.partsAt
  obtain ⟨sp, scap, rfl, _, _, hxs⟩ := h.sharesAt
  obtain ⟨ip, icap, rfl, _, _, hxi⟩ := h.initsAt
  obtain ⟨bp, bcap, rfl, _⟩ := h.bytes
  have HXP := Lib.hid hxp
  have HXS := Lib.hid hxs
  have HXI := Lib.hid hxi
  have CSP := Lib.hid (fun s W => ispan_any s W)
  unfold spanVal at CSP
  unfold imgVal
  clear h hf hxp hxs hxi
  have A0 : Hid (IOfI i pp sp ip bp pcap scap icap bcap w (((w.alloc (.cells #[.int .u32 i.size, .slice pp i.parts.length pcap, .slice sp i.shares.length scap, .slice ip i.inits.length icap, .int .i64 i.start, .int .u32 i.addr, .slice bp i.bytes.length bcap] 28)).alloc (.cells #[.int .u32 0, .slice none 0 0, .slice none 0 0, .slice none 0 0, .int .i64 0, .int .u32 0, .slice none 0 0] 39)).alloc (.cells #[.int .u32 i.size, .slice none 0 0, .slice none 0 0, .slice none 0 0, .int .i64 i.start, .int .u32 i.addr, .slice bp i.bytes.length bcap] 39)) (.slice none 0 0) (.slice none 0 0) (.slice none 0 0)) := Lib.hid ⟨((Box.new _ _ _).alloc _).alloc _, (Box.new1 _ _ _ _).alloc _, Box.new2 _ _ _ _ _, (((Keep.refl _).alloc _).alloc _).alloc _⟩
  go_enter Tryz.func7, Tryz.ntmps7
  go_wp2_with fail
  go_loopw [4] (fun x wr => ∃ (k : Nat) (v : Value), k ≤ i.parts.length ∧ x = .int .i64 (k : Int) ∧ IOfI i pp sp ip bp pcap scap icap bcap w wr v (.slice none 0 0) (.slice none 0 0) ∧ wr.ownsRow (w.heap.size + 3) 65 8 v k (((i.parts.zip ves).take k).flatMap partRow)) (fun x _ => i.parts.length - (intOf x).toNat)
  case atStart => exact ⟨0, _, Nat.zero_le _, rfl, A0.out, World.ownsRow_nil _ _ _ _⟩
  case round =>
    obtain ⟨k, v, hk, rfl, hI, hO⟩ := hrel
    have HI := Lib.hid hI
    have HOW := Lib.hid hO
    have c0 := hI.img.cells
    have hsz := hI.x.lt
    obtain ⟨pv, cv, hv, _, _, _⟩ := owns_cells hO (by unfold maxLen; omega)
    subst hv
    clear hI hO
    by_cases hlt : k < i.parts.length
    · obtain ⟨p, hp⟩ : ∃ p, i.parts[k]? = some p := ⟨_, List.getElem?_eq_getElem hlt⟩
      obtain ⟨ve, hve⟩ : ∃ ve, ves[k]? = some ve := ⟨_, List.getElem?_eq_getElem (by omega)⟩
      obtain ⟨ep, ec, rfl, _⟩ := NumsAt.at (HA.out.ents k p ve hp hve)
      have HTK := Lib.hid (take_flat partRow (i.parts.zip ves) k (p, .slice ep p.entries.length ec) (List.getElem?_zip_eq_some.2 ⟨hp, hve⟩))
      have hki : (k : Int) < (i.parts.length : Int) := by omega
      rcases HXP.out with hnil | ⟨b, off, rfl, hbl, hx⟩
      · exact absurd hlt (by rw [hnil]; simp)
      obtain ⟨x0, x1, x2, x3, x4, x5, x6, x7⟩ := hx k p _ hp hve
      have kw := HI.out.keep
      have y0 := kw.cellOf x0
      have y1 := kw.cellOf x1
      have y2 := kw.cellOf x2
      have y3 := kw.cellOf x3
      have y4 := kw.cellOf x4
      have y5 := kw.cellOf x5
      have y6 := kw.cellOf x6
      have y7 := kw.cellOf x7
      have hbw : b < wr.heap.size := Nat.lt_of_lt_of_le hbl kw.size
      clear hx hp hve x0 x1 x2 x3 x4 x5 x6 x7 kw
      go_wp2_with fail
      obtain ⟨W0, hW0⟩ : ∃ W0, W0 = wr.alloc (.cells #[.string p.name, .int .u32 p.code.at_, .int .u32 p.code.size, .int .u32 p.data.at_, .int .u32 p.data.size, .int .u32 p.stack.at_, .int .u32 p.stack.size, .slice ep p.entries.length ec] 52) := ⟨_, rfl⟩
      have KP : Hid (Keep wr W0) := Lib.hid (by rw [hW0]; exact (Keep.refl _).alloc _)
      have BP : Hid (Box W0 wr.heap.size #[.string p.name, .int .u32 p.code.at_, .int .u32 p.code.size, .int .u32 p.data.at_, .int .u32 p.data.size, .int .u32 p.stack.at_, .int .u32 p.stack.size, .slice ep p.entries.length ec]) := Lib.hid (by rw [hW0]; exact Box.new _ _ _)
      have HX0 := Lib.hid (HI.out.x.keep KP.out)
      have HO0 := Lib.hid (owns_keep HOW.out KP.out)
      have hrow : ∀ g, Value.ownBlock (.slice pv k cv) = some g → g ≠ wr.heap.size := fun g hg => by have := (World.ownsRow.lt HOW.out g hg).2; omega
      have hPX : ¬ SOf w (w.heap.size + 3) wr.heap.size wr.heap.size := by unfold SOf; omega
      have hsz0 : w.heap.size + 3 ≤ W0.heap.size := by have := KP.out.size; omega
      rw [← hW0]
      clear y0 y1 y2 y3 y4 y5 y6 y7 c0 hW0
      refine Rel.regionP (KeepBut (SOf w (w.heap.size + 3) wr.heap.size)) (butWay _) [] [0, 2, 3, 4, 5, 6, 7, 8, 9, 10, 11, 12, 13, 14, 15] 5 (by kernel_rfl) (by kernel_rfl) (Keep.refl _) ?_
      repeat (apply Rel.pre_step (by rfl) (by rfl) (by rfl)
              · intro W' hW'
                have cp := (Box.but BP.out hW' hPX).cells
                go_simp
                first
                  | exact ⟨rfl, Keep.refl _⟩
                  | (apply yes_enter; go_at_call 20; refine (CSP.out _ _).mono ?_; rintro e w' ⟨rfl, hk⟩; exact ⟨rfl, hk⟩)
              go_simp)
      apply Rel.pre_end
      refine Rel.every_two 1 16 (by kernel_rfl) (by rfl) (by rfl) (by rfl) (by rfl) ?_ ?_
      · intro W1 h1
        have cx := (HX0.out.keep ((Keep.refl W0).trans h1)).cells
        go_simp
        apply Rel.gives_value
        refine ⟨KeepBut.refl _ _, ?_⟩
        have KA := Lib.hid ((Keep.refl W0).trans h1)
        clear h1 cx
        go_simp
        apply Rel.every_one 16 (by kernel_rfl) (by rfl) (by rfl)
        intro W2 h2
        go_simp
        apply Rel.gives_value
        refine ⟨((Keep.refl _).alloc _).but _, ?_⟩
        have KB := Lib.hid ((KA.out.trans h2).alloc (.cells #[.string p.name, .int .u32 p.code.at_, .int .u32 p.code.size, .int .u32 p.data.at_, .int .u32 p.data.size, .int .u32 p.stack.at_, .int .u32 p.stack.size, .slice ep p.entries.length ec] 65))
        have BR := Lib.hid (Box.new W2 #[.string p.name, .int .u32 p.code.at_, .int .u32 p.code.size, .int .u32 p.data.at_, .int .u32 p.data.size, .int .u32 p.stack.at_, .int .u32 p.stack.size, .slice ep p.entries.length ec] 65)
        have s2 : W0.heap.size ≤ W2.heap.size := (KA.out.trans h2).size
        have KR := Lib.hid (Keep.refl (W2.alloc (.cells #[.string p.name, .int .u32 p.code.at_, .int .u32 p.code.size, .int .u32 p.data.at_, .int .u32 p.data.size, .int .u32 p.stack.at_, .int .u32 p.stack.size, .slice ep p.entries.length ec] 65)))
        obtain ⟨WB, hWB⟩ : ∃ WB, WB = W2.alloc (.cells #[.string p.name, .int .u32 p.code.at_, .int .u32 p.code.size, .int .u32 p.data.at_, .int .u32 p.data.size, .int .u32 p.stack.at_, .int .u32 p.stack.size, .slice ep p.entries.length ec] 65) := ⟨_, rfl⟩
        rw [← hWB] at KB BR KR ⊢
        clear hWB
        clear h2
        go_simp
        apply Rel.every_one 17 (by kernel_rfl) (by rfl) (by rfl)
        intro W4 h4
        have B4 := BR.out.keep (KR.out.trans h4)
        refine gives_append W4 (.tmp 31) (.tmp 46) 35 rfl (w.heap.size + 3) 65 i0 _ 8 64 Tryz.underlying35 hi0 hz0 hz1 hz2 rfl (by decide) _ k (((i.parts.zip ves).take k).flatMap partRow) rfl (owns_keep HO0.out (KB.out.trans h4)) ⟨W2.heap.size, 0, none⟩ 1 1 (partRow (p, .slice ep p.entries.length ec)) rfl rfl (cells_box B4 rfl) (partRow_one p ep _ ec) (by unfold maxLen; omega) (by omega) (by have := (KB.out.trans h4).size; omega) ?_
        intro v5 V5 o5 g5
        have KG := grown_but g5 (SOf w (w.heap.size + 3) wr.heap.size) (fun g hg => by have a := World.ownsRow.lt HO0.out g hg; have b := hrow g hg; unfold SOf; omega)
        refine ⟨KG, ?_⟩
        have K5 := Lib.hid ((KB.out.trans h4).but (SOf w (w.heap.size + 3) wr.heap.size) |>.trans KG)
        have O5 := Lib.hid o5
        obtain ⟨pv5, cv5, hv5, _, _, _⟩ := owns_cells o5 (by unfold maxLen; omega)
        subst hv5
        have X5 := Lib.hid (Box.keep (w := W0) (w' := W4) HX0.out (KB.out.trans h4))
        have X6 := Lib.hid (show Box V5 (w.heap.size + 1 + 1) _ from grown_box g5 (HX0.out.keep (KB.out.trans h4)) (fun e => by have a := World.ownsRow.lt HO0.out _ e.symm; omega))
        clear o5 g5 h4 B4 KG
        go_simp
        apply Rel.every_one 18 (by kernel_rfl) (by rfl) (by rfl)
        intro W5 h5
        go_simp
        apply Rel.gives_value
        refine ⟨KeepBut.refl _ _, ?_⟩
        have X6 := Lib.hid (X6.out.keep h5)
        have O5 := Lib.hid (owns_keep O5.out h5)
        have K5 := Lib.hid (K5.out.trans (h5.but _))
        clear h5
        go_simp
        apply Rel.every_one 19 (by kernel_rfl) (by rfl) (by rfl)
        intro W6 h6
        have X7 := X6.out.keep h6
        have c7 := X7.cells
        have f7 := X7.thawed
        go_simp
        apply Rel.gives_skip
        obtain ⟨W7, hW7⟩ : ∃ W7, W7 = W6.setCell ⟨w.heap.size + 1 + 1, 1, none⟩ (.slice pv5 (k + 1) cv5) := ⟨_, rfl⟩
        rw [← hW7]
        have KS : KeepBut (SOf w (w.heap.size + 3) wr.heap.size) W6 W7 := by rw [hW7]; exact KeepBut.setAt (.inl (.inl rfl)) (KeepBut.refl _ _) _
        have X8 := Lib.hid (show Box W7 (w.heap.size + 1 + 1) _ by rw [hW7]; exact X7.set 1 (.slice pv5 (k + 1) cv5))
        have O8 := ownsRow_setCell_other (a := ⟨w.heap.size + 1 + 1, 1, none⟩) (owns_keep O5.out h6) (fun hc => by have := (World.ownsRow.lt O5.out _ hc).1; simp only at this; omega) (.slice pv5 (k + 1) cv5)
        rw [← hW7] at O8
        have HO8 := Lib.hid O8
        refine ⟨KS, ?_⟩
        have K8 := Lib.hid ((K5.out.trans (h6.but _)).trans KS)
        clear hW7 KS X7 c7 f7 h6 O8
        go_simp
        refine Rel.every_end (by kernel_rfl) ?_
        intro WE hE
        have KE := Lib.hid (K8.out.trans (hE.but _))
        have XE := Lib.hid (X8.out.keep hE)
        have OE := Lib.hid (owns_keep HO8.out hE)
        clear hE
        go_wp2_with fail
        refine ⟨⟨k + 1, .slice pv5 (k + 1) cv5, hlt, by first | rfl | (simp; done), IOfI.but (Nat.le_refl _) HI.out ((KP.out.but _).trans KE.out) XE.out, ?_⟩, by simp [intOf]; omega⟩
        rw [HTK.out]; exact OE.out
      · intro W2 h2
        go_simp
        apply Rel.gives_value
        refine ⟨((Keep.refl _).alloc _).but _, ?_⟩
        have KB := Lib.hid (((Keep.refl W0).trans h2).alloc (.cells #[.string p.name, .int .u32 p.code.at_, .int .u32 p.code.size, .int .u32 p.data.at_, .int .u32 p.data.size, .int .u32 p.stack.at_, .int .u32 p.stack.size, .slice ep p.entries.length ec] 65))
        have BR := Lib.hid (Box.new W2 #[.string p.name, .int .u32 p.code.at_, .int .u32 p.code.size, .int .u32 p.data.at_, .int .u32 p.data.size, .int .u32 p.stack.at_, .int .u32 p.stack.size, .slice ep p.entries.length ec] 65)
        have s2 : W0.heap.size ≤ W2.heap.size := ((Keep.refl W0).trans h2).size
        have KR := Lib.hid (Keep.refl (W2.alloc (.cells #[.string p.name, .int .u32 p.code.at_, .int .u32 p.code.size, .int .u32 p.data.at_, .int .u32 p.data.size, .int .u32 p.stack.at_, .int .u32 p.stack.size, .slice ep p.entries.length ec] 65)))
        obtain ⟨WB, hWB⟩ : ∃ WB, WB = W2.alloc (.cells #[.string p.name, .int .u32 p.code.at_, .int .u32 p.code.size, .int .u32 p.data.at_, .int .u32 p.data.size, .int .u32 p.stack.at_, .int .u32 p.stack.size, .slice ep p.entries.length ec] 65) := ⟨_, rfl⟩
        rw [← hWB] at KB BR KR ⊢
        clear hWB
        clear h2
        go_simp
        apply Rel.every_one 1 (by kernel_rfl) (by rfl) (by rfl)
        intro W1 h1
        have cx := (HX0.out.keep (KB.out.trans h1)).cells
        go_simp
        apply Rel.gives_value
        refine ⟨KeepBut.refl _ _, ?_⟩
        have KA := Lib.hid (KB.out.trans h1)
        have BRA := Lib.hid (BR.out.keep h1)
        clear h1 cx
        go_simp
        apply Rel.every_one 17 (by kernel_rfl) (by rfl) (by rfl)
        intro W4 h4
        have B4 := BRA.out.keep h4
        refine gives_append W4 (.tmp 31) (.tmp 46) 35 rfl (w.heap.size + 3) 65 i0 _ 8 64 Tryz.underlying35 hi0 hz0 hz1 hz2 rfl (by decide) _ k (((i.parts.zip ves).take k).flatMap partRow) rfl (owns_keep HO0.out (KA.out.trans h4)) ⟨W2.heap.size, 0, none⟩ 1 1 (partRow (p, .slice ep p.entries.length ec)) rfl rfl (cells_box B4 rfl) (partRow_one p ep _ ec) (by unfold maxLen; omega) (by omega) (by have := (KA.out.trans h4).size; omega) ?_
        intro v5 V5 o5 g5
        have KG := grown_but g5 (SOf w (w.heap.size + 3) wr.heap.size) (fun g hg => by have a := World.ownsRow.lt HO0.out g hg; have b := hrow g hg; unfold SOf; omega)
        refine ⟨KG, ?_⟩
        have K5 := Lib.hid ((KA.out.trans h4).but (SOf w (w.heap.size + 3) wr.heap.size) |>.trans KG)
        have O5 := Lib.hid o5
        obtain ⟨pv5, cv5, hv5, _, _, _⟩ := owns_cells o5 (by unfold maxLen; omega)
        subst hv5
        have X5 := Lib.hid (Box.keep (w := W0) (w' := W4) HX0.out (KA.out.trans h4))
        have X6 := Lib.hid (show Box V5 (w.heap.size + 1 + 1) _ from grown_box g5 (HX0.out.keep (KA.out.trans h4)) (fun e => by have a := World.ownsRow.lt HO0.out _ e.symm; omega))
        clear o5 g5 h4 B4 KG
        go_simp
        apply Rel.every_one 18 (by kernel_rfl) (by rfl) (by rfl)
        intro W5 h5
        go_simp
        apply Rel.gives_value
        refine ⟨KeepBut.refl _ _, ?_⟩
        have X6 := Lib.hid (X6.out.keep h5)
        have O5 := Lib.hid (owns_keep O5.out h5)
        have K5 := Lib.hid (K5.out.trans (h5.but _))
        clear h5
        go_simp
        apply Rel.every_one 19 (by kernel_rfl) (by rfl) (by rfl)
        intro W6 h6
        have X7 := X6.out.keep h6
        have c7 := X7.cells
        have f7 := X7.thawed
        go_simp
        apply Rel.gives_skip
        obtain ⟨W7, hW7⟩ : ∃ W7, W7 = W6.setCell ⟨w.heap.size + 1 + 1, 1, none⟩ (.slice pv5 (k + 1) cv5) := ⟨_, rfl⟩
        rw [← hW7]
        have KS : KeepBut (SOf w (w.heap.size + 3) wr.heap.size) W6 W7 := by rw [hW7]; exact KeepBut.setAt (.inl (.inl rfl)) (KeepBut.refl _ _) _
        have X8 := Lib.hid (show Box W7 (w.heap.size + 1 + 1) _ by rw [hW7]; exact X7.set 1 (.slice pv5 (k + 1) cv5))
        have O8 := ownsRow_setCell_other (a := ⟨w.heap.size + 1 + 1, 1, none⟩) (owns_keep O5.out h6) (fun hc => by have := (World.ownsRow.lt O5.out _ hc).1; simp only at this; omega) (.slice pv5 (k + 1) cv5)
        rw [← hW7] at O8
        have HO8 := Lib.hid O8
        refine ⟨KS, ?_⟩
        have K8 := Lib.hid ((K5.out.trans (h6.but _)).trans KS)
        clear hW7 KS X7 c7 f7 h6 O8
        go_simp
        refine Rel.every_end (by kernel_rfl) ?_
        intro WE hE
        have KE := Lib.hid (K8.out.trans (hE.but _))
        have XE := Lib.hid (X8.out.keep hE)
        have OE := Lib.hid (owns_keep HO8.out hE)
        clear hE
        go_wp2_with fail
        refine ⟨⟨k + 1, .slice pv5 (k + 1) cv5, hlt, by first | rfl | (simp; done), IOfI.but (Nat.le_refl _) HI.out ((KP.out.but _).trans KE.out) XE.out, ?_⟩, by simp [intOf]; omega⟩
        rw [HTK.out]; exact OE.out
    · obtain rfl : k = i.parts.length := by omega
      obtain ⟨VA, rfl⟩ : ∃ W, W = wr := ⟨_, rfl⟩
      have hz1 : (i.parts.zip ves).length = i.parts.length := by rw [List.length_zip, nves]; omega
      have R1 := Lib.hid (owns_rowOf HOW.out (by unfold maxLen; omega))
      rw [show (i.parts.zip ves).take i.parts.length = i.parts.zip ves by rw [← hz1]; exact List.take_length] at R1
      have X1 := Lib.hid HI.out
      have hs1 : w.heap.size + 3 ≤ VA.heap.size := by omega
      clear HOW c0
      have c0 := X1.out.img.cells
      go_wp2_with fail
      go_loopw [6] (fun x wr => ∃ (k : Nat) (v : Value), k ≤ i.shares.length ∧ x = .int .i64 (k : Int) ∧ IOfI i pp sp ip bp pcap scap icap bcap w wr (.slice pv i.parts.length cv) v (.slice none 0 0) ∧ wr.ownsRow VA.heap.size 61 2 v k (spanRows (i.shares.take k)) ∧ RowOf (w.heap.size + 3) VA.heap.size wr (.slice pv i.parts.length cv) i.parts.length ((i.parts.zip ves).flatMap partRow) ∧ VA.heap.size ≤ wr.heap.size) (fun x _ => i.shares.length - (intOf x).toNat)
      case atStart => exact ⟨0, _, Nat.zero_le _, rfl, X1.out, World.ownsRow_nil _ _ _ _, R1.out, Nat.le_refl _⟩
      case round =>
        obtain ⟨k, v, hk, rfl, hI, hO, hR, hsz1⟩ := hrel
        have HI := Lib.hid hI
        have HO0 := Lib.hid hO
        have HR1 := Lib.hid hR
        have HX0 := Lib.hid hI.x
        have c0 := hI.img.cells
        have hsz := hI.x.lt
        obtain ⟨qv, dv, hv, _, _, _⟩ := owns_cells hO (by unfold maxLen; omega)
        subst hv
        clear hI hO hR
        by_cases hlt : k < i.shares.length
        · obtain ⟨s, hs⟩ : ∃ s, i.shares[k]? = some s := ⟨_, List.getElem?_eq_getElem hlt⟩
          have HTK := Lib.hid (take_flat spanRow i.shares k s hs)
          have hki : (k : Int) < (i.shares.length : Int) := by omega
          rcases HXS.out with hnil | ⟨b, off, rfl, hbl, hx⟩
          · exact absurd hlt (by rw [hnil]; simp)
          have Y0 := Lib.hid (HI.out.keep.cellOf (hx k s hs).1)
          have Y1 := Lib.hid (HI.out.keep.cellOf (hx k s hs).2)
          have hbw : b < wr.heap.size := Nat.lt_of_lt_of_le hbl HI.out.keep.size
          have hbS : ¬ SOf w VA.heap.size 0 b := by unfold SOf; omega
          have hiS : ¬ SOf w VA.heap.size 0 w.heap.size := by unfold SOf; omega
          have hrow : ∀ g, Value.ownBlock (.slice qv k dv) = some g → g ≠ 0 := fun g hg => by have := (World.ownsRow.lt HO0.out g hg).1; omega
          have hsz0 : VA.heap.size ≤ wr.heap.size := hsz1
          clear hx hs
          go_wp2_with fail
          clear c0
          refine Rel.regionP (KeepBut (SOf w VA.heap.size 0)) (butWay _) [] [0, 2, 3, 4, 5, 6, 7] 5 (by kernel_rfl) (by kernel_rfl) (Keep.refl _) ?_
          repeat (apply Rel.pre_step (by rfl) (by rfl) (by rfl)
                  · intro W' hW'
                    have ci := (Box.but HI.out.img hW' hiS).cells
                    have y0 := ocell_but hW' hbw hbS Y0.out
                    have y1 := ocell_but hW' hbw hbS Y1.out
                    have bw := Nat.lt_of_lt_of_le hbw hW'.size
                    go_simp
                    first
                      | exact ⟨rfl, Keep.refl _⟩
                      | (apply yes_enter; go_at_call 20; refine (CSP.out _ _).mono ?_; rintro e w' ⟨rfl, hk⟩; exact ⟨rfl, hk⟩)
                  go_simp)
          apply Rel.pre_end
          refine Rel.every_two 1 8 (by kernel_rfl) (by rfl) (by rfl) (by rfl) (by rfl) ?_ ?_
          · intro W1 h1
            have cx := (HX0.out.keep ((Keep.refl wr).trans h1)).cells
            go_simp
            apply Rel.gives_value
            refine ⟨KeepBut.refl _ _, ?_⟩
            have KA := Lib.hid ((Keep.refl wr).trans h1)
            clear h1 cx
            go_simp
            apply Rel.every_one 8 (by kernel_rfl) (by rfl) (by rfl)
            intro W2 h2
            go_simp
            apply Rel.gives_value
            refine ⟨((Keep.refl _).alloc _).but _, ?_⟩
            have KB := Lib.hid ((KA.out.trans h2).alloc (.cells #[.int .u32 s.at_, .int .u32 s.size] 61))
            have BR := Lib.hid (Box.new W2 #[.int .u32 s.at_, .int .u32 s.size] 61)
            have s2 : wr.heap.size ≤ W2.heap.size := (KA.out.trans h2).size
            have KR := Lib.hid (Keep.refl (W2.alloc (.cells #[.int .u32 s.at_, .int .u32 s.size] 61)))
            obtain ⟨WB, hWB⟩ : ∃ WB, WB = W2.alloc (.cells #[.int .u32 s.at_, .int .u32 s.size] 61) := ⟨_, rfl⟩
            rw [← hWB] at KB BR KR ⊢
            clear hWB
            clear h2
            go_simp
            apply Rel.every_one 9 (by kernel_rfl) (by rfl) (by rfl)
            intro W4 h4
            have B4 := BR.out.keep (KR.out.trans h4)
            refine gives_append W4 (.tmp 57) (.tmp 64) 36 rfl VA.heap.size 61 j0 _ 2 8 Tryz.underlying36 hj0 yz0 yz1 yz2 rfl (by decide) _ k (spanRows (i.shares.take k)) rfl (owns_keep HO0.out (KB.out.trans h4)) ⟨W2.heap.size, 0, none⟩ 1 1 (spanRow s) rfl rfl (cells_box B4 rfl) (spanRow_one s) (by unfold maxLen; omega) (by omega) (by have := (KB.out.trans h4).size; omega) ?_
            intro v5 V5 o5 g5
            have KG := grown_but g5 (SOf w VA.heap.size 0) (fun g hg => by have a := World.ownsRow.lt HO0.out g hg; have b := hrow g hg; unfold SOf; omega)
            refine ⟨KG, ?_⟩
            have K5 := Lib.hid ((KB.out.trans h4).but (SOf w VA.heap.size 0) |>.trans KG)
            have O5 := Lib.hid o5
            obtain ⟨pv5, cv5, hv5, _, _, _⟩ := owns_cells o5 (by unfold maxLen; omega)
            subst hv5
            have X5 := Lib.hid (Box.keep (w := wr) (w' := W4) HX0.out (KB.out.trans h4))
            have X6 := Lib.hid (show Box V5 (w.heap.size + 1 + 1) _ from grown_box g5 (HX0.out.keep (KB.out.trans h4)) (fun e => by have a := World.ownsRow.lt HO0.out _ e.symm; omega))
            clear o5 g5 h4 B4 KG
            go_simp
            apply Rel.every_one 10 (by kernel_rfl) (by rfl) (by rfl)
            intro W5 h5
            go_simp
            apply Rel.gives_value
            refine ⟨KeepBut.refl _ _, ?_⟩
            have X6 := Lib.hid (X6.out.keep h5)
            have O5 := Lib.hid (owns_keep O5.out h5)
            have K5 := Lib.hid (K5.out.trans (h5.but _))
            clear h5
            go_simp
            apply Rel.every_one 11 (by kernel_rfl) (by rfl) (by rfl)
            intro W6 h6
            have X7 := X6.out.keep h6
            have c7 := X7.cells
            have f7 := X7.thawed
            go_simp
            apply Rel.gives_skip
            obtain ⟨W7, hW7⟩ : ∃ W7, W7 = W6.setCell ⟨w.heap.size + 1 + 1, 2, none⟩ (.slice pv5 (k + 1) cv5) := ⟨_, rfl⟩
            rw [← hW7]
            have KS : KeepBut (SOf w VA.heap.size 0) W6 W7 := by rw [hW7]; exact KeepBut.setAt (.inl (.inl rfl)) (KeepBut.refl _ _) _
            have X8 := Lib.hid (show Box W7 (w.heap.size + 1 + 1) _ by rw [hW7]; exact X7.set 2 (.slice pv5 (k + 1) cv5))
            have O8 := ownsRow_setCell_other (a := ⟨w.heap.size + 1 + 1, 2, none⟩) (owns_keep O5.out h6) (fun hc => by have := (World.ownsRow.lt O5.out _ hc).1; simp only at this; omega) (.slice pv5 (k + 1) cv5)
            rw [← hW7] at O8
            have HO8 := Lib.hid O8
            refine ⟨KS, ?_⟩
            have K8 := Lib.hid ((K5.out.trans (h6.but _)).trans KS)
            clear hW7 KS X7 c7 f7 h6 O8
            go_simp
            refine Rel.every_end (by kernel_rfl) ?_
            intro WE hE
            have KE := Lib.hid (K8.out.trans (hE.but _))
            have XE := Lib.hid (X8.out.keep hE)
            have OE := Lib.hid (owns_keep HO8.out hE)
            clear hE
            go_wp2_with fail
            refine ⟨⟨k + 1, .slice pv5 (k + 1) cv5, hlt, by first | rfl | (simp; done), IOfI.but hs1 HI.out KE.out XE.out, ?_, HR1.out.but KE.out (fun b h1 h2 => by unfold SOf; omega), by have := KE.out.size; omega⟩, by simp [intOf]; omega⟩
            unfold spanRows; rw [HTK.out]; exact OE.out
          · intro W2 h2
            go_simp
            apply Rel.gives_value
            refine ⟨((Keep.refl _).alloc _).but _, ?_⟩
            have KB := Lib.hid (((Keep.refl wr).trans h2).alloc (.cells #[.int .u32 s.at_, .int .u32 s.size] 61))
            have BR := Lib.hid (Box.new W2 #[.int .u32 s.at_, .int .u32 s.size] 61)
            have s2 : wr.heap.size ≤ W2.heap.size := ((Keep.refl wr).trans h2).size
            have KR := Lib.hid (Keep.refl (W2.alloc (.cells #[.int .u32 s.at_, .int .u32 s.size] 61)))
            obtain ⟨WB, hWB⟩ : ∃ WB, WB = W2.alloc (.cells #[.int .u32 s.at_, .int .u32 s.size] 61) := ⟨_, rfl⟩
            rw [← hWB] at KB BR KR ⊢
            clear hWB
            clear h2
            go_simp
            apply Rel.every_one 1 (by kernel_rfl) (by rfl) (by rfl)
            intro W1 h1
            have cx := (HX0.out.keep (KB.out.trans h1)).cells
            go_simp
            apply Rel.gives_value
            refine ⟨KeepBut.refl _ _, ?_⟩
            have KA := Lib.hid (KB.out.trans h1)
            have BRA := Lib.hid (BR.out.keep h1)
            clear h1 cx
            go_simp
            apply Rel.every_one 9 (by kernel_rfl) (by rfl) (by rfl)
            intro W4 h4
            have B4 := BRA.out.keep h4
            refine gives_append W4 (.tmp 57) (.tmp 64) 36 rfl VA.heap.size 61 j0 _ 2 8 Tryz.underlying36 hj0 yz0 yz1 yz2 rfl (by decide) _ k (spanRows (i.shares.take k)) rfl (owns_keep HO0.out (KA.out.trans h4)) ⟨W2.heap.size, 0, none⟩ 1 1 (spanRow s) rfl rfl (cells_box B4 rfl) (spanRow_one s) (by unfold maxLen; omega) (by omega) (by have := (KA.out.trans h4).size; omega) ?_
            intro v5 V5 o5 g5
            have KG := grown_but g5 (SOf w VA.heap.size 0) (fun g hg => by have a := World.ownsRow.lt HO0.out g hg; have b := hrow g hg; unfold SOf; omega)
            refine ⟨KG, ?_⟩
            have K5 := Lib.hid ((KA.out.trans h4).but (SOf w VA.heap.size 0) |>.trans KG)
            have O5 := Lib.hid o5
            obtain ⟨pv5, cv5, hv5, _, _, _⟩ := owns_cells o5 (by unfold maxLen; omega)
            subst hv5
            have X5 := Lib.hid (Box.keep (w := wr) (w' := W4) HX0.out (KA.out.trans h4))
            have X6 := Lib.hid (show Box V5 (w.heap.size + 1 + 1) _ from grown_box g5 (HX0.out.keep (KA.out.trans h4)) (fun e => by have a := World.ownsRow.lt HO0.out _ e.symm; omega))
            clear o5 g5 h4 B4 KG
            go_simp
            apply Rel.every_one 10 (by kernel_rfl) (by rfl) (by rfl)
            intro W5 h5
            go_simp
            apply Rel.gives_value
            refine ⟨KeepBut.refl _ _, ?_⟩
            have X6 := Lib.hid (X6.out.keep h5)
            have O5 := Lib.hid (owns_keep O5.out h5)
            have K5 := Lib.hid (K5.out.trans (h5.but _))
            clear h5
            go_simp
            apply Rel.every_one 11 (by kernel_rfl) (by rfl) (by rfl)
            intro W6 h6
            have X7 := X6.out.keep h6
            have c7 := X7.cells
            have f7 := X7.thawed
            go_simp
            apply Rel.gives_skip
            obtain ⟨W7, hW7⟩ : ∃ W7, W7 = W6.setCell ⟨w.heap.size + 1 + 1, 2, none⟩ (.slice pv5 (k + 1) cv5) := ⟨_, rfl⟩
            rw [← hW7]
            have KS : KeepBut (SOf w VA.heap.size 0) W6 W7 := by rw [hW7]; exact KeepBut.setAt (.inl (.inl rfl)) (KeepBut.refl _ _) _
            have X8 := Lib.hid (show Box W7 (w.heap.size + 1 + 1) _ by rw [hW7]; exact X7.set 2 (.slice pv5 (k + 1) cv5))
            have O8 := ownsRow_setCell_other (a := ⟨w.heap.size + 1 + 1, 2, none⟩) (owns_keep O5.out h6) (fun hc => by have := (World.ownsRow.lt O5.out _ hc).1; simp only at this; omega) (.slice pv5 (k + 1) cv5)
            rw [← hW7] at O8
            have HO8 := Lib.hid O8
            refine ⟨KS, ?_⟩
            have K8 := Lib.hid ((K5.out.trans (h6.but _)).trans KS)
            clear hW7 KS X7 c7 f7 h6 O8
            go_simp
            refine Rel.every_end (by kernel_rfl) ?_
            intro WE hE
            have KE := Lib.hid (K8.out.trans (hE.but _))
            have XE := Lib.hid (X8.out.keep hE)
            have OE := Lib.hid (owns_keep HO8.out hE)
            clear hE
            go_wp2_with fail
            refine ⟨⟨k + 1, .slice pv5 (k + 1) cv5, hlt, by first | rfl | (simp; done), IOfI.but hs1 HI.out KE.out XE.out, ?_, HR1.out.but KE.out (fun b h1 h2 => by unfold SOf; omega), by have := KE.out.size; omega⟩, by simp [intOf]; omega⟩
            unfold spanRows; rw [HTK.out]; exact OE.out
        · obtain rfl : k = i.shares.length := by omega
          obtain ⟨VB, rfl⟩ : ∃ W, W = wr := ⟨_, rfl⟩
          have R2 := Lib.hid (owns_rowOf HO0.out (by unfold maxLen; omega))
          rw [List.take_length] at R2
          have X2 := Lib.hid HI.out
          have hs2 : VA.heap.size ≤ VB.heap.size := hsz1
          have R1b := Lib.hid HR1.out
          clear HO0 HX0 HR1
          go_wp2_with fail
          go_loopw [7] (fun x wr => ∃ (k : Nat) (v : Value), k ≤ i.inits.length ∧ x = .int .i64 (k : Int) ∧ IOfI i pp sp ip bp pcap scap icap bcap w wr (.slice pv i.parts.length cv) (.slice qv i.shares.length dv) v ∧ wr.ownsRow VB.heap.size 69 7 v k (initRows (i.inits.take k)) ∧ RowOf (w.heap.size + 3) VA.heap.size wr (.slice pv i.parts.length cv) i.parts.length ((i.parts.zip ves).flatMap partRow) ∧ RowOf VA.heap.size VB.heap.size wr (.slice qv i.shares.length dv) i.shares.length (spanRows i.shares) ∧ VB.heap.size ≤ wr.heap.size) (fun x _ => i.inits.length - (intOf x).toNat)
          case atStart => exact ⟨0, _, Nat.zero_le _, rfl, X2.out, World.ownsRow_nil _ _ _ _, R1b.out, R2.out, Nat.le_refl _⟩
          case round =>
            obtain ⟨k, v, hk, rfl, hI, hO, hR, hR2, hsz2⟩ := hrel
            have HI := Lib.hid hI
            have HOW := Lib.hid hO
            have HR1 := Lib.hid hR
            have HR2 := Lib.hid hR2
            have c0 := hI.img.cells
            have cx := hI.x.cells
            have fx := hI.x.thawed
            have hsz := hI.x.lt
            obtain ⟨rv, ev, hv, _, _, _⟩ := owns_cells hO (by unfold maxLen; omega)
            subst hv
            clear hI hO hR hR2
            by_cases hlt : k < i.inits.length
            · obtain ⟨y, hy⟩ : ∃ y, i.inits[k]? = some y := ⟨_, List.getElem?_eq_getElem hlt⟩
              have HTK := Lib.hid (take_flat initRow i.inits k y hy)
              have hki : (k : Int) < (i.inits.length : Int) := by omega
              rcases HXI.out with hnil | ⟨b, off, rfl, hbl, hx⟩
              · exact absurd hlt (by rw [hnil]; simp)
              obtain ⟨x0, x1, x2, x3, x4, x5, x6⟩ := hx k y hy
              have kw := HI.out.keep
              have y0 := kw.cellOf x0
              have y1 := kw.cellOf x1
              have y2 := kw.cellOf x2
              have y3 := kw.cellOf x3
              have y4 := kw.cellOf x4
              have y5 := kw.cellOf x5
              have y6 := kw.cellOf x6
              have hbw : b < wr.heap.size := Nat.lt_of_lt_of_le hbl kw.size
              clear hx hy x0 x1 x2 x3 x4 x5 x6 kw
              have KA : Hid (Keep wr ((wr.alloc (.cells #[.int .i64 y.comp, .int .u32 y.at_, .int .i64 y.kind, .bool y.data, .int .i64 y.src, .int .u32 y.addr, .int .u16 y.perm] 54)).alloc (.cells #[.int .i64 y.comp, .int .u32 y.at_, .int .i64 y.kind, .bool y.data, .int .i64 y.src, .int .u32 y.addr, .int .u16 y.perm] 69))) := Lib.hid (((Keep.refl _).alloc _).alloc _)
              have BR : Hid (Box ((wr.alloc (.cells #[.int .i64 y.comp, .int .u32 y.at_, .int .i64 y.kind, .bool y.data, .int .i64 y.src, .int .u32 y.addr, .int .u16 y.perm] 54)).alloc (.cells #[.int .i64 y.comp, .int .u32 y.at_, .int .i64 y.kind, .bool y.data, .int .i64 y.src, .int .u32 y.addr, .int .u16 y.perm] 69)) (wr.heap.size + 1) #[.int .i64 y.comp, .int .u32 y.at_, .int .i64 y.kind, .bool y.data, .int .i64 y.src, .int .u32 y.addr, .int .u16 y.perm]) := Lib.hid (Box.new1 _ _ _ _)
              go_wp2_with (at_builtin; refine wpList_append_own _ rfl _ _ 37 rfl VB.heap.size 69 k0 _ 7 48 Tryz.underlying37 hk0 xz0 xz1 xz2 rfl (by decide) _ k (initRows (i.inits.take k)) rfl (owns_keep HOW.out KA.out) ⟨wr.heap.size + 1, 0, none⟩ 1 1 (initRow y) rfl rfl ?c1 (initRow_one y) ?c3 ?c4 ?c5 ?_)
              case c1 => exact cells_box BR.out rfl
              case c3 => unfold maxLen; omega
              case c4 => omega
              case c5 => simp; omega
              intro v' w3 hown' hgrow _
              have hS : ∀ g, Value.ownBlock _ = some g → VB.heap.size ≤ g := fun g hg => (World.ownsRow.lt HOW.out g hg).1
              have KB := KA.out.but (SOf w VB.heap.size 0) |>.trans (grown_but hgrow (SOf w VB.heap.size 0) (fun g hg => by have := hS g hg; unfold SOf; omega))
              have HB := Lib.hid KB
              have OW := Lib.hid hown'
              have X3 := grown_box hgrow (HI.out.x.keep KA.out) (fun e => by have := hS _ e.symm; omega)
              have HX3 := Lib.hid X3
              have cx3 := X3.cells
              have fx3 := X3.thawed
              obtain ⟨pw, cw, hw, _, _, _⟩ := owns_cells hown' (by unfold maxLen; omega)
              subst hw
              clear hgrow hS KB hown' c0 cx fx y0 y1 y2 y3 y4 y5 y6 X3
              go_wp2_with fail
              obtain ⟨W7, hW7⟩ : ∃ W7, W7 = w3.setCell ⟨w.heap.size + 1 + 1, 3, none⟩ (.slice pw (k + 1) cw) := ⟨_, rfl⟩
              rw [← hW7]
              have X8 := Lib.hid (show Box W7 (w.heap.size + 1 + 1) #[.int .u32 i.size, (.slice pv i.parts.length cv), (.slice qv i.shares.length dv), (.slice pw (k + 1) cw), .int .i64 i.start, .int .u32 i.addr, .slice bp i.bytes.length bcap] by rw [hW7]; exact HX3.out.set 3 (.slice pw (k + 1) cw))
              have KS : KeepBut (SOf w VB.heap.size 0) wr W7 := by rw [hW7]; exact HB.out.trans (KeepBut.setAt (.inl (.inl rfl)) (KeepBut.refl _ _) _)
              have O8 := ownsRow_setCell_other (a := ⟨w.heap.size + 1 + 1, 3, none⟩) OW.out (fun hc => by have := (World.ownsRow.lt OW.out _ hc).1; simp only at this; omega) (.slice pw (k + 1) cw)
              rw [← hW7] at O8
              refine ⟨⟨k + 1, .slice pw (k + 1) cw, hlt, by first | rfl | go_num, IOfI.but (by omega) HI.out KS X8.out, ?_, HR1.out.but KS (fun b h1 h2 => by unfold SOf; omega), HR2.out.but KS (fun b h1 h2 => by unfold SOf; omega), by have := KS.size; omega⟩, by simp [intOf]; omega⟩
              unfold initRows; rw [HTK.out]; exact O8
            · obtain rfl : k = i.inits.length := by omega
              have R3 := Lib.hid (owns_rowOf HOW.out (by unfold maxLen; omega))
              rw [List.take_length] at R3
              have r0 := HI.out.res.cells
              have rf := HI.out.res.thawed
              have ne1 : w.heap.size + 1 ≠ w.heap.size + 1 + 1 := by omega
              have KE := Lib.hid HI.out.keep
              obtain ⟨VC, hVC⟩ : ∃ W, W = wr := ⟨_, rfl⟩
              go_wp2_with fail
              refine bodyPost_ret (v := imgVal i (.slice pv i.parts.length cv) (.slice qv i.shares.length dv) (.slice rv i.inits.length ev) (.slice bp i.bytes.length bcap)) (by simp [results, Tryz.results7, go_sem, r0, imgVal]; done) rfl ⟨?_, _, _, _, rfl, ?_⟩
              · repeat (with_reducible refine Keep.setAt ?_ ?_ _; · first | omega | (simp; done) | (simp; omega))
                exact KE.out
              · refine iof_end HA.out KE.out HR1.out HR2.out R3.out hs1 hs2 hsz2 ?_
                repeat (with_reducible refine KeepBut.setAt ?_ ?_ _; · exact .inl rfl)
                exact KeepBut.refl _ _
end Go.Proofs.YtmcbeclkocjlkaaGreatDoor
