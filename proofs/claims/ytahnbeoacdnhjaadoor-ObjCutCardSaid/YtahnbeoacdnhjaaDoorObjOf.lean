/- hasplaw15's Of: an object as the document's, its symbols and relocations copied. -/
import Derived.Test.YtahnbeoacdnhjaaDoorObjFind
import Derived.Test.YtahnbeoacdnhjaaDoorApp
import Derived.Test.YtahnbeoacdnhjaaDoorObjGen
namespace Go.Proofs.YtahnbeoacdnhjaaDoor
set_option linter.unusedVariables false
set_option linter.unusedSimpArgs false
open Go.RowKit
theorem infoRSym : (Tryd.prog.info? 58).map (fun i => (i.zero, i.size, i.bytes)) = some (some (.agg #[.string ⟨#[]⟩, .bool false, .int .u32 0, .bool false]), 4, 32) := by kernel_rfl
theorem infoRRel : (Tryd.prog.info? 59).map (fun i => (i.zero, i.size, i.bytes)) = some (some (.agg #[.int .i64 0, .int .u32 0, .string ⟨#[]⟩, .string ⟨#[]⟩, .int .u16 0]), 5, 56) := by kernel_rfl
theorem symRow_one (s : SymV) : ∀ u ∈ symRow s, u.oneCell' = true := by
  intro u hu
  simp only [symRow, List.mem_cons, List.not_mem_nil, or_false] at hu
  rcases hu with rfl | rfl | rfl | rfl <;> rfl
theorem relRow_one (r : RelV) : ∀ u ∈ relRow r, u.oneCell' = true := by
  intro u hu
  simp only [relRow, List.mem_cons, List.not_mem_nil, or_false] at hu
  rcases hu with rfl | rfl | rfl | rfl | rfl <;> rfl
theorem of_end {o : ObjV} {vc vd vs vr : Value} {w W1 wr W9 : World} {pv qv : Option Addr} {cv dv : Nat} (h : ObjAt w o vc vd vs vr) (ke : Keep w wr) (kb : KeepBut (fun z => z = w.heap.size + 1 + 1) W1 wr) (hz : W1.heap.size ≤ wr.heap.size) (h1 : w.heap.size + 3 ≤ W1.heap.size)
    (ss : ∃ p cap, Value.slice pv o.syms.length cv = .slice p o.syms.length cap ∧ o.syms.length ≤ cap ∧ cap ≤ maxLen ∧ (symRows o.syms = [] ∨ ∃ b, p = some ⟨b, 0, none⟩ ∧ w.heap.size + 3 ≤ b ∧ b < W1.heap.size ∧ ∀ (i : Nat) (x : Value), (symRows o.syms)[i]? = some x → W1.cell? ⟨b, 0 + i, none⟩ = some x))
    (qq : o.rels.length ≤ dv ∧ dv ≤ maxLen ∧ (relRows o.rels = [] ∨ ∃ b, qv = some ⟨b, 0, none⟩ ∧ W1.heap.size ≤ b ∧ b < wr.heap.size ∧ ∀ (i : Nat) (x : Value), (relRows o.rels)[i]? = some x → wr.cell? ⟨b, 0 + i, none⟩ = some x))
    (kf : KeepBut (fun z => z = w.heap.size + 1) wr W9) : ObjAt W9 o vc vd (.slice pv o.syms.length cv) (.slice qv o.rels.length dv) := by
  have k9 : Keep w W9 := ke.butNew kf (fun z hz => by omega)
  refine ⟨h.code.keep k9, h.data.keep k9, ?_, ?_⟩
  · obtain ⟨p, cap, e1, e2, e3, e4⟩ := ss
    simp only [Value.slice.injEq, true_and] at e1
    obtain ⟨rfl, rfl⟩ := e1
    refine ⟨_, _, rfl, e2, e3, ?_⟩
    rcases e4 with e4 | ⟨g, e4, e5, e6, e7⟩
    · exact .inl e4
    · exact .inr ⟨g, 0, e4, Nat.lt_of_lt_of_le e6 (Nat.le_trans hz kf.size), fun i x hx => ocell_but kf (by omega) (by omega) (ocell_but kb e6 (by omega) (e7 i x hx))⟩
  · obtain ⟨e2, e3, e4⟩ := qq
    refine ⟨_, _, rfl, e2, e3, ?_⟩
    rcases e4 with e4 | ⟨g, e4, e5, e6, e7⟩
    · exact .inl e4
    · exact .inr ⟨g, 0, e4, Nat.lt_of_lt_of_le e6 kf.size, fun i x hx => ocell_but kf e6 (by omega) (e7 i x hx)⟩
/-- What is kept in both worlds of a loop that fills a field. -/
structure OfI (o : ObjV) (vc vd : Value) (ps pr : Option Addr) (cs cr : Nat) (w wr : World) (v1 v2 : Value) : Prop where
  obj : Box wr w.heap.size #[.string o.name, vc, vd, .slice ps o.syms.length cs, .slice pr o.rels.length cr]
  res : Box wr (w.heap.size + 1) #[.string ⟨#[]⟩, .slice none 0 0, .slice none 0 0, .slice none 0 0, .slice none 0 0]
  x : Box wr (w.heap.size + 1 + 1) #[.string o.name, vc, vd, v1, v2]
  keep : Keep w wr
set_option maxHeartbeats 4000000 in
set_option maxRecDepth 100000 in
theorem of_any (o : ObjV) (vc vd vs vr : Value) (w : World) (h : ObjAt w o vc vd vs vr) (few1 : o.syms.length ≤ 1000) (few2 : o.rels.length ≤ 1000) :
    Calls Tryd.prog 7 #[objVal o vc vd vs vr] w fun e w' => Keep w w' ∧ ∃ v1 v2, e = .returned (objVal o vc vd v1 v2) ∧ ObjAt w' o vc vd v1 v2 := by
  obtain ⟨i0, hi0, hz0, hz1, hz2⟩ := oinfo_parts infoRSym
  obtain ⟨j0, hj0, yz0, yz1, yz2⟩ := oinfo_parts infoRRel
  have HO := Lib.hid h
  obtain ⟨ps, cs, rfl, hcs, hxs⟩ := h.symsAt
  obtain ⟨pr, cr, rfl, hcr, hxr⟩ := h.relsAt
  obtain ⟨pc, cc, rfl, _, _, _⟩ := h.code
  obtain ⟨pd, cd, rfl, _, _, _⟩ := h.data
  have HXS := Lib.hid hxs
  have HXR := Lib.hid hxr
  unfold objVal
  clear h hxs hxr
  have A0 : Hid (OfI o (.slice pc o.code.length cc) (.slice pd o.data.length cd) ps pr cs cr w (((w.alloc (.cells #[.string o.name, .slice pc o.code.length cc, .slice pd o.data.length cd, .slice ps o.syms.length cs, .slice pr o.rels.length cr] 26)).alloc (.cells #[.string ⟨#[]⟩, .slice none 0 0, .slice none 0 0, .slice none 0 0, .slice none 0 0] 36)).alloc (.cells #[.string o.name, .slice pc o.code.length cc, .slice pd o.data.length cd, .slice none 0 0, .slice none 0 0] 36)) (.slice none 0 0) (.slice none 0 0)) := Lib.hid ⟨((Box.new _ _ _).alloc _).alloc _, (Box.new1 _ _ _ _).alloc _, Box.new2 _ _ _ _ _, (((Keep.refl _).alloc _).alloc _).alloc _⟩
  have S0 : w.heap.size + 3 ≤ (((w.alloc (.cells #[.string o.name, .slice pc o.code.length cc, .slice pd o.data.length cd, .slice ps o.syms.length cs, .slice pr o.rels.length cr] 26)).alloc (.cells #[.string ⟨#[]⟩, .slice none 0 0, .slice none 0 0, .slice none 0 0, .slice none 0 0] 36)).alloc (.cells #[.string o.name, .slice pc o.code.length cc, .slice pd o.data.length cd, .slice none 0 0, .slice none 0 0] 36)).heap.size := by simp
  have HS0 := Lib.hid S0
  clear S0
  go_enter Tryd.func7, Tryd.ntmps7
  go_wp2_with fail
  go_loopw [4] (fun i wr => ∃ (k : Nat) (v : Value), k ≤ o.syms.length ∧ i = .int .i64 (k : Int) ∧ OfI o (.slice pc o.code.length cc) (.slice pd o.data.length cd) ps pr cs cr w wr v (.slice none 0 0) ∧ wr.ownsRow (w.heap.size + 3) 58 4 v k (symRows (o.syms.take k))) (fun i _ => o.syms.length - (intOf i).toNat)
  case atStart => exact ⟨0, _, Nat.zero_le _, rfl, A0.out, World.ownsRow_nil _ _ _ _⟩
  case round =>
    obtain ⟨k, v, hk, rfl, hI, hO⟩ := hrel
    have HI := Lib.hid hI
    have HOW := Lib.hid hO
    have c0 := hI.obj.cells
    have cx := hI.x.cells
    have fx := hI.x.thawed
    have hsz := hI.x.lt
    obtain ⟨pv, cv, hv, _, _, _⟩ := owns_cells hO (by unfold maxLen; omega)
    subst hv
    clear hI hO
    by_cases hlt : k < o.syms.length
    · obtain ⟨t, ht⟩ : ∃ t, o.syms[k]? = some t := ⟨_, List.getElem?_eq_getElem hlt⟩
      have HTK := Lib.hid (take_flat symRow o.syms k t ht)
      have hki : (k : Int) < (o.syms.length : Int) := by omega
      rcases HXS.out with hnil | ⟨b, off, rfl, hbl, hx⟩
      · exact absurd hlt (by rw [hnil]; simp)
      obtain ⟨x0, x1, x2, x3⟩ := hx k t ht
      have y0 := HI.out.keep.cellOf x0
      have y1 := HI.out.keep.cellOf x1
      have y2 := HI.out.keep.cellOf x2
      have y3 := HI.out.keep.cellOf x3
      clear hx ht x0 x1 x2 x3
      have KA : Hid (Keep wr ((wr.alloc (.cells #[.string t.name, .bool t.data, .int .u32 t.off, .bool t.exp] 47)).alloc (.cells #[.string t.name, .bool t.data, .int .u32 t.off, .bool t.exp] 58))) := Lib.hid (((Keep.refl _).alloc _).alloc _)
      have BR : Hid (Box ((wr.alloc (.cells #[.string t.name, .bool t.data, .int .u32 t.off, .bool t.exp] 47)).alloc (.cells #[.string t.name, .bool t.data, .int .u32 t.off, .bool t.exp] 58)) (wr.heap.size + 1) #[.string t.name, .bool t.data, .int .u32 t.off, .bool t.exp]) := Lib.hid (Box.new1 _ _ _ _)
      go_wp2_with (at_builtin; refine wpList_append_own _ rfl _ _ 33 rfl (w.heap.size + 3) 58 i0 _ 4 32 Tryd.underlying33 hi0 hz0 hz1 hz2 rfl (by decide) _ k (symRows (o.syms.take k)) rfl (owns_keep HOW.out KA.out) ⟨wr.heap.size + 1, 0, none⟩ 1 1 (symRow t) rfl rfl ?c1 (symRow_one t) ?c3 ?c4 ?c5 ?_)
      case c1 =>
        intro j u hj
        have c := BR.out.cells
        match j, hj with
        | 0, hj => simp [symRow] at hj; subst hj; simp [Addr.add, c]
        | 1, hj => simp [symRow] at hj; subst hj; simp [Addr.add, c]
        | 2, hj => simp [symRow] at hj; subst hj; simp [Addr.add, c]
        | 3, hj => simp [symRow] at hj; subst hj; simp [Addr.add, c]
        | (n + 4), hj => simp [symRow] at hj
      case c3 => unfold maxLen; omega
      case c4 => omega
      case c5 => simp; omega
      intro v' w3 hown' hgrow _
      have hS : ∀ g, Value.ownBlock _ = some g → w.heap.size + 3 ≤ g := fun g hg => (World.ownsRow.lt HOW.out g hg).1
      have KB := KA.out.but (fun z => w.heap.size + 3 ≤ z) |>.trans (grown_but hgrow (fun z => w.heap.size + 3 ≤ z) hS)
      have HB := Lib.hid KB
      have OW := Lib.hid hown'
      have X3 := Box.but HI.out.x KB (by omega)
      have HX3 := Lib.hid X3
      have cx3 := X3.cells
      have fx3 := X3.thawed
      have KW3 := Lib.hid (HI.out.keep.butNew KB (fun z hz => by omega))
      obtain ⟨pw, cw, hw, _, _, _⟩ := owns_cells hown' (by unfold maxLen; omega)
      subst hw
      clear hgrow hS KB hown' c0 cx fx y0 y1 y2 y3 X3
      go_wp2_with fail
      go_roundw
      case rel =>
        refine ⟨k + 1, .slice pw (k + 1) cw, hlt, by go_num, ⟨?_, ?_, ?_, ?_⟩, ?_⟩
        · exact Box.other (Box.but HI.out.obj HB.out (by omega)) (by simp only; omega) _
        · exact Box.other (Box.but HI.out.res HB.out (by omega)) (by simp only; omega) _
        · simpa using Box.set HX3.out 3 (.slice pw (k + 1) cw)
        · exact Keep.setAt (by omega) KW3.out _
        · refine ownsRow_setCell_other (by unfold symRows; rw [HTK.out]; exact OW.out) (fun hc => ?_) _
          have := (World.ownsRow.lt OW.out _ hc).1
          simp only at this
          omega
      case measure => simp [intOf]; omega
    · obtain rfl : k = o.syms.length := by omega
      obtain ⟨W1, rfl⟩ : ∃ W, W = wr := ⟨_, rfl⟩
      have SS := Lib.hid (owns_cells HOW.out (by unfold maxLen; omega))
      rw [List.take_length] at SS
      have X1 := Lib.hid HI.out
      have hs1 : w.heap.size + 3 ≤ W1.heap.size := by omega
      go_wp2_with fail
      go_loopw [6] (fun i wr => ∃ (k : Nat) (v : Value), k ≤ o.rels.length ∧ i = .int .i64 (k : Int) ∧ OfI o (.slice pc o.code.length cc) (.slice pd o.data.length cd) ps pr cs cr w wr (.slice pv o.syms.length cv) v ∧ wr.ownsRow W1.heap.size 59 5 v k (relRows (o.rels.take k)) ∧ KeepBut (fun z => z = w.heap.size + 1 + 1) W1 wr) (fun i _ => o.rels.length - (intOf i).toNat)
      case atStart => exact ⟨0, _, Nat.zero_le _, rfl, X1.out, World.ownsRow_nil _ _ _ _, KeepBut.refl _ _⟩
      case round =>
        obtain ⟨k, v, hk, rfl, hI, hO, hKB⟩ := hrel
        have HI := Lib.hid hI
        have HOW := Lib.hid hO
        have HKB := Lib.hid hKB
        have c0 := hI.obj.cells
        have cx := hI.x.cells
        have fx := hI.x.thawed
        have hsz := hI.x.lt
        have hsz1 := hKB.size
        obtain ⟨qv, dv, hv, hq1, hq2, hq3⟩ := owns_cells hO (by unfold maxLen; omega)
        subst hv
        have HQ := Lib.hid (And.intro hq1 (And.intro hq2 hq3))
        clear hI hO hq1 hq2 hq3 hKB
        by_cases hlt : k < o.rels.length
        · obtain ⟨t, ht⟩ : ∃ t, o.rels[k]? = some t := ⟨_, List.getElem?_eq_getElem hlt⟩
          have HTK := Lib.hid (take_flat relRow o.rels k t ht)
          have hki : (k : Int) < (o.rels.length : Int) := by omega
          rcases HXR.out with hnil | ⟨b, off, rfl, hbl, hx⟩
          · exact absurd hlt (by rw [hnil]; simp)
          obtain ⟨x0, x1, x2, x3, x4⟩ := hx k t ht
          have y0 := HI.out.keep.cellOf x0
          have y1 := HI.out.keep.cellOf x1
          have y2 := HI.out.keep.cellOf x2
          have y3 := HI.out.keep.cellOf x3
          have y4 := HI.out.keep.cellOf x4
          clear hx ht x0 x1 x2 x3 x4
          have KA : Hid (Keep wr ((wr.alloc (.cells #[.int .i64 t.kind, .int .u32 t.off, .string t.comp, .string t.name, .int .u16 t.perm] 49)).alloc (.cells #[.int .i64 t.kind, .int .u32 t.off, .string t.comp, .string t.name, .int .u16 t.perm] 59))) := Lib.hid (((Keep.refl _).alloc _).alloc _)
          have BR : Hid (Box ((wr.alloc (.cells #[.int .i64 t.kind, .int .u32 t.off, .string t.comp, .string t.name, .int .u16 t.perm] 49)).alloc (.cells #[.int .i64 t.kind, .int .u32 t.off, .string t.comp, .string t.name, .int .u16 t.perm] 59)) (wr.heap.size + 1) #[.int .i64 t.kind, .int .u32 t.off, .string t.comp, .string t.name, .int .u16 t.perm]) := Lib.hid (Box.new1 _ _ _ _)
          go_wp2_with (at_builtin; refine wpList_append_own _ rfl _ _ 34 rfl (W1.heap.size) 59 j0 _ 5 56 Tryd.underlying34 hj0 yz0 yz1 yz2 rfl (by decide) _ k (relRows (o.rels.take k)) rfl (owns_keep HOW.out KA.out) ⟨wr.heap.size + 1, 0, none⟩ 1 1 (relRow t) rfl rfl ?c1 (relRow_one t) ?c3 ?c4 ?c5 ?_)
          case c1 =>
            intro j u hj
            have c := BR.out.cells
            match j, hj with
            | 0, hj => simp [relRow] at hj; subst hj; simp [Addr.add, c]
            | 1, hj => simp [relRow] at hj; subst hj; simp [Addr.add, c]
            | 2, hj => simp [relRow] at hj; subst hj; simp [Addr.add, c]
            | 3, hj => simp [relRow] at hj; subst hj; simp [Addr.add, c]
            | 4, hj => simp [relRow] at hj; subst hj; simp [Addr.add, c]
            | (n + 5), hj => simp [relRow] at hj
          case c3 => unfold maxLen; omega
          case c4 => omega
          case c5 => simp; omega
          intro v' w3 hown' hgrow _
          have hS : ∀ g, Value.ownBlock _ = some g → W1.heap.size ≤ g := fun g hg => (World.ownsRow.lt HOW.out g hg).1
          have KB := KA.out.but (fun z => W1.heap.size ≤ z) |>.trans (grown_but hgrow (fun z => W1.heap.size ≤ z) hS)
          have HB := Lib.hid KB
          have OW := Lib.hid hown'
          have X3 := Box.but HI.out.x KB (by omega)
          have HX3 := Lib.hid X3
          have cx3 := X3.cells
          have fx3 := X3.thawed
          have KW3 := Lib.hid (HI.out.keep.butNew KB (fun z hz => by omega))
          have KB3 := Lib.hid (keepBut_new HKB.out KB)
          obtain ⟨pw, cw, hw, _, _, _⟩ := owns_cells hown' (by unfold maxLen; omega)
          subst hw
          clear hgrow hS KB hown' c0 cx fx y0 y1 y2 y3 y4 X3
          go_wp2_with fail
          go_roundw
          case rel =>
            refine ⟨k + 1, .slice pw (k + 1) cw, hlt, by go_num, ⟨?_, ?_, ?_, ?_⟩, ?_, ?_⟩
            · exact Box.other (Box.but HI.out.obj HB.out (by omega)) (by simp only; omega) _
            · exact Box.other (Box.but HI.out.res HB.out (by omega)) (by simp only; omega) _
            · simpa using Box.set HX3.out 4 (.slice pw (k + 1) cw)
            · exact Keep.setAt (by omega) KW3.out _
            · refine ownsRow_setCell_other (by unfold relRows; rw [HTK.out]; exact OW.out) (fun hc => ?_) _
              have := (World.ownsRow.lt OW.out _ hc).1
              simp only at this
              omega
            · exact KeepBut.setAt (S := fun z => z = w.heap.size + 1 + 1) (.inl rfl) KB3.out _
          case measure => simp [intOf]; omega
        · obtain rfl : k = o.rels.length := by omega
          have r0 := HI.out.res.cells
          have rf := HI.out.res.thawed
          have ne1 : w.heap.size + 1 ≠ w.heap.size + 1 + 1 := by omega
          have KE := Lib.hid HI.out.keep
          have HSZ := Lib.hid hsz1
          have HS1 := Lib.hid hs1
          go_wp2_with fail
          refine bodyPost_ret (v := .agg #[.string o.name, .slice pc o.code.length cc, .slice pd o.data.length cd, .slice pv o.syms.length cv, .slice qv o.rels.length dv]) (by simp [results, Tryd.results7, go_sem, r0]; done) rfl ⟨?_, _, _, rfl, ?_⟩
          · repeat (with_reducible refine Keep.setAt ?_ ?_ _; · first | omega | (simp; done) | (simp; omega))
            exact KE.out
          · refine of_end HO.out KE.out HKB.out HSZ.out HS1.out SS.out (by have h := HQ.out; rw [List.take_length] at h; exact h) ?_
            repeat (with_reducible refine KeepBut.setAt ?_ ?_ _; · exact .inl rfl)
            exact KeepBut.refl _ _
end Go.Proofs.YtahnbeoacdnhjaaDoor
