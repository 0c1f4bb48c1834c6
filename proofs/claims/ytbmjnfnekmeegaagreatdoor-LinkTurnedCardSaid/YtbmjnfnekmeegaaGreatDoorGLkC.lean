/- LkChkA, LkChkB, LkChkC: What the linker's checks ask of each object, comp, import, relocation. -/
import Derived.Test.YtbmjnfnekmeegaaGreatDoorGLkA
import Derived.Test.YtbmjnfnekmeegaaGreatDoorGLkB
import Derived.Test.YtbmjnfnekmeegaaGreatDoorGObjPB
import Derived.Test.YtbmjnfnekmeegaaGreatDoorGManQ
/- What the linker's checks ask of each object, comp, import, relocation. -/
namespace Go.Proofs.YtbmjnfnekmeegaaGreatDoor
set_option linter.unusedVariables false
set_option linter.unusedSimpArgs false
open Go Go.RowKit
theorem WV.of {w : World} {part : ByteArray} {k n : Int} {x : Option LnkW} (h : x = errO part k n) : WV w (errnoV n) part k x := h ▸ WV.errno w part k n
theorem errO_ite {part : ByteArray} {k n : Int} : errO part k n = if n = 0 then none else some (((part, k, n) : WrV), okW) := rfl
theorem lobjE_name {m : ManV} {l : List ObjV} {k : Nat} {o : ObjV} (hk : l[k]? = some o) (hw : (objW o).2.2 = 0) : lobjE m l k = errO objectT (k : Int) (nameE m l k o) := by
  rw [lobjE_at hk, if_neg (fun h => h hw)]
  unfold nameE
  by_cases a : hasC m.comps o.name = false
  · rw [if_pos a, if_pos a]; rfl
  · rw [if_neg a, if_neg a]
    by_cases c : ((l.take k).any fun p => decide (p.name = o.name)) = true
    · rw [if_pos c, if_pos c]; rfl
    · rw [if_neg c, if_neg c]; rfl
theorem lobjE_wrong {m : ManV} {l : List ObjV} {k : Nat} {o : ObjV} (hk : l[k]? = some o) (hw : (objW o).2.2 ≠ 0) : lobjE m l k = some (((objectT, (k : Int), 0) : WrV), objW o) := by
  rw [lobjE_at hk, if_pos hw]
theorem lcompE_errO {m : ManV} {l : List ObjV} {c : Nat} {cc : CompV} (hc : m.comps[c]? = some cc) : lcompE m l c = errO compT (c : Int) (compE l cc) := by
  cases hf : findO l cc.name with
  | none => rw [lcompE_none hc hf, compE_none hf]; rfl
  | some o =>
    rw [lcompE_some hc hf, compE_some hf]
    by_cases a : o.code.length = 0
    · rw [if_pos a, if_pos a]; rfl
    · rw [if_neg a, if_neg a]
      by_cases d : (placesL o).length > 64
      · rw [if_pos d, if_pos d]; rfl
      · rw [if_neg d, if_neg d]; rfl
set_option maxHeartbeats 4000000 in
set_option maxRecDepth 100000 in
theorem lkcObj1_any (b : Nat) (m : ManV) (vc vi vs vg : Value) (l : List ObjV) (vl : Value) (qs : List V4) (z ps ss is st ad bs : Value) (k : Nat) (o : ObjV) (bl : Nat) (hk : l[k]? = some o) (hf : ObjsFew l) (fm : m.comps.length ≤ 1000000) (w : World) (h : LkAt w b m vc vi vs vg l vl qs z ps ss is st ad bs) (hl : Box w bl #[.pointer (some ⟨b, 0, none⟩)]) (hE : ErrT w) :
    Calls Tryz.prog 58 #[.int .i64 (k : Int), .pointer (some ⟨bl, 0, none⟩)] w fun e w' => ∃ v, e = .returned v ∧ WV w' v objectT (k : Int) (lobjE m l k) ∧ Keep w w' := by
  have few : l.length ≤ 1000000 := by have := hf.len; omega
  have ho : o ∈ l := List.mem_of_getElem? hk
  obtain ⟨q, hq⟩ : ∃ q, qs[k]? = some q := ⟨_, List.getElem?_eq_getElem (by rw [h.objs.nqs]; exact (List.getElem?_eq_some_iff.1 hk).1)⟩
  have HO := Lib.hid (h.objs.at_ k o q hk hq)
  obtain ⟨pa, ca, pb, cb', pd, cd, pe, ce, rfl⟩ := HO.out.sls
  have CC : Hid (∀ W, Keep w W → Calls Tryz.prog 59 #[.agg #[.string o.name, .slice pa o.code.length ca, .slice pb o.data.length cb', .slice pd o.syms.length cd, .slice pe o.rels.length ce]] W fun e w' => Keep W w' ∧ ∃ u, e = .returned u ∧ OErr w' u (objW o)) :=
    Lib.hid (fun W hW => oCheck o _ _ _ _ W (HO.out.keep hW) (hf.num o ho) (hf.few o ho) (hE.keep hW))
  have CN := Lib.hid (fun W (hW : Keep w W) => lkname_any b m vc vi vs vg l vl qs z ps ss is st ad bs k o hk W (h.keep hW) fm few)
  have cb := h.box.cells
  have cl := hl.cells
  have HBX := Lib.hid h.box
  have HL := Lib.hid hl
  obtain ⟨p2, cap2, hv2, hcap2, hx2⟩ := h.objs.objsAt
  obtain ⟨b2, off2, hp2, hb2, hx3⟩ := hx2.resolve_left (fun e => by rw [e] at hk; simp at hk)
  subst hp2
  obtain ⟨o0, o1, o2, o3, o4⟩ := hx3 k o _ hk hq
  dsimp only at o1 o2 o3 o4
  have hkl : k < l.length := (List.getElem?_eq_some_iff.1 hk).1
  rw [hv2] at cb
  obtain ⟨nl, hnl⟩ : ∃ nl, nl = l.length := ⟨_, rfl⟩
  rw [← hnl] at hkl cb
  obtain ⟨n1, hn1⟩ : ∃ n, n = o.code.length := ⟨_, rfl⟩
  obtain ⟨n2, hn2⟩ : ∃ n, n = o.data.length := ⟨_, rfl⟩
  obtain ⟨n3, hn3⟩ : ∃ n, n = o.syms.length := ⟨_, rfl⟩
  obtain ⟨n4, hn4⟩ : ∃ n, n = o.rels.length := ⟨_, rfl⟩
  rw [← hn1] at CC o1
  rw [← hn2] at CC o2
  rw [← hn3] at CC o3
  rw [← hn4] at CC o4
  obtain ⟨W0, hW0⟩ : ∃ W0, W0 = w.alloc (.cells #[.string o.name, .slice pa n1 ca, .slice pb n2 cb', .slice pd n3 cd, .slice pe n4 ce] 76) := ⟨_, rfl⟩
  have K0 : Hid (Keep w W0) := Lib.hid (by rw [hW0]; exact (Keep.refl _).alloc _)
  have c0 := (Box.new w #[.string o.name, .slice pa n1 ca, .slice pb n2 cb', .slice pd n3 cd, .slice pe n4 ce] 76).cells
  have HKX := Lib.hid hk
  clear hx2 hx3 hq hcap2 hnl hn1 hn2 hn3 hn4 h hf hl hE few fm ho HO hv2 hk
  go_enter Tryz.func58, Tryz.ntmps58
  go_wp2_with fail
  rw [← hW0]
  refine (CC.out W0 K0.out).mono ?_
  rintro e w1 ⟨hk1, u, rfl, hu⟩
  have K1 := Lib.hid (K0.out.trans hk1)
  clear hk1 hW0 c0
  by_cases hw : (objW o).2.2 = 0
  · obtain rfl := hu.good hw
    have HW := Lib.hid hw
    clear hu hw
    have cl2 := (HL.out.keep K1.out).cells
    go_wp2_with fail
    refine (CN.out w1 K1.out).mono ?_
    rintro e w2 ⟨rfl, hk2⟩
    have K2 := Lib.hid (K1.out.trans hk2)
    clear hk2
    go_wp2_with fail
    go_ret
    exact ⟨_, rfl, WV.of (lobjE_name HKX.out HW.out), K2.out⟩
  · obtain ⟨q, rfl, hB⟩ := hu.box hw
    have HB := Lib.hid hB
    have HW := Lib.hid hw
    clear hu hw hB
    unfold faultP
    go_wp2_with fail
    go_ret
    exact ⟨_, rfl, .inr (.inr ⟨_, _, _, q, HW.out, lobjE_wrong HKX.out HW.out, rfl, HB.out⟩), K1.out⟩
set_option maxHeartbeats 4000000 in
set_option maxRecDepth 100000 in
theorem lkcComp1_any (b : Nat) (m : ManV) (vc vi vs vg : Value) (l : List ObjV) (vl : Value) (qs : List V4) (z ps ss is st ad bs : Value) (c : Nat) (cc : CompV) (bl : Nat) (hc : m.comps[c]? = some cc) (hf : ObjsFew l) (w : World) (h : LkAt w b m vc vi vs vg l vl qs z ps ss is st ad bs) (hl : Box w bl #[.pointer (some ⟨b, 0, none⟩)]) :
    Calls Tryz.prog 61 #[.int .i64 (c : Int), .pointer (some ⟨bl, 0, none⟩)] w fun e w' => ∃ v, e = .returned v ∧ WV w' v compT (c : Int) (lcompE m l c) ∧ Keep w w' := by
  have CN := Lib.hid (fun W (hW : Keep w W) => lkcomp_any b m vc vi vs vg l vl qs z ps ss is st ad bs c cc hc hf W (h.keep hW))
  have cl := hl.cells
  have HC := Lib.hid hc
  clear h hf hl hc
  go_enter Tryz.func61, Tryz.ntmps61
  go_wp2_with fail
  refine (CN.out w (Keep.refl _)).mono ?_
  rintro e w1 ⟨rfl, hk1⟩
  have K1 := Lib.hid hk1
  clear hk1
  go_wp2_with fail
  go_ret
  exact ⟨_, rfl, WV.of (lcompE_errO HC.out), K1.out⟩
set_option maxHeartbeats 4000000 in
set_option maxRecDepth 100000 in
theorem lkcImp1_any (b : Nat) (m : ManV) (vc vi vs vg : Value) (l : List ObjV) (vl : Value) (qs : List V4) (z ps ss is st ad bs : Value) (j : Nat) (x : ImpV) (c : Nat) (cc : CompV) (k : Nat) (o : ObjV) (q : V4) (bl : Nat) (hj : m.imps[j]? = some x) (H : LkHas m l qs c cc k o q) (hx : idxL m.comps x.from_ 0 = (c : Int)) (hn : cc.name = x.from_) (hfo : findO l cc.name = some o) (hf : ObjsFew l) (fm : m.comps.length ≤ 1000000) (w : World) (h : LkAt w b m vc vi vs vg l vl qs z ps ss is st ad bs) (hl : Box w bl #[.pointer (some ⟨b, 0, none⟩)]) :
    Calls Tryz.prog 64 #[.int .i64 (j : Int), .pointer (some ⟨bl, 0, none⟩)] w fun e w' => ∃ v, e = .returned v ∧ WV w' v importT (j : Int) (limpE m l j) ∧ Keep w w' := by
  have CN : Hid (∀ W, Keep w W → Calls Tryz.prog 65 #[.pointer (some ⟨b, 0, none⟩), .agg #[.string x.comp, .string x.from_, .string x.name]] W fun e w' => e = .returned (.int .i64 (calleeE o x.name)) ∧ Keep W w') :=
    Lib.hid (fun W hW => lkcallee_any b m vc vi vs vg l vl qs z ps ss is st ad bs x c cc k o q H hx hf fm W (h.keep hW))
  have HL := Lib.hid hl
  have HB := Lib.hid h.box
  obtain ⟨p2, cap2, hv2, hcap2, hx2⟩ := h.man.impsAt
  obtain ⟨b2, off2, hp2, hb2, hx3⟩ := hx2.resolve_left (fun e => by rw [e] at hj; simp at hj)
  subst hp2
  have HX := Lib.hid (hx3 j x hj)
  have hjl : j < m.imps.length := (List.getElem?_eq_some_iff.1 hj).1
  rw [hv2] at HB
  obtain ⟨nl, hnl⟩ : ∃ nl, nl = m.imps.length := ⟨_, rfl⟩
  rw [← hnl] at hjl HB
  have HE : Hid (limpE m l j = errO importT (j : Int) (calleeE o x.name)) := Lib.hid (by
    rw [limpE_at hj, ← hn, objOf_find hfo]
    unfold calleeE
    by_cases a : exportsO o x.name = true
    · rw [if_pos a, if_pos a]; rfl
    · rw [if_neg a, if_neg a]; rfl)
  clear h hf hl hj hx2 hx3 hcap2 hnl hx hn hfo fm H hv2
  go_enter Tryz.func64, Tryz.ntmps64
  go_wp2_with fail
  refine region_grows (Keep w) (by kernel_rfl) (by kernel_rfl) (Keep.refl _).drew ?_
  repeat (first
    | (apply text_pass (by rfl); go_simp)
    | (apply text_step (by rfl)
       · intro W hW
         have cb := (HB.out.keep hW).cells
         have cl := (HL.out.keep hW).cells
         have x0 := hW.cellOf HX.out.1
         have x1 := hW.cellOf HX.out.2.1
         have x2 := hW.cellOf HX.out.2.2
         go_simp
         first
           | (apply yes_enter; go_at_call 65; refine (CN.out _ hW).mono ?_; rintro e w' ⟨rfl, hk⟩; exact ⟨rfl, hW.trans hk⟩)
           | exact ⟨rfl, hW⟩
       go_simp))
  apply text_end
  intro W1 hW1
  have K1 := Lib.hid hW1
  clear hW1
  go_wp2_with fail
  go_ret
  exact ⟨_, rfl, WV.of HE.out, K1.out⟩
set_option maxHeartbeats 4000000 in
set_option maxRecDepth 100000 in
theorem lkcRel2_any (b : Nat) (m : ManV) (vc vi vs vg : Value) (l : List ObjV) (vl : Value) (qs : List V4) (z ps ss is st ad bs : Value) (c : Nat) (cc : CompV) (rs : List RelV) (vr : Value) (j : Nat) (r : RelV) (bl bc br : Nat) (hc : m.comps[c]? = some cc) (hj : rs[j]? = some r) (hz : ∀ g ∈ m.grns, g.perm ≠ 0) (hm : ManMay m) (w : World) (h : LkAt w b m vc vi vs vg l vl qs z ps ss is st ad bs) (hl : Box w bl #[.pointer (some ⟨b, 0, none⟩)]) (hbc : Box w bc #[.int .i64 (c : Int)]) (hbr : Box w br #[vr]) (hr : SlAt w vr rs.length (relRows rs)) :
    Calls Tryz.prog 68 #[.int .i64 (j : Int), .pointer (some ⟨bl, 0, none⟩), .pointer (some ⟨bc, 0, none⟩), .pointer (some ⟨br, 0, none⟩)] w fun e w' => ∃ v, e = .returned v ∧ WV w' v relT (j : Int) (errO relT (j : Int) (lrelE m cc.name r)) ∧ Keep w w' := by
  have CN : Hid (∀ W, Keep w W → Calls Tryz.prog 69 #[.pointer (some ⟨b, 0, none⟩), .int .i64 (c : Int), .agg #[.int .i64 r.kind, .int .u32 r.off, .string r.comp, .string r.name, .int .u16 r.perm]] W fun e w' => e = .returned (.int .i64 (lrelE m cc.name r)) ∧ Keep W w') :=
    Lib.hid (fun W hW => lkreloc_any b m vc vi vs vg l vl qs z ps ss is st ad bs c cc hc r hz hm W (h.keep hW))
  have HL := Lib.hid hl
  have HBC := Lib.hid hbc
  obtain ⟨p2, cap2, hv2, hcap2, _, hx2⟩ := hr.rowsAt (m := 5) (fun _ => rfl)
  have hx2 := hx2.resolve_left (fun e => by rw [e] at hj; simp at hj)
  obtain ⟨b2, off2, hp2, hb2, hx3⟩ := hx2.resolve_left (fun e => by cases e)
  subst hp2
  subst hv2
  have HBR := Lib.hid hbr
  have g := hx3 j r hj
  have HX := Lib.hid (And.intro (g 0 _ (by decide) rfl) (And.intro (g 1 _ (by decide) rfl) (And.intro (g 2 _ (by decide) rfl) (And.intro (g 3 _ (by decide) rfl) (g 4 _ (by decide) rfl)))))
  have hjl : j < rs.length := (List.getElem?_eq_some_iff.1 hj).1
  obtain ⟨nl, hnl⟩ : ∃ nl, nl = rs.length := ⟨_, rfl⟩
  rw [← hnl] at hjl HBR
  clear h hl hj hx2 hx3 hcap2 hnl hbc hbr hr hm hz hc g
  go_enter Tryz.func68, Tryz.ntmps68
  go_wp2_with fail
  refine region_grows (Keep w) (by kernel_rfl) (by kernel_rfl) (Keep.refl _).drew ?_
  repeat (first
    | (apply text_pass (by rfl); go_simp)
    | (apply text_step (by rfl)
       · intro W hW
         have cl := (HL.out.keep hW).cells
         have cc1 := (HBC.out.keep hW).cells
         have cr := (HBR.out.keep hW).cells
         have x0 := hW.cellOf HX.out.1
         have x1 := hW.cellOf HX.out.2.1
         have x2 := hW.cellOf HX.out.2.2.1
         have x3 := hW.cellOf HX.out.2.2.2.1
         have x4 := hW.cellOf HX.out.2.2.2.2
         rw [Nat.add_zero] at x0
         go_simp
         first
           | (apply yes_enter; go_at_call 69; refine (CN.out _ hW).mono ?_; rintro e w' ⟨rfl, hk⟩; exact ⟨rfl, hW.trans hk⟩)
           | exact ⟨rfl, hW⟩
       go_simp))
  apply text_end
  intro W1 hW1
  have K1 := Lib.hid hW1
  clear hW1
  go_wp2_with fail
  go_ret
  exact ⟨_, rfl, WV.of rfl, K1.out⟩
end Go.Proofs.YtbmjnfnekmeegaaGreatDoor

/- The linker's checks. -/
namespace Go.Proofs.YtbmjnfnekmeegaaGreatDoor
set_option linter.unusedVariables false
set_option linter.unusedSimpArgs false
open Go Go.RowKit
theorem firstO_errO (part : ByteArray) (f : Nat → Int) : ∀ (n i : Nat), firstO (fun k => errO part (k : Int) (f k)) n i = match firstE f n i with
    | none => none
    | some (k, e) => some (((part, (k : Int), e) : WrV), okW)
  | 0, _ => rfl
  | n + 1, i => by
    by_cases h : f i = 0
    · have e : errO part (i : Int) (f i) = none := by rw [h]; rfl
      simp only [firstO, firstE, if_pos h, e]
      exact firstO_errO part f n (i + 1)
    · have e := errO_not (part := part) (k := (i : Int)) h
      simp only [firstO, firstE, if_neg h, e]
theorem LErr.ofO {w : World} {u : Value} {x : WrV} (h : OErr w u x) : LErr w u (if x.2.2 = 0 then none else some (x, okW)) := by
  by_cases hx : x.2.2 = 0
  · rw [if_pos hx]; exact h.good hx
  · rw [if_neg hx]; exact .inl ⟨rfl, hx, h⟩
def relAt (l : List RelV) (m : ManV) (c : ByteArray) (k : Nat) : Int := match l[k]? with
  | none => 0
  | some r => lrelE m c r
theorem lrelsE_at {m : ManV} {l : List ObjV} {c : Nat} {cc : CompV} {o : ObjV} (hc : m.comps[c]? = some cc) (hf : findO l cc.name = some o) : lrelsE m l c = match firstE (relAt o.rels m cc.name) o.rels.length 0 with
    | none => none
    | some (k, e) => some (((compT, (c : Int), 0) : WrV), ((relT, (k : Int), e) : WrV)) := by
  unfold lrelsE
  rw [hc]
  dsimp only
  rw [objOf_find hf]
  rfl
/-- What the inner each answers, as what the outer one is handed. -/
theorem WV.ofRel {w : World} {u : Value} {m : ManV} {l : List ObjV} {c : Nat} {cc : CompV} {o : ObjV} (hc : m.comps[c]? = some cc) (hf : findO l cc.name = some o) (h : LErr w u (firstO (fun k => errO relT (k : Int) (relAt o.rels m cc.name k)) o.rels.length 0)) : WV w u compT (c : Int) (lrelsE m l c) := by
  rw [firstO_errO] at h
  rw [lrelsE_at hc hf]
  cases hx : firstE (relAt o.rels m cc.name) o.rels.length 0 with
  | none =>
    rw [hx] at h
    exact .inl ⟨rfl, .inl h⟩
  | some p =>
    obtain ⟨k, e⟩ := p
    rw [hx] at h
    rcases h with ⟨_, h1, h2⟩ | ⟨h1, _⟩
    · obtain ⟨q, rfl, hB⟩ := h2.box h1
      exact .inr (.inr ⟨relT, (k : Int), e, q, h1, rfl, rfl, hB⟩)
    · exact absurd rfl h1
set_option maxHeartbeats 4000000 in
set_option maxRecDepth 100000 in
theorem lkcRel1_any (b : Nat) (m : ManV) (vc vi vs vg : Value) (l : List ObjV) (vl : Value) (qs : List V4) (z ps ss is st ad bs : Value) (c : Nat) (cc : CompV) (k : Nat) (o : ObjV) (q : V4) (bl : Nat) (H : LkHas m l qs c cc k o q) (hfo : findO l cc.name = some o) (hz : ∀ g ∈ m.grns, g.perm ≠ 0) (hm : ManMay m) (hf : ObjsFew l) (w : World) (h : LkAt w b m vc vi vs vg l vl qs z ps ss is st ad bs) (hl : Box w bl #[.pointer (some ⟨b, 0, none⟩)]) :
    Calls Tryz.prog 66 #[.int .i64 (c : Int), .pointer (some ⟨bl, 0, none⟩)] w fun e w' => ∃ v, e = .returned v ∧ WV w' v compT (c : Int) (lrelsE m l c) ∧ Keep w w' := by
  have few : l.length ≤ 1000000 := by have := hf.len; omega
  have ho : o ∈ l := List.mem_of_getElem? H.obj
  have HO := Lib.hid (h.objs.at_ k o q H.obj H.val)
  obtain ⟨pa, ca, pb, cb', pd, cd, pe, ce, rfl⟩ := HO.out.sls
  have CO : Hid (∀ W, Keep w W → Calls Tryz.prog 67 #[.pointer (some ⟨b, 0, none⟩), .int .i64 (c : Int)] W fun e w' => e = .returned (.agg #[.string o.name, .slice pa o.code.length ca, .slice pb o.data.length cb', .slice pd o.syms.length cd, .slice pe o.rels.length ce]) ∧ Keep W w') :=
    Lib.hid (fun W hW => lkobject_any b m vc vi vs vg l vl qs z ps ss is st ad bs c cc k o _ H W (h.keep hW) few)
  have hrl := (hf.few o ho).rels
  have CE := Lib.hid (fun (W : World) (hW : Keep w W) (bc br : Nat) (hbc : Box W bc #[.int .i64 (c : Int)]) (hbr : Box W br #[.slice pe o.rels.length ce]) =>
    lkeach3_any relT o.rels.length (by omega) 68 (.pointer (some ⟨bl, 0, none⟩)) (.pointer (some ⟨bc, 0, none⟩)) (.pointer (some ⟨br, 0, none⟩)) (fun j => errO relT (j : Int) (relAt o.rels m cc.name j)) W (enters_of Tryz.func68 (by kernel_rfl) rfl)
      (fun j W2 hj hW2 => by
        have hr : o.rels[j]? = some o.rels[j] := List.getElem?_eq_getElem hj
        have e : relAt o.rels m cc.name j = lrelE m cc.name o.rels[j] := by unfold relAt; rw [hr]
        rw [e]
        exact lkcRel2_any b m vc vi vs vg l vl qs z ps ss is st ad bs c cc o.rels _ j o.rels[j] bl bc br H.comp hr hz hm W2 (h.keep (hW.trans hW2)) (hl.keep (hW.trans hW2)) (hbc.keep hW2) (hbr.keep hW2) (HO.out.rels.keep (hW.trans hW2))))
  have HW := Lib.hid (fun (W : World) (u : Value) (hu : LErr W u (firstO (fun j => errO relT (j : Int) (relAt o.rels m cc.name j)) o.rels.length 0)) => WV.ofRel H.comp hfo hu)
  have HL := Lib.hid hl
  obtain ⟨W0, hW0⟩ : ∃ W0, W0 = w.alloc (.cells #[.int .i64 (c : Int)] 3) := ⟨_, rfl⟩
  have K0 : Hid (Keep w W0) := Lib.hid (by rw [hW0]; exact (Keep.refl _).alloc _)
  have BC : Hid (Box W0 w.heap.size #[.int .i64 (c : Int)]) := Lib.hid (by rw [hW0]; exact Box.new _ _ _)
  have cl := (HL.out.keep K0.out).cells
  have cc1 := BC.out.cells
  rw [hW0] at cl cc1
  obtain ⟨n1, hn1⟩ : ∃ n, n = o.code.length := ⟨_, rfl⟩
  obtain ⟨n2, hn2⟩ : ∃ n, n = o.data.length := ⟨_, rfl⟩
  obtain ⟨n3, hn3⟩ : ∃ n, n = o.syms.length := ⟨_, rfl⟩
  obtain ⟨n4, hn4⟩ : ∃ n, n = o.rels.length := ⟨_, rfl⟩
  rw [← hn1, ← hn2, ← hn3, ← hn4] at CO
  rw [← hn4] at CE HW
  have fld : Hid (∀ (W : World), (Instr.field 76 (.agg #[.string o.name, .slice pa n1 ca, .slice pb n2 cb', .slice pd n3 cd, .slice pe n4 ce]) 4).run Tryz.prog W = .ok (.slice pe n4 ce) W) := Lib.hid (fun W => by kernel_rfl)
  clear h hf hl hm hz H hfo few ho HO hrl hn1 hn2 hn3 hn4
  go_enter Tryz.func66, Tryz.ntmps66
  go_wp2_with fail
  rw [← hW0]
  refine (CO.out W0 K0.out).mono ?_
  rintro e w1 ⟨rfl, hk1⟩
  have K1 := Lib.hid (K0.out.trans hk1)
  have B1 := Lib.hid (BC.out.keep hk1)
  clear hk1 hW0 cl cc1
  have hfld := fld.out
  go_wp2_with fail
  refine (CE.out _ (K1.out.alloc _) _ _ (B1.out.alloc _) (Box.new _ _ _)).mono ?_
  rintro e w2 ⟨u, rfl, hu, hk2⟩
  have K2 := Lib.hid ((K1.out.alloc _).trans hk2)
  have HU := Lib.hid (HW.out w2 u hu)
  clear hk2 hu hfld
  go_wp2_with fail
  go_ret
  exact ⟨_, rfl, HU.out, K2.out⟩
end Go.Proofs.YtbmjnfnekmeegaaGreatDoor

/- The linker's checks, one by one. -/
namespace Go.Proofs.YtbmjnfnekmeegaaGreatDoor
set_option linter.unusedVariables false
set_option linter.unusedSimpArgs false
open Go Go.RowKit
/-- What is wrong of the manifest, of its start. -/
def manO (m : ManV) : Option LnkW := if (manW m).2.2 = 0 then none else some (manW m, okW)
def startO (m : ManV) (l : List ObjV) : Option LnkW := if exportsO (objOf l m.start.from_) m.start.name = false then some (((mstartT, 0, 12) : WrV), okW) else none
/-- Of each comp: where its object lies. -/
def LkAll (m : ManV) (l : List ObjV) (qs : List V4) : Prop := ∀ (c : Nat) (cc : CompV), m.comps[c]? = some cc → ∃ k o q, LkHas m l qs c cc k o q ∧ findO l cc.name = some o
theorem cidx_find {n : ByteArray} {l : List CompV} (h : hasC l n = true) : ∃ (c : Nat) (cc : CompV), l[c]? = some cc ∧ cc.name = n ∧ idxL l n 0 = (c : Int) := by
  rw [idxL_F]
  rcases idxF_find (fun c : CompV => decide (c.name = n)) l 0 with ⟨a, _⟩ | ⟨k, x, a, b, d, g⟩
  · exfalso
    rw [List.find?_eq_none] at a
    unfold hasC at h
    obtain ⟨y, hy, hn⟩ := List.any_eq_true.1 h
    exact a y hy (by simpa using hn)
  · exact ⟨k, x, b, by simpa using d, by rw [g]; simp⟩
set_option maxHeartbeats 4000000 in
set_option maxRecDepth 100000 in
theorem lkChkMan_any (b : Nat) (m : ManV) (vc vi vs vg : Value) (l : List ObjV) (vl : Value) (qs : List V4) (z ps ss is st ad bs : Value) (hm : ManMay m) (w : World) (h : LkAt w b m vc vi vs vg l vl qs z ps ss is st ad bs) (hE : ErrT w) :
    Calls Tryz.prog 21 #[.pointer (some ⟨b, 0, none⟩)] w (LChk w (manO m)) := by
  have CC : Hid (Calls Tryz.prog 56 #[.agg #[vc, vi, vs, vg, .string m.start.comp, .string m.start.from_, .string m.start.name]] w fun e w' => Keep w w' ∧ ∃ u, e = .returned u ∧ OErr w' u (manW m)) := Lib.hid (mCheck (Pre := ErrT) m vc vi vs vg w h.man hm hE)
  have cb := h.box.cells
  clear h hm hE
  go_enter Tryz.func21, Tryz.ntmps21
  go_wp2_with fail
  refine CC.out.mono ?_
  rintro e w1 ⟨hk, u, rfl, hu⟩
  have HU := Lib.hid hu
  have HK := Lib.hid hk
  clear hu hk
  go_wp2_with fail
  go_ret
  exact ⟨_, rfl, LErr.ofO HU.out, HK.out⟩
set_option maxHeartbeats 4000000 in
set_option maxRecDepth 100000 in
theorem lkChkObjs_any (b : Nat) (m : ManV) (vc vi vs vg : Value) (l : List ObjV) (vl : Value) (qs : List V4) (z ps ss is st ad bs : Value) (hm : ManMay m) (hf : ObjsFew l) (w : World) (h : LkAt w b m vc vi vs vg l vl qs z ps ss is st ad bs) (hE : ErrT w) :
    Calls Tryz.prog 22 #[.pointer (some ⟨b, 0, none⟩)] w (LChk w (firstO (lobjE m l) l.length 0)) := by
  obtain ⟨W0, hW0⟩ : ∃ W0, W0 = w.alloc (.cells #[.pointer (some ⟨b, 0, none⟩)] 95) := ⟨_, rfl⟩
  have K0 : Hid (Keep w W0) := Lib.hid (by rw [hW0]; exact (Keep.refl _).alloc _)
  have BL : Hid (Box W0 w.heap.size #[.pointer (some ⟨b, 0, none⟩)]) := Lib.hid (by rw [hW0]; exact Box.new _ _ _)
  have HA := Lib.hid h
  have CE := Lib.hid (lkeach1_any objectT l.length (by have := hf.len; omega) 58 (.pointer (some ⟨w.heap.size, 0, none⟩)) (lobjE m l) W0 (enters_of Tryz.func58 (by kernel_rfl) rfl) (fun j W hj hW => lkcObj1_any b m vc vi vs vg l vl qs z ps ss is st ad bs j l[j] w.heap.size (List.getElem?_eq_getElem hj) hf (by have := hm.comps; omega) W (HA.out.keep (K0.out.trans hW)) (BL.out.keep hW) (hE.keep (K0.out.trans hW))))
  rw [show objectT = ⟨#[111, 98, 106, 101, 99, 116]⟩ from by kernel_rfl] at CE
  obtain ⟨pz, capz, hvz, _, _⟩ := h.objs.row
  have cb := (h.box.keep K0.out).cells
  rw [hvz] at cb
  rw [hW0] at cb
  clear h hf hm hE HA
  go_enter Tryz.func22, Tryz.ntmps22
  go_wp2_with fail
  rw [← hW0]
  refine CE.out.mono ?_
  rintro e w1 ⟨u, rfl, hu, hk⟩
  have K1 := Lib.hid (K0.out.trans hk)
  have HU := Lib.hid hu
  clear hk hu hW0 cb
  go_wp2_with fail
  go_ret
  exact ⟨_, rfl, HU.out, K1.out⟩
set_option maxHeartbeats 4000000 in
set_option maxRecDepth 100000 in
theorem lkChkComps_any (b : Nat) (m : ManV) (vc vi vs vg : Value) (l : List ObjV) (vl : Value) (qs : List V4) (z ps ss is st ad bs : Value) (hm : ManMay m) (hf : ObjsFew l) (w : World) (h : LkAt w b m vc vi vs vg l vl qs z ps ss is st ad bs) :
    Calls Tryz.prog 23 #[.pointer (some ⟨b, 0, none⟩)] w (LChk w (firstO (lcompE m l) m.comps.length 0)) := by
  obtain ⟨W0, hW0⟩ : ∃ W0, W0 = w.alloc (.cells #[.pointer (some ⟨b, 0, none⟩)] 95) := ⟨_, rfl⟩
  have K0 : Hid (Keep w W0) := Lib.hid (by rw [hW0]; exact (Keep.refl _).alloc _)
  have BL : Hid (Box W0 w.heap.size #[.pointer (some ⟨b, 0, none⟩)]) := Lib.hid (by rw [hW0]; exact Box.new _ _ _)
  have HA := Lib.hid h
  have CE := Lib.hid (lkeach1_any compT m.comps.length (by have := hm.comps; omega) 61 (.pointer (some ⟨w.heap.size, 0, none⟩)) (lcompE m l) W0 (enters_of Tryz.func61 (by kernel_rfl) rfl) (fun j W hj hW => lkcComp1_any b m vc vi vs vg l vl qs z ps ss is st ad bs j m.comps[j] w.heap.size (List.getElem?_eq_getElem hj) hf W (HA.out.keep (K0.out.trans hW)) (BL.out.keep hW)))
  rw [show compT = ⟨#[99, 111, 109, 112]⟩ from by kernel_rfl] at CE
  obtain ⟨pz, capz, hvz, _, _⟩ := h.man.comps
  have cb := (h.box.keep K0.out).cells
  rw [hvz] at cb
  rw [hW0] at cb
  clear h hf hm HA
  go_enter Tryz.func23, Tryz.ntmps23
  go_wp2_with fail
  rw [← hW0]
  refine CE.out.mono ?_
  rintro e w1 ⟨u, rfl, hu, hk⟩
  have K1 := Lib.hid (K0.out.trans hk)
  have HU := Lib.hid hu
  clear hk hu hW0 cb
  go_wp2_with fail
  go_ret
  exact ⟨_, rfl, HU.out, K1.out⟩
set_option maxHeartbeats 4000000 in
set_option maxRecDepth 100000 in
theorem lkChkImps_any (b : Nat) (m : ManV) (vc vi vs vg : Value) (l : List ObjV) (vl : Value) (qs : List V4) (z ps ss is st ad bs : Value) (hm : ManMay m) (hf : ObjsFew l) (ha : LkAll m l qs) (hi : ∀ x ∈ m.imps, hasC m.comps x.from_ = true) (w : World) (h : LkAt w b m vc vi vs vg l vl qs z ps ss is st ad bs) :
    Calls Tryz.prog 25 #[.pointer (some ⟨b, 0, none⟩)] w (LChk w (firstO (limpE m l) m.imps.length 0)) := by
  obtain ⟨W0, hW0⟩ : ∃ W0, W0 = w.alloc (.cells #[.pointer (some ⟨b, 0, none⟩)] 95) := ⟨_, rfl⟩
  have K0 : Hid (Keep w W0) := Lib.hid (by rw [hW0]; exact (Keep.refl _).alloc _)
  have BL : Hid (Box W0 w.heap.size #[.pointer (some ⟨b, 0, none⟩)]) := Lib.hid (by rw [hW0]; exact Box.new _ _ _)
  have HA := Lib.hid h
  have CE := Lib.hid (lkeach1_any importT m.imps.length (by have := hm.imps; omega) 64 (.pointer (some ⟨w.heap.size, 0, none⟩)) (limpE m l) W0 (enters_of Tryz.func64 (by kernel_rfl) rfl) (fun j W hj hW => by
    obtain ⟨c, cc, h1, h2, h3⟩ := cidx_find (hi m.imps[j] (List.getElem_mem hj))
    obtain ⟨k, o, q, h4, h5⟩ := ha c cc h1
    exact lkcImp1_any b m vc vi vs vg l vl qs z ps ss is st ad bs j m.imps[j] c cc k o q w.heap.size (List.getElem?_eq_getElem hj) h4 h3 h2 h5 hf (by have := hm.comps; omega) W (HA.out.keep (K0.out.trans hW)) (BL.out.keep hW)))
  rw [show importT = ⟨#[105, 109, 112, 111, 114, 116]⟩ from by kernel_rfl] at CE
  obtain ⟨pz, capz, hvz, _, _⟩ := h.man.imps
  have cb := (h.box.keep K0.out).cells
  rw [hvz] at cb
  rw [hW0] at cb
  clear h hf hm ha hi HA
  go_enter Tryz.func25, Tryz.ntmps25
  go_wp2_with fail
  rw [← hW0]
  refine CE.out.mono ?_
  rintro e w1 ⟨u, rfl, hu, hk⟩
  have K1 := Lib.hid (K0.out.trans hk)
  have HU := Lib.hid hu
  clear hk hu hW0 cb
  go_wp2_with fail
  go_ret
  exact ⟨_, rfl, HU.out, K1.out⟩
set_option maxHeartbeats 4000000 in
set_option maxRecDepth 100000 in
theorem lkChkRels_any (b : Nat) (m : ManV) (vc vi vs vg : Value) (l : List ObjV) (vl : Value) (qs : List V4) (z ps ss is st ad bs : Value) (hm : ManMay m) (hf : ObjsFew l) (ha : LkAll m l qs) (hz : ∀ g ∈ m.grns, g.perm ≠ 0) (w : World) (h : LkAt w b m vc vi vs vg l vl qs z ps ss is st ad bs) :
    Calls Tryz.prog 26 #[.pointer (some ⟨b, 0, none⟩)] w (LChk w (firstO (lrelsE m l) m.comps.length 0)) := by
  obtain ⟨W0, hW0⟩ : ∃ W0, W0 = w.alloc (.cells #[.pointer (some ⟨b, 0, none⟩)] 95) := ⟨_, rfl⟩
  have K0 : Hid (Keep w W0) := Lib.hid (by rw [hW0]; exact (Keep.refl _).alloc _)
  have BL : Hid (Box W0 w.heap.size #[.pointer (some ⟨b, 0, none⟩)]) := Lib.hid (by rw [hW0]; exact Box.new _ _ _)
  have HA := Lib.hid h
  have CE := Lib.hid (lkeach1_any compT m.comps.length (by have := hm.comps; omega) 66 (.pointer (some ⟨w.heap.size, 0, none⟩)) (lrelsE m l) W0 (enters_of Tryz.func66 (by kernel_rfl) rfl) (fun j W hj hW => by
    obtain ⟨k, o, q, h4, h5⟩ := ha j m.comps[j] (List.getElem?_eq_getElem hj)
    exact lkcRel1_any b m vc vi vs vg l vl qs z ps ss is st ad bs j m.comps[j] k o q w.heap.size h4 h5 hz hm hf W (HA.out.keep (K0.out.trans hW)) (BL.out.keep hW)))
  rw [show compT = ⟨#[99, 111, 109, 112]⟩ from by kernel_rfl] at CE
  obtain ⟨pz, capz, hvz, _, _⟩ := h.man.comps
  have cb := (h.box.keep K0.out).cells
  rw [hvz] at cb
  rw [hW0] at cb
  clear h hf hm ha hz HA
  go_enter Tryz.func26, Tryz.ntmps26
  go_wp2_with fail
  rw [← hW0]
  refine CE.out.mono ?_
  rintro e w1 ⟨u, rfl, hu, hk⟩
  have K1 := Lib.hid (K0.out.trans hk)
  have HU := Lib.hid hu
  clear hk hu hW0 cb
  go_wp2_with fail
  go_ret
  exact ⟨_, rfl, HU.out, K1.out⟩
set_option maxHeartbeats 4000000 in
set_option maxRecDepth 100000 in
theorem lkChkStart_any (b : Nat) (m : ManV) (vc vi vs vg : Value) (l : List ObjV) (vl : Value) (qs : List V4) (z ps ss is st ad bs : Value) (hm : ManMay m) (hf : ObjsFew l) (ha : LkAll m l qs) (hs : hasC m.comps m.start.from_ = true) (w : World) (h : LkAt w b m vc vi vs vg l vl qs z ps ss is st ad bs) :
    Calls Tryz.prog 27 #[.pointer (some ⟨b, 0, none⟩)] w (LChk w (startO m l)) := by
  obtain ⟨c, cc, h1, h2, h3⟩ := cidx_find hs
  obtain ⟨k, o, q, h4, h5⟩ := ha c cc h1
  have CC : Hid (Calls Tryz.prog 65 #[.pointer (some ⟨b, 0, none⟩), .agg #[.string m.start.comp, .string m.start.from_, .string m.start.name]] w fun e w' => e = .returned (.int .i64 (calleeE o m.start.name)) ∧ Keep w w') :=
    Lib.hid (lkcallee_any b m vc vi vs vg l vl qs z ps ss is st ad bs m.start c cc k o q h4 h3 hf (by have := hm.comps; omega) w h)
  have cb := h.box.cells
  obtain ⟨E, hE⟩ : ∃ E, E = calleeE o m.start.name := ⟨_, rfl⟩
  have HR : Hid (startO m l = errO mstartT 0 E) := Lib.hid (by
    unfold startO
    rw [hE, ← h2, objOf_find h5]
    unfold calleeE
    by_cases a : exportsO o m.start.name = true
    · rw [if_neg (by rw [a]; decide), if_pos a]; rfl
    · rw [if_pos (by simpa using a), if_neg a]; rfl)
  rw [← hE] at CC
  have CF := Lib.hid (fun W => lkfault_any mstartT 0 (errO mstartT 0 E) (errnoV E) W (WV.errno W mstartT 0 E))
  unfold errnoV at CF
  rw [← HR.out] at CF
  rw [show mstartT = ⟨#[115, 116, 97, 114, 116]⟩ from by kernel_rfl] at CF
  clear h hf hm ha hs h1 h2 h3 h4 h5 hE HR
  go_enter Tryz.func27, Tryz.ntmps27
  go_wp2_with fail
  refine CC.out.mono ?_
  rintro e w1 ⟨rfl, hk⟩
  have HK := Lib.hid hk
  clear hk
  go_wp2_with fail
  refine (CF.out w1).mono ?_
  rintro e w2 ⟨u, rfl, hu, hk2⟩
  have HU := Lib.hid hu
  have HK2 := Lib.hid (HK.out.trans hk2)
  clear hu hk2
  go_wp2_with fail
  go_ret
  exact ⟨_, rfl, HU.out, HK2.out⟩
end Go.Proofs.YtbmjnfnekmeegaaGreatDoor
