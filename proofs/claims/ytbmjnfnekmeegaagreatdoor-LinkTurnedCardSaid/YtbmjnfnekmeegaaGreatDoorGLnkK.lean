/- LnkKnown, LnkRoomW, LnkPre: hasplaw19's known, over what the program's link answers; by gen/lnk1.py. -/
import Derived.Test.YtbmjnfnekmeegaaGreatDoorGLnkA
import Derived.Test.YtbmjnfnekmeegaaGreatDoorGObjF
import Derived.Test.YtbmjnfnekmeegaaGreatDoorGLnkF
import Derived.Test.YtbmjnfnekmeegaaGreatDoorImgSameC
import Derived.Test.YtbmjnfnekmeegaaGreatDoorGPreD
/- hasplaw19's known, over what the program's link answers; by gen/lnk1.py. -/
namespace Go.Proofs.YtbmjnfnekmeegaaGreatDoor
set_option linter.unusedVariables false
set_option linter.unusedSimpArgs false
open Go Go.RowKit
theorem lnk_ok {m : ManV} {l : List ObjV} {s : Int} {i : ImgV} (h : lnkL m l s = .ok i) : lnkV m l s = i ∧ lnkW m l s = none := by unfold lnkV lnkW; rw [h]; exact ⟨rfl, rfl⟩
theorem lnk_err {m : ManV} {l : List ObjV} {s : Int} {x : LnkW} (h : lnkL m l s = .error x) : lnkV m l s = noImg ∧ lnkW m l s = some x := by unfold lnkV lnkW; rw [h]; exact ⟨rfl, rfl⟩
theorem kMay : ManMay kManL := by
  refine ⟨by decide, by decide, by decide, by decide, fun x hx => ?_, fun x hx => ?_, fun x hx => ?_, fun x hx => ?_, by decide⟩
  · simp only [kManL, List.mem_cons, List.not_mem_nil, or_false] at hx; subst hx; decide
  · cases hx
  · cases hx
  · cases hx
theorem kFewO : ObjsFew [kObjL] := by
  refine ⟨by decide, fun o ho => ?_, fun o ho => ?_⟩
  · simp only [List.mem_cons, List.not_mem_nil, or_false] at ho; subst ho
    refine ⟨by decide, by decide, by decide, by decide, by decide, fun s hs => ?_, fun r hr => ?_, fun r hr => ?_⟩
    · simp only [kObjL, List.mem_cons, List.not_mem_nil, or_false] at hs; subst hs; decide
    · cases hr
    · cases hr
  · simp only [List.mem_cons, List.not_mem_nil, or_false] at ho; subst ho
    refine ⟨by decide, fun x hx => (by cases hx), fun s hs => ?_, fun r hr => (by cases hr), fun r hr => (by cases hr)⟩
    simp only [kObjL, List.mem_cons, List.not_mem_nil, or_false] at hs; subst hs
    exact ⟨by decide, by decide⟩
theorem kFew0 : ObjsFew [] := ⟨by decide, fun o ho => (by cases ho), fun o ho => (by cases ho)⟩
/-- The world behind known's literals. -/
def lWorld (w : World) : World := (((((w.alloc (.cells #[.string ⟨#[97]⟩, .int .u32 16] 86)).alloc (.cells #[.slice (some ⟨w.heap.size, 0, none⟩) 1 1, .slice none 0 0, .slice none 0 0, .slice none 0 0, .string ⟨#[]⟩, .string ⟨#[97]⟩, .string ⟨#[102]⟩] 29)).alloc (.cells #[.int .u8 0, .int .u8 0, .int .u8 0, .int .u8 67] 5)).alloc (.cells #[.string ⟨#[102]⟩, .bool false, .int .u32 0, .bool true] 88)).alloc (.cells #[.string ⟨#[97]⟩, .slice (some ⟨w.heap.size + 1 + 1, 0, none⟩) 4 4, .slice none 0 0, .slice (some ⟨w.heap.size + 1 + 1 + 1, 0, none⟩) 1 1, .slice none 0 0] 76))
theorem lKeep (w : World) : Keep w (lWorld w) := (((((Keep.refl _).alloc _).alloc _).alloc _).alloc _).alloc _
theorem lBoxM (w : World) : Box (lWorld w) (w.heap.size + 1) #[.slice (some ⟨w.heap.size, 0, none⟩) 1 1, .slice none 0 0, .slice none 0 0, .slice none 0 0, .string ⟨#[]⟩, .string ⟨#[97]⟩, .string ⟨#[102]⟩] := (((obox_at _ _ _ _ (by simp)).alloc _).alloc _).alloc _
theorem lBoxO (w : World) : Box (lWorld w) (w.heap.size + 1 + 1 + 1 + 1) #[.string ⟨#[97]⟩, .slice (some ⟨w.heap.size + 1 + 1, 0, none⟩) 4 4, .slice none 0 0, .slice (some ⟨w.heap.size + 1 + 1 + 1, 0, none⟩) 1 1, .slice none 0 0] := obox_at _ _ _ _ (by simp)
theorem lMan (w : World) : ManAt (lWorld w) kManL (.slice (some ⟨w.heap.size, 0, none⟩) 1 1) (.slice none 0 0) (.slice none 0 0) (.slice none 0 0) :=
  ⟨⟨_, _, rfl, by decide, by decide, box_cells (((((obox_at _ _ _ _ rfl).alloc _).alloc _).alloc _).alloc _) rfl⟩, ⟨_, _, rfl, by decide, by decide, .inl rfl⟩, ⟨_, _, rfl, by decide, by decide, .inl rfl⟩, ⟨_, _, rfl, by decide, by decide, .inl rfl⟩⟩
theorem lObj (w : World) : ObjAt (lWorld w) kObjL (.slice (some ⟨w.heap.size + 1 + 1, 0, none⟩) 4 4) (.slice none 0 0) (.slice (some ⟨w.heap.size + 1 + 1 + 1, 0, none⟩) 1 1) (.slice none 0 0) :=
  ⟨⟨_, _, rfl, by decide, by decide, box_cells (((obox_at _ _ _ _ (by simp)).alloc _).alloc _) rfl⟩, ⟨_, _, rfl, by decide, by decide, .inl rfl⟩, ⟨_, _, rfl, by decide, by decide, box_cells ((obox_at _ _ _ _ (by simp)).alloc _) rfl⟩, ⟨_, _, rfl, by decide, by decide, .inl rfl⟩⟩
theorem lObjs {w V : World} {g : Nat} (K : Keep (lWorld w) V) (B : Box V g #[.string ⟨#[97]⟩, .slice (some ⟨w.heap.size + 1 + 1, 0, none⟩) 4 4, .slice none 0 0, .slice (some ⟨w.heap.size + 1 + 1 + 1, 0, none⟩) 1 1, .slice none 0 0]) : ObjsAt V (.slice (some ⟨g, 0, none⟩) 1 1) [kObjL] [(.slice (some ⟨w.heap.size + 1 + 1, 0, none⟩) 4 4, .slice none 0 0, .slice (some ⟨w.heap.size + 1 + 1 + 1, 0, none⟩) 1 1, .slice none 0 0)] := by
  refine ⟨⟨_, _, rfl, by decide, by decide, box_cells B rfl⟩, rfl, fun k o q ho hq => ?_⟩
  match k, ho, hq with
  | 0, ho, hq =>
    simp only [List.getElem?_cons_zero, Option.some.injEq] at ho hq
    subst ho hq
    exact (lObj w).keep K
  | k + 1, ho, hq => simp at ho
theorem lObjs0 (V : World) : ObjsAt V (.slice none 0 0) [] [] := ⟨⟨_, _, rfl, by decide, by decide, .inl rfl⟩, rfl, fun k o q ho hq => by simp at ho⟩
theorem kImg_val (a b c d : Value) : imgVal kImgL a b c d = .agg #[.int .u32 64, a, b, c, .int .i64 0, .int .u32 16, d] := rfl
theorem noImg_val (a b c d : Value) : imgVal noImg a b c d = .agg #[.int .u32 0, a, b, c, .int .i64 0, .int .u32 0, d] := rfl
theorem kMan_val (a b c d : Value) : manVal kManL a b c d = .agg #[a, b, c, d, .string ⟨#[]⟩, .string ⟨#[97]⟩, .string ⟨#[102]⟩] := rfl
theorem compT_is : compT = ⟨#[99, 111, 109, 112]⟩ := rfl
theorem kLenB : kImgL.bytes.length = 32 := by decide
set_option maxHeartbeats 3000000 in
set_option maxRecDepth 100000 in
theorem lknown_any {Pre : World → Prop} (hP : OPreOk Pre) (hL : PLink Pre) (w : World) (hp : Pre w) :
    Calls Tryz.prog 6 #[] w fun e w' => e = .returned (.bool true) ∧ Keep w w' := by
  have HP := Lib.hid hp
  have HH := Lib.hid hP
  have HL := Lib.hid hL
  have C1 := hL kManL _ _ _ _ [kObjL] _ _ 64 _ ((lMan w).keep ((Keep.refl _).alloc (.cells #[.string ⟨#[97]⟩, .slice (some ⟨w.heap.size + 1 + 1, 0, none⟩) 4 4, .slice none 0 0, .slice (some ⟨w.heap.size + 1 + 1 + 1, 0, none⟩) 1 1, .slice none 0 0] 76))) kMay (lObjs (w := w) (g := w.heap.size + 1 + 1 + 1 + 1 + 1) ((Keep.refl _).alloc (.cells #[.string ⟨#[97]⟩, .slice (some ⟨w.heap.size + 1 + 1, 0, none⟩) 4 4, .slice none 0 0, .slice (some ⟨w.heap.size + 1 + 1 + 1, 0, none⟩) 1 1, .slice none 0 0] 76)) (obox_at _ _ _ _ (by simp [lWorld]))) kFewO ⟨by decide, by decide⟩ (hP.keep hp ((lKeep w).alloc _))
  rw [(lnk_ok kLnk).1, (lnk_ok kLnk).2] at C1
  simp only [kMan_val, kImg_val] at C1
  have K0 : Hid (Keep (lWorld w) ((lWorld w).alloc (.cells #[.string ⟨#[97]⟩, .slice (some ⟨w.heap.size + 1 + 1, 0, none⟩) 4 4, .slice none 0 0, .slice (some ⟨w.heap.size + 1 + 1 + 1, 0, none⟩) 1 1, .slice none 0 0] 76))) := Lib.hid ((Keep.refl _).alloc _)
  unfold lWorld at C1
  have C1 := Lib.hid C1
  clear hp hP hL
  go_enter Tryz.func6, Tryz.ntmps6
  go_wp2_with fail
  refine C1.out.mono ?_
  clear C1
  rintro e w1 ⟨hk1, vp, us, ui, vb, ves, u1, rfl, ho1, hu1⟩
  obtain rfl := hu1.good
  have K1 : Hid (Keep (lWorld w) w1) := Lib.hid (K0.out.trans hk1)
  have N1 := ho1.nves
  obtain ⟨p1, c1, rfl, hc1, _, hx1⟩ := ho1.partsAt
  obtain ⟨p2, c2, rfl, _, _, _⟩ := ho1.shares
  obtain ⟨p3, c3, rfl, _, _, _⟩ := ho1.inits
  obtain ⟨p4, c4, rfl, _, _, _⟩ := ho1.bytes
  rw [show kImgL.parts.length = 1 from rfl] at hc1
  rw [show kImgL.parts.length = 1 from rfl, show kImgL.shares.length = 0 from rfl, show kImgL.inits.length = 0 from rfl, kLenB]
  obtain ⟨b1, o1, rfl, hb1, hcell⟩ : ∃ b1 o1, p1 = some ⟨b1, o1, none⟩ ∧ b1 < w1.heap.size ∧ w1.cell? ⟨b1, o1 + 0 * 8 + 1, none⟩ = some (.int .u32 16) := by
    rcases hx1 with h | ⟨b, o, h, hb, hxx⟩
    · cases h
    · obtain ⟨ve, hve⟩ : ∃ ve, ves[0]? = some ve := ⟨_, List.getElem?_eq_getElem (by rw [N1]; decide)⟩
      exact ⟨b, o, h, hb, (hxx 0 _ _ rfl hve).2.1⟩
  have HC1 := Lib.hid hcell
  clear hk1 ho1 hu1 hx1 hcell N1
  obtain ⟨W1, hW1⟩ : ∃ W1, W1 = w1.alloc (.cells #[.int .u32 64, .slice (some ⟨b1, o1, none⟩) 1 c1, .slice p2 0 c2, .slice p3 0 c3, .int .i64 0, .int .u32 16, .slice p4 32 c4] 40) := ⟨_, rfl⟩
  have B1 : Hid (Box W1 w1.heap.size #[.int .u32 64, .slice (some ⟨b1, o1, none⟩) 1 c1, .slice p2 0 c2, .slice p3 0 c3, .int .i64 0, .int .u32 16, .slice p4 32 c4]) := Lib.hid (by rw [hW1]; exact Box.new _ _ _)
  have KA1 : Hid (Keep w1 W1) := Lib.hid (by rw [hW1]; exact (Keep.refl _).alloc _)
  have KW1 := Lib.hid (K1.out.trans KA1.out)
  obtain ⟨g1, hg1⟩ : ∃ g1, g1 = w1.heap.size := ⟨_, rfl⟩
  rw [← hg1] at B1
  have CM1 := fun o => ((Box.keep (lBoxM w) K1.out).alloc o).cells
  have C2 := Lib.hid (HL.out kManL _ _ _ _ [] _ _ 64 W1 ((lMan w).keep KW1.out) kMay (lObjs0 W1) kFew0 ⟨by decide, by decide⟩ (HH.out.keep HP.out ((lKeep w).trans KW1.out)))
  rw [(lnk_err kLnk0).1, (lnk_err kLnk0).2] at C2
  simp only [kMan_val, noImg_val] at C2
  go_wp2_with fail
  rw [← hW1, ← hg1]
  clear hW1 hg1
  refine C2.out.mono ?_
  clear C2 CM1
  rintro e w2 ⟨hk2, vp, us, ui, vb, ves2, u2, rfl, ho2, hu2⟩
  obtain ⟨q1, d1, rfl, _, _, _⟩ := ho2.parts
  obtain ⟨q2, d2, rfl, _, _, _⟩ := ho2.shares
  obtain ⟨q3, d3, rfl, _, _, _⟩ := ho2.inits
  obtain ⟨q4, d4, rfl, _, _, _⟩ := ho2.bytes
  rw [show noImg.parts.length = 0 from rfl, show noImg.shares.length = 0 from rfl, show noImg.inits.length = 0 from rfl, show noImg.bytes.length = 0 from rfl]
  have K2 := Lib.hid (KW1.out.trans hk2)
  have HU2 := Lib.hid hu2
  obtain ⟨y2, rfl⟩ := hu2.bad
  have KB2 := Lib.hid (KA1.out.trans hk2)
  have B2 := Lib.hid (B1.out.keep hk2)
  clear hk2 ho2 hu2
  obtain ⟨W2, hW2⟩ : ∃ W2, W2 = w2.alloc (.cells #[.int .u32 0, .slice q1 0 d1, .slice q2 0 d2, .slice q3 0 d3, .int .i64 0, .int .u32 0, .slice q4 0 d4] 40) := ⟨_, rfl⟩
  have KA2 : Hid (Keep w2 W2) := Lib.hid (by rw [hW2]; exact (Keep.refl _).alloc _)
  have KW2 := Lib.hid (K2.out.trans KA2.out)
  have CM2 := fun o => ((Box.keep (lBoxM w) K2.out).alloc o).cells
  have CO2 := fun o => ((Box.keep (lBoxO w) K2.out).alloc o).cells
  have KO2 : Hid (Keep W2 (W2.alloc (.cells #[.string ⟨#[97]⟩, .slice (some ⟨w.heap.size + 1 + 1, 0, none⟩) 4 4, .slice none 0 0, .slice (some ⟨w.heap.size + 1 + 1 + 1, 0, none⟩) 1 1, .slice none 0 0] 76))) := Lib.hid ((Keep.refl _).alloc _)
  have C3 := Lib.hid (HL.out kManL _ _ _ _ [kObjL] _ _ 32 _ ((lMan w).keep (KW2.out.trans KO2.out)) kMay (lObjs (w := w) (g := w2.heap.size + 1) (KW2.out.trans KO2.out) (obox_at _ _ _ _ (by rw [hW2]; simp))) kFewO ⟨by decide, by decide⟩ (HH.out.keep HP.out ((lKeep w).trans (KW2.out.trans KO2.out))))
  rw [(lnk_err kLnk32).1, (lnk_err kLnk32).2] at C3
  simp only [kMan_val, noImg_val] at C3
  unfold faultP at *
  go_wp2_with fail
  rw [← hW2]
  clear hW2
  refine C3.out.mono ?_
  clear C3 CM2 CO2
  rintro e w3 ⟨hk3, vp, us, ui, vb, ves3, u3, rfl, ho3, hu3⟩
  obtain ⟨r1, e1, rfl, _, _, _⟩ := ho3.parts
  obtain ⟨r2, e2, rfl, _, _, _⟩ := ho3.shares
  obtain ⟨r3, e3, rfl, _, _, _⟩ := ho3.inits
  obtain ⟨r4, e4, rfl, _, _, _⟩ := ho3.bytes
  rw [show noImg.parts.length = 0 from rfl, show noImg.shares.length = 0 from rfl, show noImg.inits.length = 0 from rfl, show noImg.bytes.length = 0 from rfl]
  have KC3 := Lib.hid ((KA2.out.trans KO2.out).trans hk3)
  have HU3 := Lib.hid hu3
  obtain ⟨y3, rfl⟩ := hu3.bad
  clear hk3 ho3 hu3
  obtain ⟨W3, hW3⟩ : ∃ W3, W3 = w3.alloc (.cells #[.int .u32 0, .slice r1 0 e1, .slice r2 0 e2, .slice r3 0 e3, .int .i64 0, .int .u32 0, .slice r4 0 e4] 40) := ⟨_, rfl⟩
  have KA3 : Hid (Keep w3 W3) := Lib.hid (by rw [hW3]; exact (Keep.refl _).alloc _)
  have K23 := Lib.hid (KC3.out.trans KA3.out)
  have K3 := Lib.hid (K2.out.trans K23.out)
  have ci1 := fun o => ((B2.out.keep KC3.out).alloc o).cells
  have nc := fun o => ((KB2.out.trans KC3.out).alloc o).cellOf HC1.out
  have hbW : b1 < W3.heap.size := Nat.lt_of_lt_of_le hb1 (KB2.out.trans K23.out).size
  have U2 : OErr W3 (faultP y2) (compT, 0, 12) := by
    rcases HU2.out with ⟨_, _, h⟩ | ⟨h, _⟩
    · exact ErrV.keep h K23.out
    · exact absurd rfl h
  have U3 : OErr W3 (faultP y3) (sizeT, 48, 6) := by
    rcases HU3.out with ⟨_, _, h⟩ | ⟨h, _⟩
    · exact ErrV.keep h KA3.out
    · exact absurd rfl h
  have HU3' := Lib.hid U3
  have CT := Lib.hid (tells_any _ _ W3 U2 (HH.out.errT (HH.out.keep HP.out ((lKeep w).trans K3.out))))
  simp only [wrVal, compT_is] at CT
  clear U2 U3
  unfold faultP at *
  go_wp2_with fail
  rw [← hW3]
  clear hW3
  refine CT.out.mono ?_
  rintro e w4 ⟨rfl, hk4⟩
  have K4 := Lib.hid (K3.out.trans hk4)
  have CT := Lib.hid (tells_any _ _ w4 (ErrV.keep HU3'.out hk4) (HH.out.errT (HH.out.keep HP.out ((lKeep w).trans K4.out))))
  simp only [wrVal, sizeT] at CT
  unfold faultP at *
  clear hk4 nc ci1
  go_wp2_with fail
  refine CT.out.mono ?_
  rintro e w5 ⟨rfl, hk5⟩
  have K5 := Lib.hid ((lKeep w).trans (K4.out.trans hk5))
  clear hk5 CT
  go_wp2_with fail
  go_ret
  exact ⟨rfl, K5.out⟩
end Go.Proofs.YtbmjnfnekmeegaaGreatDoor

/- The walk of LinkRoom; by gen/lnk2.py. -/
namespace Go.Proofs.YtbmjnfnekmeegaaGreatDoor
set_option linter.unusedVariables false
set_option linter.unusedSimpArgs false
open Go Go.RowKit
/-- What a manifest is, as it was handed in. -/
structure ManIn (m : ManV) : Prop where
  comps : m.comps.length ≤ maxLen
  imps : m.imps.length ≤ maxLen
  shrs : m.shrs.length ≤ maxLen
  grns : m.grns.length ≤ maxLen
  compN : Nat32 m.comps
  shrN : Nat32 m.shrs
  grnN : ∀ g ∈ m.grns, 0 ≤ g.perm ∧ g.perm < 65536
theorem lbeg_0 (m : ManV) (l : List ObjV) : lbeg m l 0 = 16 := rfl
theorem lbeg_next (m : ManV) (l : List ObjV) {k : Nat} (hk : k < m.comps.length) : (lpart l m.comps[k] (lbeg m l k)).stack.at_ + (lpart l m.comps[k] (lbeg m l k)).stack.size = lbeg m l (k + 1) := by
  unfold lbeg
  rw [lend_take m.comps 16 k hk]
  rfl
theorem lbeg_all (m : ManV) (l : List ObjV) : lbeg m l m.comps.length = lend l m.comps 16 := by unfold lbeg; rw [List.take_length]
theorem lend_app {l : List ObjV} : ∀ (a b : List CompV) (s : Int), lend l (a ++ b) s = lend l b (lend l a s)
  | [], _, _ => rfl
  | c :: a, b, s => by show lend l (a ++ b) (lendC l c s) = lend l b (lend l a (lendC l c s)); exact lend_app a b _
theorem lbeg_mono {m : ManV} {l : List ObjV} (S : Sized m.comps) {j k : Nat} (h : j ≤ k) : lbeg m l j ≤ lbeg m l k := by
  unfold lbeg
  have e : m.comps.take k = m.comps.take j ++ (m.comps.take k).drop j := by
    have := List.take_append_drop j (m.comps.take k)
    rw [List.take_take, Nat.min_eq_left h] at this
    exact this.symm
  rw [e, lend_app]
  exact lend_le fun c hc => S c (List.mem_of_mem_take (List.mem_of_mem_drop hc))
def sizedI (i : ImgV) (s : Int) : ImgV := { i with size := s }
theorem sizedI_parts (i : ImgV) (s : Int) : (sizedI i s).parts = i.parts := rfl
theorem sizedI_shares (i : ImgV) (s : Int) : (sizedI i s).shares = i.shares := rfl
theorem sizedI_inits (i : ImgV) (s : Int) : (sizedI i s).inits = i.inits := rfl
theorem sizedI_bytes (i : ImgV) (s : Int) : (sizedI i s).bytes = i.bytes := rfl
theorem sizedI_at {w : World} {i : ImgV} {s : Int} {a b c d : Value} {ves : List Value} (h : ImgAt w (sizedI i s) a b c d ves) : ImgAt w i a b c d ves := ⟨h.parts, h.nves, h.ents, h.shares, h.inits, h.bytes⟩
/-- Where the k-th share begins, ends. -/
def sbeg (m : ManV) (l : List ObjV) (k : Nat) : Int := lendS (m.shrs.take k) (lend l m.comps 16)
theorem sbeg_0 (m : ManV) (l : List ObjV) : sbeg m l 0 = lend l m.comps 16 := rfl
theorem sbeg_all (m : ManV) (l : List ObjV) : sbeg m l m.shrs.length = lwant m l := by unfold sbeg lwant; rw [List.take_length]
theorem lnk_share {m : ManV} {l : List ObjV} {size : Int} {k : Nat} (hk : k < m.shrs.length) : (lnkI m l size).shares[k]? = some ⟨sbeg m l k, m.shrs[k].stack⟩ := lshares_at m.shrs _ k hk
theorem sbeg_next (m : ManV) (l : List ObjV) {k : Nat} (hk : k < m.shrs.length) : sbeg m l k + m.shrs[k].stack = sbeg m l (k + 1) := by
  unfold sbeg
  rw [lendS_take m.shrs _ k hk]
theorem lendS_app : ∀ (a b : List CompV) (s : Int), lendS (a ++ b) s = lendS b (lendS a s)
  | [], _, _ => rfl
  | c :: a, b, s => by show lendS (a ++ b) (s + c.stack) = lendS b (lendS a (s + c.stack)); exact lendS_app a b _
theorem sbeg_mono {m : ManV} {l : List ObjV} (S : Sized m.shrs) {j k : Nat} (h : j ≤ k) : sbeg m l j ≤ sbeg m l k := by
  unfold sbeg
  have e : m.shrs.take k = m.shrs.take j ++ (m.shrs.take k).drop j := by
    have := List.take_append_drop j (m.shrs.take k)
    rw [List.take_take, Nat.min_eq_left h] at this
    exact this.symm
  rw [e, lendS_app]
  exact lendS_le fun c hc => S c (List.mem_of_mem_take (List.mem_of_mem_drop hc))
theorem lnk_shares_len (m : ManV) (l : List ObjV) (size : Int) : (lnkI m l size).shares.length = m.shrs.length := lshares_len m.shrs _
set_option maxHeartbeats 3000000 in
set_option maxRecDepth 100000 in
theorem linkRoom_any {Pre : World → Prop} (hP : OPreOk Pre) (hL : PLink Pre) (hS : PImgSame) (m : ManV) (vc vi vs vg : Value) (l : List ObjV) (vl : Value) (qs : List V4) (x : Int) (hx : 0 ≤ x ∧ x < 65536) (w : World) (hm : ManAt w m vc vi vs vg) (hmi : ManIn m) (ho : ObjsAt w vl l qs) (hoi : ObjsIn l) (hp : Pre w) :
    Calls Tryz.prog 5 #[manVal m vc vi vs vg, vl, .int .u16 x] w fun e w' => e = .returned (.bool true) ∧ Keep w w' := by
  have HP := Lib.hid hp
  have HH := Lib.hid hP
  have HL := Lib.hid hL
  have HS := Lib.hid hS
  have HM := Lib.hid hm
  have HMI := Lib.hid hmi
  have HO := Lib.hid ho
  have HOI := Lib.hid hoi
  have HX := Lib.hid hx
  have MV : Hid (∀ a b c d, manVal m a b c d = .agg #[a, b, c, d, .string m.start.comp, .string m.start.from_, .string m.start.name]) := Lib.hid (fun a b c d => rfl)
  clear hP hp hL hS hm hmi ho hoi
  rw [MV.out]
  obtain ⟨W0, hW0⟩ : ∃ W0, W0 = w.alloc (.cells #[vc, vi, vs, vg, .string m.start.comp, .string m.start.from_, .string m.start.name] 29) := ⟨_, rfl⟩
  have B0 : Hid (Box W0 w.heap.size #[vc, vi, vs, vg, .string m.start.comp, .string m.start.from_, .string m.start.name]) := Lib.hid (by rw [hW0]; exact Box.new _ _ _)
  have K0 : Hid (Keep w W0) := Lib.hid (by rw [hW0]; exact (Keep.refl _).alloc _)
  have C0 := Lib.hid (lknown_any HH.out HL.out W0 (HH.out.keep HP.out K0.out))
  go_enter Tryz.func5, Tryz.ntmps5
  go_wp2_with fail
  rw [← hW0]
  clear hW0
  refine C0.out.mono ?_
  rintro e w1 ⟨rfl, hk1⟩
  have K1 := Lib.hid (K0.out.trans hk1)
  have B1 := Lib.hid (B0.out.keep hk1)
  have c1 := B1.out.cells
  have CM := mfew_any m vc vi vs vg w1 (HM.out.keep K1.out) HMI.out.comps HMI.out.imps HMI.out.shrs HMI.out.grns
  rw [MV.out] at CM
  have CM := Lib.hid CM
  clear hk1 C0
  go_wp2_with fail
  refine CM.out.mono ?_
  rintro e w2 ⟨b2, rfl, hf2, hk2⟩
  have K2 := Lib.hid (K1.out.trans hk2)
  have B2 := Lib.hid (B1.out.keep hk2)
  have HF2 := Lib.hid hf2
  clear hk2 CM hf2 c1
  rcases Bool.eq_false_or_eq_true b2 with rfl | rfl
  case inr =>
    go_wp2_with fail
    go_ret
    exact ⟨rfl, K2.out⟩
  have MF := Lib.hid (HF2.out rfl)
  have MM := Lib.hid (MF.out.may HMI.out.compN HMI.out.shrN HMI.out.grnN)
  have CL := Lib.hid (lfew_any l vl qs w2 (HO.out.keep K2.out) HOI.out)
  go_wp2_with fail
  refine CL.out.mono ?_
  rintro e w3 ⟨b3, rfl, hf3, hk3⟩
  have K3 := Lib.hid (K2.out.trans hk3)
  have B3 := Lib.hid (B2.out.keep hk3)
  have HF3 := Lib.hid hf3
  clear hk3 CL hf3
  rcases Bool.eq_false_or_eq_true b3 with rfl | rfl
  case inr =>
    go_wp2_with fail
    go_ret
    exact ⟨rfl, K3.out⟩
  have OF := Lib.hid (HF3.out rfl)
  have c3 := B3.out.cells
  have C1 := HL.out m vc vi vs vg l vl qs 65536 w3 (HM.out.keep K3.out) MM.out (HO.out.keep K3.out) OF.out ⟨by decide, by decide⟩ (HH.out.keep HP.out K3.out)
  rw [MV.out] at C1
  have C1 := Lib.hid C1
  go_wp2_with fail
  refine C1.out.mono ?_
  rintro e w4 ⟨hk4, ip, is, ii, ib, ves, u4, rfl, ha4, hu4⟩
  have K4 := Lib.hid (K3.out.trans hk4)
  have B4 := Lib.hid (B3.out.keep hk4)
  clear hk4 C1 c3
  cases hlk : lnkL m l 65536 with
  | error z =>
    rw [(lnk_err hlk).2] at hu4
    obtain ⟨q4, rfl⟩ := hu4.bad
    have KE := fun o => Keep.alloc K4.out o
    obtain ⟨p1, c1, rfl, _⟩ := ha4.parts
    obtain ⟨p2, c2, rfl, _⟩ := ha4.shares
    obtain ⟨p3, c3, rfl, _⟩ := ha4.inits
    obtain ⟨p4, c4, rfl, _⟩ := ha4.bytes
    unfold imgVal
    unfold faultP at *
    clear hu4 ha4
    go_wp2_with fail
    go_ret
    exact ⟨rfl, KE _⟩
  | ok i =>
    rw [(lnk_ok hlk).1] at ha4
    rw [(lnk_ok hlk).2] at hu4
    rw [(lnk_ok hlk).1]
    obtain rfl := hu4.good
    obtain ⟨rfl, hE, hwant, _, _⟩ := lnk_room hlk
    have LK := Lib.hid hlk
    have LE := Lib.hid hE
    have LW := Lib.hid hwant
    have HA := Lib.hid ha4
    have NM := Lib.hid (by have := lnkV_num OF.out MM.out 65536; rw [(lnk_ok hlk).1] at this; exact this)
    have MI := Lib.hid (by have := lnkV_mid OF.out MM.out 65536; rw [(lnk_ok hlk).1] at this; exact this)
    obtain ⟨p1, c1, rfl, hcp, _, hxp⟩ := ha4.partsAt
    obtain ⟨p2, c2, rfl, hcs, _, hxs⟩ := ha4.shares.rowsAt (m := 2) (fun _ => rfl)
    obtain ⟨p3, c3, rfl, _⟩ := ha4.inits
    obtain ⟨p4, c4, rfl, _⟩ := ha4.bytes
    have HXP := Lib.hid hxp
    have HXS := Lib.hid hxs
    have NV := Lib.hid ha4.nves
    clear hu4 hlk hE hwant ha4 hxp hxs
    rw [lnk_parts_len] at hcp
    rw [lnk_shares_len] at hcs
    have IV : Hid (∀ a b c d, imgVal (lnkI m l 65536) a b c d = .agg #[.int .u32 65536, a, b, c, .int .i64 (lnkI m l 65536).start, .int .u32 (lnkI m l 65536).addr, d]) := Lib.hid (fun a b c d => rfl)
    rw [IV.out]
    obtain ⟨st, hst⟩ : ∃ st, st = (lnkI m l 65536).start := ⟨_, rfl⟩
    obtain ⟨ad, had⟩ : ∃ ad, ad = (lnkI m l 65536).addr := ⟨_, rfl⟩
    obtain ⟨nb, hnb⟩ : ∃ nb, nb = (lnkI m l 65536).bytes.length := ⟨_, rfl⟩
    obtain ⟨ni, hni⟩ : ∃ ni, ni = (lnkI m l 65536).inits.length := ⟨_, rfl⟩
    rw [lnk_parts_len, lnk_shares_len, ← hst, ← had, ← hnb, ← hni]
    have HST := Lib.hid hst
    have HAD := Lib.hid had
    have HNB := Lib.hid hnb
    have HNI := Lib.hid hni
    clear hst had hnb hni
    obtain ⟨W4, hW4⟩ : ∃ W4, W4 = w4.alloc (.cells #[.int .u32 65536, .slice p1 m.comps.length c1, .slice p2 m.shrs.length c2, .slice p3 ni c3, .int .i64 st, .int .u32 ad, .slice p4 nb c4] 40) := ⟨_, rfl⟩
    have BA : Hid (Box W4 w4.heap.size #[.int .u32 65536, .slice p1 m.comps.length c1, .slice p2 m.shrs.length c2, .slice p3 ni c3, .int .i64 st, .int .u32 ad, .slice p4 nb c4]) := Lib.hid (by rw [hW4]; exact Box.new _ _ _)
    have KA4 : Hid (Keep w4 W4) := Lib.hid (by rw [hW4]; exact (Keep.refl _).alloc _)
    have KW4 := Lib.hid (K4.out.trans KA4.out)
    have BM := Lib.hid (B4.out.keep KA4.out)
    have mc := HMI.out.comps
    have ms := HMI.out.shrs
    unfold maxLen at mc ms
    go_wp2_with fail
    rw [← hW4]
    clear hW4
    go_loopw [9, 10] (fun s i wr => ∃ k : Nat, k ≤ m.comps.length ∧ s = .int .u32 (lbeg m l k) ∧ i = .int .i64 (k : Int) ∧ Keep W4 wr) (fun _ i _ => m.comps.length - (intOf i).toNat)
    case atStart => exact ⟨0, Nat.zero_le _, rfl, rfl, Keep.refl _⟩
    case round =>
      obtain ⟨k, hk, rfl, rfl, hkr⟩ := hrel
      have KR := Lib.hid hkr
      have cA := (BA.out.keep KR.out).cells
      clear hkr
      by_cases hlt : k < m.comps.length
      · have hki : (k : Int) < (m.comps.length : Int) := by omega
        obtain ⟨ve, hve⟩ : ∃ ve, ves[k]? = some ve := ⟨_, List.getElem?_eq_getElem (by rw [NV.out, lnk_parts_len]; exact hlt)⟩
        rcases HXP.out with hnil | ⟨b, off, rfl, hbl, hxx⟩
        · exact absurd (congrArg List.length hnil) (by rw [lnk_parts_len]; simp only [List.length_nil]; omega)
        have hc := hxx k _ _ (lnk_part hlt) hve
        have n5 := (KA4.out.trans KR.out).cellOf hc.2.2.2.2.2.1
        have n6 := (KA4.out.trans KR.out).cellOf hc.2.2.2.2.2.2.1
        have hb2 : b < wr.heap.size := Nat.lt_of_lt_of_le hbl (KA4.out.trans KR.out).size
        have hnx := lbeg_next m l hlt
        have hsz : 0 ≤ (lpart l m.comps[k] (lbeg m l k)).stack.at_ ∧ 0 ≤ lbeg m l (k + 1) ∧ lbeg m l (k + 1) ≤ 65536 := by
          have S := (lnkE_none.1 LE.out).sized (OF.out.lnk MM.out)
          have h1 : 16 ≤ lbeg m l (k + 1) := lend_le (fun c hc => S.1 c (List.mem_of_mem_take hc))
          have h2 : lbeg m l (k + 1) ≤ lbeg m l m.comps.length := lbeg_mono S.1 (by omega)
          have h3 : lbeg m l m.comps.length ≤ lwant m l := by rw [lbeg_all]; exact lendS_le S.2
          have h4 := (NM.out.spans _ (List.mem_append_left _ (List.mem_flatMap.2 ⟨_, List.mem_of_getElem? (lnk_part hlt), by simp⟩)) : SpanOk (lpart l m.comps[k] (lbeg m l k)).stack)
          have := h4.1.1
          have := LW.out
          omega
        have hw : IntKind.u32.wrap ((lpart l m.comps[k] (lbeg m l k)).stack.at_ + (lpart l m.comps[k] (lbeg m l k)).stack.size) = (lpart l m.comps[k] (lbeg m l k)).stack.at_ + (lpart l m.comps[k] (lbeg m l k)).stack.size := IntWalk.u32_in _ (by omega)
        have HW := Lib.hid hnx
        generalize (lpart l m.comps[k] (lbeg m l k)).stack.at_ = sa at *
        generalize (lpart l m.comps[k] (lbeg m l k)).stack.size = sz at *
        clear hc hxx
        go_wp2_with fail
        go_region
        all_goals (go_wp2_with fail)
        all_goals (exact ⟨⟨k + 1, hlt, by rw [← HW.out], by simp, KR.out.drew⟩, by simp [intOf]; omega⟩)
      · obtain rfl : k = m.comps.length := by omega
        have e0 : lbeg m l m.comps.length = sbeg m l 0 := lbeg_all m l
        rw [e0]
        go_wp2_with fail
        go_loopw [9, 11] (fun s i w2 => ∃ k : Nat, k ≤ m.shrs.length ∧ s = .int .u32 (sbeg m l k) ∧ i = .int .i64 (k : Int) ∧ Keep W4 w2) (fun _ i _ => m.shrs.length - (intOf i).toNat)
        case atStart => exact ⟨0, Nat.zero_le _, rfl, rfl, KR.out⟩
        case round =>
          obtain ⟨k, hk, rfl, rfl, hkr⟩ := hrel
          have KR := Lib.hid hkr
          have cA := (BA.out.keep KR.out).cells
          clear hkr
          by_cases hlt : k < m.shrs.length
          · have hki : (k : Int) < (m.shrs.length : Int) := by omega
            rcases HXS.out with hnil | h2 | ⟨b, off, rfl, hbl, hxx⟩
            · exact absurd (congrArg List.length hnil) (by rw [lnk_shares_len]; simp only [List.length_nil]; omega)
            · cases h2
            have hc := hxx k _ (lnk_share hlt)
            have n0 := (KA4.out.trans KR.out).cellOf (show w4.cell? ⟨b, off + k * 2, none⟩ = some (.int .u32 (sbeg m l k)) from hc 0 _ (by decide) rfl)
            have n1 := (KA4.out.trans KR.out).cellOf (show w4.cell? ⟨b, off + k * 2 + 1, none⟩ = some (.int .u32 m.shrs[k].stack) from hc 1 _ (by decide) rfl)
            have hb2 : b < wr.heap.size := Nat.lt_of_lt_of_le hbl (KA4.out.trans KR.out).size
            have hnx := sbeg_next m l hlt
            have hsz : 0 ≤ sbeg m l k ∧ 0 ≤ sbeg m l (k + 1) ∧ sbeg m l (k + 1) ≤ 65536 := by
              have S := (lnkE_none.1 LE.out).sized (OF.out.lnk MM.out)
              have h0 : 16 ≤ lend l m.comps 16 := lend_le S.1
              have h1 : lend l m.comps 16 ≤ sbeg m l k := lendS_le (fun c hc => S.2 c (List.mem_of_mem_take hc))
              have h2 : sbeg m l (k + 1) ≤ sbeg m l m.shrs.length := sbeg_mono S.2 (by omega)
              have h4 := S.2 _ (List.getElem_mem hlt)
              have h5 := LW.out
              rw [sbeg_all] at h2
              omega
            have hw : IntKind.u32.wrap (sbeg m l k + m.shrs[k].stack) = sbeg m l k + m.shrs[k].stack := IntWalk.u32_in _ (by omega)
            have HW := Lib.hid hnx
            generalize m.shrs[k].stack = sz at *
            clear hc hxx
            go_wp2_with fail
            go_region
            all_goals (go_wp2_with fail)
            all_goals (exact ⟨⟨k + 1, hlt, by rw [← HW.out], by simp, KR.out.drew⟩, by simp [intOf]; omega⟩)
          · obtain rfl : k = m.shrs.length := by omega
            rw [sbeg_all]
            have S := (lnkE_none.1 LE.out).sized (OF.out.lnk MM.out)
            have hwg := lwant_ge (l := l) S.1 S.2
            have hwm := lwant_mod (l := l) S.1 S.2
            have hwl := LW.out
            have hx0 := HX.out
            have mcl := (BM.out.keep KR.out).cells
            have ez : (lwant m l + 16 * (x % 100)) % 4294967296 = lwant m l + 16 * (x % 100) := by omega
            obtain ⟨sz, hsz⟩ : ∃ sz, sz = lwant m l + 16 * (x % 100) := ⟨_, rfl⟩
            rw [← hsz] at ez
            have sz0 : lwant m l ≤ sz ∧ sz % 16 = 0 := by omega
            have K5 := Lib.hid (KW4.out.trans KR.out)
            clear S
            by_cases big : (65536 : Int) < sz
            · have g : decide ((65536 : Int) < sz) = true := decide_eq_true big
              go_wp2_with fail
              go_ret
              exact ⟨rfl, K5.out⟩
            have g : decide ((65536 : Int) < sz) = false := decide_eq_false big
            have LM := lnk_more LE.out sz0.1 (by omega) sz0.2
            have C2 := HL.out m vc vi vs vg l vl qs sz wr (HM.out.keep K5.out) MM.out (HO.out.keep K5.out) OF.out ⟨by omega, by omega⟩ (HH.out.keep HP.out K5.out)
            have LM : lnkL m l sz = .ok (sizedI (lnkI m l 65536) sz) := LM
            rw [MV.out, (lnk_ok LM).1, (lnk_ok LM).2] at C2
            have C2 := Lib.hid C2
            clear LM
            go_wp2_with fail
            rw [← hsz]
            refine C2.out.mono ?_
            clear C2 mcl
            rintro e w5 ⟨hk5, ip, is, ii, ib, ves5, u5, rfl, hb5, hu5⟩
            obtain rfl := hu5.good
            obtain ⟨p5, c5, rfl, _⟩ := hb5.parts
            obtain ⟨p6, c6, rfl, _⟩ := hb5.shares
            obtain ⟨p7, c7, rfl, _⟩ := hb5.inits
            obtain ⟨p8, c8, rfl, _⟩ := hb5.bytes
            have HB5 := Lib.hid hb5
            have KP5 := Lib.hid (KR.out.trans hk5)
            have K6 := Lib.hid (K5.out.trans hk5)
            clear hk5 hb5 hu5
            have IV2 : Hid (∀ a b c d, imgVal (sizedI (lnkI m l 65536) sz) a b c d = .agg #[.int .u32 sz, a, b, c, .int .i64 (lnkI m l 65536).start, .int .u32 (lnkI m l 65536).addr, d]) := Lib.hid (fun a b c d => rfl)
            rw [IV2.out, ← HST.out, ← HAD.out, sizedI_parts, sizedI_shares, sizedI_inits, sizedI_bytes, lnk_parts_len, lnk_shares_len, ← HNB.out, ← HNI.out]
            obtain ⟨W5, hW5⟩ : ∃ W5, W5 = w5.alloc (.cells #[.int .u32 sz, .slice p5 m.comps.length c5, .slice p6 m.shrs.length c6, .slice p7 ni c7, .int .i64 st, .int .u32 ad, .slice p8 nb c8] 40) := ⟨_, rfl⟩
            have BB : Hid (Box W5 w5.heap.size #[.int .u32 sz, .slice p5 m.comps.length c5, .slice p6 m.shrs.length c6, .slice p7 ni c7, .int .i64 st, .int .u32 ad, .slice p8 nb c8]) := Lib.hid (by rw [hW5]; exact Box.new _ _ _)
            have KA5 : Hid (Keep w5 W5) := Lib.hid (by rw [hW5]; exact (Keep.refl _).alloc _)
            have K7 := Lib.hid (K6.out.trans KA5.out)
            have mcl := fun o => ((BM.out.keep KP5.out).alloc o).cells
            have hwr : IntKind.u32.wrap (lwant m l - 16) = lwant m l - 16 := IntWalk.u32_in _ (by omega)
            have C3 := HL.out m vc vi vs vg l vl qs (lwant m l - 16) W5 (HM.out.keep K7.out) MM.out (HO.out.keep K7.out) OF.out ⟨by omega, by omega⟩ (HH.out.keep HP.out K7.out)
            have LL := lnk_less LE.out (show lwant m l - 16 < lwant m l by omega)
            rw [MV.out, (lnk_err LL).1, (lnk_err LL).2] at C3
            simp only [noImg_val] at C3
            have C3 := Lib.hid C3
            clear LL
            go_wp2_with fail
            rw [← hsz, ← hW5]
            clear hW5 mcl
            refine C3.out.mono ?_
            clear C3
            rintro e w6 ⟨hk6, ip, is, ii, ib, ves6, u6, rfl, hb6, hu6⟩
            obtain ⟨q6, rfl⟩ := hu6.bad
            obtain ⟨r1, d1, rfl, _⟩ := hb6.parts
            obtain ⟨r2, d2, rfl, _⟩ := hb6.shares
            obtain ⟨r3, d3, rfl, _⟩ := hb6.inits
            obtain ⟨r4, d4, rfl, _⟩ := hb6.bytes
            clear hb6 hu6
            have KAX := Lib.hid ((KP5.out.trans KA5.out).trans hk6)
            have KBX := Lib.hid (KA5.out.trans hk6)
            have BX := Lib.hid (BB.out.keep hk6)
            have K8 := Lib.hid (K7.out.trans hk6)
            have hne : w4.heap.size ≠ w5.heap.size := by
              have := BA.out.lt
              have := KP5.out.size
              omega
            have bA := fun o v => (Box.other (a := ⟨w5.heap.size, 0, none⟩) ((BA.out.keep KAX.out).alloc o) hne v).cells
            have bB0 := fun o => (BX.out.alloc o).cells
            have tB := fun o => (BX.out.alloc o).thawed
            have bA0 := fun o => ((BA.out.keep KAX.out).alloc o).cells
            have bB : ∀ o v, Box ((w6.alloc o).setCell ⟨w5.heap.size, 0, none⟩ v) w5.heap.size #[v, .slice p5 m.comps.length c5, .slice p6 m.shrs.length c6, .slice p7 ni c7, .int .i64 st, .int .u32 ad, .slice p8 nb c8] := fun o v => by
              have h := (BX.out.alloc o).set 0 v
              simpa using h
            have bB2 := fun o v => (bB o v).cells
            obtain ⟨X, hX⟩ : ∃ X, X = (w6.alloc (.cells #[.int .u32 0, .slice r1 noImg.parts.length d1, .slice r2 noImg.shares.length d2, .slice r3 noImg.inits.length d3, .int .i64 0, .int .u32 0, .slice r4 noImg.bytes.length d4] 40)).setCell ⟨w5.heap.size, 0, none⟩ (.int .u32 65536) := ⟨_, rfl⟩
            have KX5 : Hid (Keep w5 X) := Lib.hid (by rw [hX]; exact Keep.setAt (Nat.le_refl _) (KBX.out.alloc _) _)
            have KX4 := Lib.hid (KA4.out.trans (KP5.out.trans KX5.out))
            have KX := Lib.hid (K6.out.trans KX5.out)
            have CS := HS.out (lnkI m l 65536) (lnkI m l 65536) _ _ _ _ _ _ _ _ _ _ X (HA.out.keep KX4.out) ((sizedI_at HB5.out).keep KX5.out) NM.out NM.out MI.out MI.out
            rw [IV.out, IV.out] at CS
            simp only [sizedI_parts, sizedI_shares, sizedI_inits, sizedI_bytes, lnk_parts_len, lnk_shares_len, ← HST.out, ← HAD.out, ← HNB.out, ← HNI.out] at CS
            have CS := Lib.hid CS
            clear hk6 bB
            unfold faultP at *
            go_wp2_with fail
            rw [← hX]
            refine CS.out.mono ?_
            rintro e w7 ⟨b, rfl, hb, hk7⟩
            obtain rfl : b = true := hb.2 (by first | exact trivial | rfl)
            have K9 := Lib.hid (KX.out.trans hk7)
            clear hb hk7 CS
            go_wp2_with fail
            go_ret
            exact ⟨rfl, K9.out⟩
end Go.Proofs.YtbmjnfnekmeegaaGreatDoor

/- What is laid ahead of a call of the linker: errors.errorType alone. -/
namespace Go.Proofs.YtbmjnfnekmeegaaGreatDoor
set_option linter.unusedVariables false
set_option linter.unusedSimpArgs false
open Go.ChangeShapes Go.WideShapes Go.ChangeAt Go.RowKit
theorem lPreOk : OPreOk ErrT := ⟨fun h k => h.keep k, fun h => h⟩
theorem lPre_of {l : List (String × DataW Unit)} {W : World} (h : laidMetH Tryz.prog l W) (h1 : ("errors.errorType", Rows.laid_errors_errorType) ∈ l) : ErrT W := errT_mem (laidH_handle h h1 rfl)
end Go.Proofs.YtbmjnfnekmeegaaGreatDoor
