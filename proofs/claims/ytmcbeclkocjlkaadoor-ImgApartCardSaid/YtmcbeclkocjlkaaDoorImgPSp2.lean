/- The program's samePart; slices.EqualFunc at parts. -/
import Derived.Test.YtmcbeclkocjlkaaDoorImgPEq
import Derived.Test.YtmcbeclkocjlkaaDoorGPlainI
import Derived.Test.YtmcbeclkocjlkaaDoorImgPCa
import Derived.Test.YtmcbeclkocjlkaaDoorGObjF
namespace Go.Proofs.YtmcbeclkocjlkaaDoor
set_option linter.unusedVariables false
set_option linter.unusedSimpArgs false
open Go Go.RowKit
theorem PartV.same_iff (p q : PartV) : p = q ↔ p.name = q.name ∧ p.code = q.code ∧ p.data = q.data ∧ p.stack = q.stack ∧ p.entries = q.entries := by
  obtain ⟨a, b, c, d, e⟩ := p
  obtain ⟨a1, b1, c1, d1, e1⟩ := q
  simp
set_option maxHeartbeats 4000000 in
set_option maxRecDepth 100000 in
theorem isamePart_any (p q : PartV) (v u : Value) (w : World) (hv : SlAt w v p.entries.length (p.entries.map u32V)) (hu : SlAt w u q.entries.length (q.entries.map u32V)) (fv : p.entries.length ≤ 1000000) (fu : q.entries.length ≤ 1000000) :
    Calls Tryd.prog 26 #[.agg #[.string p.name, .int .u32 p.code.at_, .int .u32 p.code.size, .int .u32 p.data.at_, .int .u32 p.data.size, .int .u32 p.stack.at_, .int .u32 p.stack.size, v], .agg #[.string q.name, .int .u32 q.code.at_, .int .u32 q.code.size, .int .u32 q.data.at_, .int .u32 q.data.size, .int .u32 q.stack.at_, .int .u32 q.stack.size, u]] w (EqR p q w) := by
  have CE := Lib.hid (fun W (k : Keep w W) => ipeq_U p.entries q.entries v u W (by rw [← map_urow]; exact hv.keep k) (by rw [← map_urow]; exact hu.keep k) fv fu)
  obtain ⟨a1, c1, rfl, _⟩ := hv
  obtain ⟨a2, c2, rfl, _⟩ := hu
  have K0 : Hid (Keep w ((w.alloc (.cells #[.string p.name, .int .u32 p.code.at_, .int .u32 p.code.size, .int .u32 p.data.at_, .int .u32 p.data.size, .int .u32 p.stack.at_, .int .u32 p.stack.size, .slice a1 p.entries.length c1] 39)).alloc (.cells #[.string q.name, .int .u32 q.code.at_, .int .u32 q.code.size, .int .u32 q.data.at_, .int .u32 q.data.size, .int .u32 q.stack.at_, .int .u32 q.stack.size, .slice a2 q.entries.length c2] 39))) := Lib.hid (((Keep.refl _).alloc _).alloc _)
  have Q1 := fun W => eqin_span p.code q.code W
  have Q2 := fun W => eqin_span p.data q.data W
  have Q3 := fun W => eqin_span p.stack q.stack W
  rcases Bool.eq_false_or_eq_true (p.name.toList == q.name.toList) with d0 | d0
  rotate_left
  · have hne : Hid (p ≠ q) := Lib.hid (fun e => by rw [e, ostr_beq] at d0; simp at d0)
    clear Q1 Q2 Q3 CE
    go_enter Tryd.func26, Tryd.ntmps26
    go_wp2_with fail
    go_ret
    exact EqR.no hne.out K0.out
  have N0 : Hid (p.name = q.name) := Lib.hid (by rw [ostr_beq] at d0; exact of_decide_eq_true d0)
  rcases Bool.eq_false_or_eq_true (sameSp p.code q.code) with d1 | d1
  rotate_left
  · have hne : Hid (p ≠ q) := Lib.hid (fun e => by rw [e, (sameSp_iff _ _).2 rfl] at d1; cases d1)
    rw [d1] at Q1
    clear CE Q2 Q3
    go_enter Tryd.func26, Tryd.ntmps26
    go_wp2_with fail
    go_ret
    exact EqR.no hne.out K0.out
  rw [d1] at Q1
  have N1 : Hid (p.code = q.code) := Lib.hid ((sameSp_iff _ _).1 d1)
  rcases Bool.eq_false_or_eq_true (sameSp p.data q.data) with d2 | d2
  rotate_left
  · have hne : Hid (p ≠ q) := Lib.hid (fun e => by rw [e, (sameSp_iff _ _).2 rfl] at d2; cases d2)
    rw [d2] at Q2
    clear CE Q3
    go_enter Tryd.func26, Tryd.ntmps26
    go_wp2_with fail
    go_ret
    exact EqR.no hne.out K0.out
  rw [d2] at Q2
  have N2 : Hid (p.data = q.data) := Lib.hid ((sameSp_iff _ _).1 d2)
  rcases Bool.eq_false_or_eq_true (sameSp p.stack q.stack) with d3 | d3
  rotate_left
  · have hne : Hid (p ≠ q) := Lib.hid (fun e => by rw [e, (sameSp_iff _ _).2 rfl] at d3; cases d3)
    rw [d3] at Q3
    clear CE 
    go_enter Tryd.func26, Tryd.ntmps26
    go_wp2_with fail
    go_ret
    exact EqR.no hne.out K0.out
  rw [d3] at Q3
  have N3 : Hid (p.stack = q.stack) := Lib.hid ((sameSp_iff _ _).1 d3)
  go_enter Tryd.func26, Tryd.ntmps26
  go_wp2_with fail
  refine (CE.out _ K0.out).mono ?_
  rintro e w2 ⟨b, rfl, hb, hk⟩
  have HB := Lib.hid hb
  have HK := Lib.hid (K0.out.trans hk)
  clear hk hb CE
  cases b with
  | false =>
    go_wp2_with fail
    go_ret
    exact EqR.no (fun e => by have h := HB.out.2 (congrArg PartV.entries e); cases h) HK.out
  | true =>
    go_wp2_with fail
    go_ret
    exact EqR.yes ((PartV.same_iff p q).2 ⟨N0.out, N1.out, N2.out, N3.out, HB.out.1 (by trivial)⟩) HK.out
set_option maxHeartbeats 4000000 in
set_option maxRecDepth 100000 in
theorem ieqParts_any (i j : ImgV) (vp vs vi vb up us ui ub : Value) (ves ues : List Value) (w : World) (h : ImgAt w i vp vs vi vb ves) (h2 : ImgAt w j up us ui ub ues) (fm : ImgMid i) (fm2 : ImgMid j) :
    Calls Tryd.prog 25 #[vp, up, .func (.func 26) #[] #[]] w (EqR i.parts j.parts w) := by
  have HO := Lib.hid h
  have HO2 := Lib.hid h2
  have HM := Lib.hid fm
  have HM2 := Lib.hid fm2
  have fp := fm.parts
  have fp2 := fm2.parts
  obtain ⟨p1, c1, rfl, _, _, _⟩ := h.partsAt
  obtain ⟨p2, c2, rfl, _, _, _⟩ := h2.partsAt
  clear h h2 fm fm2
  by_cases hl : i.parts.length = j.parts.length
  rotate_left
  · have hl2 : ¬ (i.parts.length : Int) = (j.parts.length : Int) := by omega
    have hne : Hid (i.parts ≠ j.parts) := Lib.hid (fun e => hl (by rw [e]))
    clear hl
    go_enter Tryd.func25, Tryd.ntmps25
    go_wp2_with fail
    go_ret
    exact EqR.no hne.out (Keep.refl _)
  have HL := Lib.hid hl
  rw [← hl]
  clear hl fp2
  go_enter Tryd.func25, Tryd.ntmps25
  go_wp2_with fail
  go_loopw [7, 8, 9, 17] (fun _ _ _ ii wr => ∃ k : Nat, k ≤ i.parts.length ∧ ii = .int .i64 (k : Int) ∧ Keep w wr ∧ ∀ (m : Nat) (x y : PartV), m < k → i.parts[m]? = some x → j.parts[m]? = some y → x = y) (fun _ _ _ ii _ => i.parts.length - (intOf ii).toNat)
  case atStart => exact ⟨0, Nat.zero_le _, rfl, Keep.refl _, fun m _ _ hm => absurd hm (Nat.not_lt_zero _)⟩
  case round =>
    obtain ⟨k, hk, rfl, hK, heq⟩ := hrel
    have HQ := Lib.hid heq
    have HK := Lib.hid hK
    clear heq hK
    by_cases hlt : k < i.parts.length
    · have hki : (k : Int) < (i.parts.length : Int) := by omega
      have k0 : (0 : Int) ≤ (k : Int) := Int.natCast_nonneg _
      obtain ⟨x, hx⟩ : ∃ x, i.parts[k]? = some x := ⟨_, List.getElem?_eq_getElem hlt⟩
      obtain ⟨y, hy⟩ : ∃ y, j.parts[k]? = some y := ⟨_, List.getElem?_eq_getElem (by rw [← HL.out]; exact hlt)⟩
      obtain ⟨b1, o1, v1, rfl, s1, x0, x1, x2, x3, x4, x5, x6, x7⟩ := (HO.out.keep HK.out).part8 hx
      obtain ⟨b2, o2, v2, q2, s2, y0, y1, y2, y3, y4, y5, y6, y7⟩ := (HO2.out.keep HK.out).part8 hy
      have HX := Lib.hid hx
      have HY := Lib.hid hy
      have CS := Lib.hid (fun W (kw : Keep wr W) => isamePart_any x y v1 v2 W (SlAt.keep s1 kw) (SlAt.keep s2 kw) (by have := HM.out.ents x (List.mem_of_getElem? HX.out); omega) (by have := HM2.out.ents y (List.mem_of_getElem? HY.out); omega))
      obtain ⟨e1, d1, rfl, _⟩ := s1
      obtain ⟨e2, d2, rfl, _⟩ := s2
      subst q2
      obtain ⟨Wa, hWa⟩ : ∃ Wa, Wa = wr.alloc (.cells #[.string x.name, .int .u32 x.code.at_, .int .u32 x.code.size, .int .u32 x.data.at_, .int .u32 x.data.size, .int .u32 x.stack.at_, .int .u32 x.stack.size, .slice e1 x.entries.length d1] 39) := ⟨_, rfl⟩
      have KA : Hid (Keep wr Wa) := Lib.hid (by rw [hWa]; exact (Keep.refl _).alloc _)
      obtain ⟨Wc, hWc⟩ : ∃ Wc, Wc = Wa.alloc (.cells #[.string y.name, .int .u32 y.code.at_, .int .u32 y.code.size, .int .u32 y.data.at_, .int .u32 y.data.size, .int .u32 y.stack.at_, .int .u32 y.stack.size, .slice e2 y.entries.length d2] 39) := ⟨_, rfl⟩
      have KC : Hid (Keep wr Wc) := Lib.hid (by rw [hWc]; exact KA.out.alloc _)
      have yy0 := KA.out.cellOf y0
      have yy1 := KA.out.cellOf y1
      have yy2 := KA.out.cellOf y2
      have yy3 := KA.out.cellOf y3
      have yy4 := KA.out.cellOf y4
      have yy5 := KA.out.cellOf y5
      have yy6 := KA.out.cellOf y6
      have yy7 := KA.out.cellOf y7
      rw [hWa] at yy0 yy1 yy2 yy3 yy4 yy5 yy6 yy7
      clear hx hy y0 y1 y2 y3 y4 y5 y6 y7
      go_wp2_with fail
      rw [← hWa]
      rw [← hWc]
      clear hWa hWc x0 x1 x2 x3 x4 x5 x6 x7 yy0 yy1 yy2 yy3 yy4 yy5 yy6 yy7
      refine (CS.out _ KC.out).mono ?_
      rintro e w2 ⟨b, rfl, hb, hk2⟩
      have HB := Lib.hid hb
      have HK2 := Lib.hid (HK.out.trans (KC.out.trans hk2))
      clear hk2 hb CS
      cases b with
      | false =>
        have hne : Hid (i.parts ≠ j.parts) := Lib.hid (fun e => by
          have h1 := HX.out
          rw [e, HY.out] at h1
          have h := HB.out.2 (Option.some.inj h1).symm
          cases h)
        go_wp2_with fail
        go_ret
        exact EqR.no hne.out HK2.out
      | true =>
        go_wp2_with fail
        go_roundw
        case rel =>
          refine ⟨k + 1, hlt, by go_num, HK2.out, fun m a c hm ha hc => ?_⟩
          by_cases e : m = k
          · subst e
            rw [HX.out] at ha
            rw [HY.out] at hc
            cases ha
            cases hc
            exact HB.out.1 (by trivial)
          · exact HQ.out m a c (by omega) ha hc
        case measure => simp [intOf]; omega
    · obtain rfl : k = i.parts.length := by omega
      have he : Hid (i.parts = j.parts) := Lib.hid (list_eq_of HL.out (fun m x y h1 h2 => HQ.out m x y (List.getElem?_eq_some_iff.1 h1).1 h1 h2))
      go_wp2_with fail
      go_ret
      exact EqR.yes he.out HK.out
end Go.Proofs.YtmcbeclkocjlkaaDoor
