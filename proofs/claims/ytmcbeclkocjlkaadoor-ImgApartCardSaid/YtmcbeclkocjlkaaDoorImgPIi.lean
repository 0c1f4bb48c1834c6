/- The program's initial. -/
import Derived.Test.YtmcbeclkocjlkaaDoorImgPTa
namespace Go.Proofs.YtmcbeclkocjlkaaDoor
set_option linter.unusedVariables false
set_option linter.unusedSimpArgs false
open Go Go.RowKit
set_option maxHeartbeats 4000000 in
set_option maxRecDepth 100000 in
theorem iinitial_any (i : ImgV) (vp vs vi vb : Value) (ves : List Value) (k : Nat) (w : World) (h : ImgAt w i vp vs vi vb ves) (hm : ImgMid i) (hn : ImgNum i) (hk : k < i.inits.length) :
    Calls Tryd.prog 39 #[imgVal i vp vs vi vb, .int .i64 (k : Int)] w fun e w' => e = .returned (.int .i64 (initE i k)) ∧ Keep w w' := by
  have HO := Lib.hid h
  have HM := Lib.hid hm
  have HN := Lib.hid hn
  have fp := hm.parts
  have fi := hm.inits
  obtain ⟨x, hx⟩ : ∃ x, i.inits[k]? = some x := ⟨_, List.getElem?_eq_getElem hk⟩
  have xm := List.mem_of_getElem? hx
  have hp := hn.perm x xm
  have ha := hn.iaddr x xm
  have hat := hn.at_ x xm
  have HAT := Lib.hid hat
  have at0 := hat.1
  obtain ⟨r, hr⟩ : ∃ r, r = initE i k := ⟨_, rfl⟩
  rw [← hr]
  have HX := Lib.hid hx
  have CA := Lib.hid (fun W => ipamong_any x.comp i.parts.length (by omega) W)
  have CT := Lib.hid (fun (m : Nat) (c : PartV) (e1 : x.comp = (m : Int)) (e2 : i.parts[m]? = some c) W (kw : Keep w W) => itarget_any i vp vs vi vb ves x m c e1 e2 W (ImgAt.keep HO.out kw) HM.out HN.out hp ha)
  obtain ⟨pq, pc, rfl, hpc, hpm, _⟩ := h.partsAt
  obtain ⟨sq, sc, rfl, _, _, _⟩ := h.sharesAt
  obtain ⟨iq, ic, rfl, _, _, hii⟩ := h.initsAt
  obtain ⟨bq, bc, rfl, _⟩ := h.bytes
  rcases hii with e | ⟨b, off, rfl, _, hcl⟩
  · rw [e] at hk; simp at hk
  have N := Lib.hid (hcl k x hx)
  have HCL := Lib.hid hcl
  unfold imgVal at CT ⊢
  obtain ⟨W0, hW0⟩ : ∃ W0, W0 = (w.alloc (.cells #[.int .u32 i.size, .slice pq i.parts.length pc, .slice sq i.shares.length sc, .slice (some ⟨b, off, none⟩) i.inits.length ic, .int .i64 i.start, .int .u32 i.addr, .slice bq i.bytes.length bc] 28)).alloc (.cells #[.int .i64 x.comp, .int .u32 x.at_, .int .i64 x.kind, .bool x.data, .int .i64 x.src, .int .u32 x.addr, .int .u16 x.perm] 43) := ⟨_, rfl⟩
  have K0 : Hid (Keep w W0) := Lib.hid (by rw [hW0]; exact ((Keep.refl _).alloc _).alloc _)
  have BI : Hid (Box W0 w.heap.size #[.int .u32 i.size, .slice pq i.parts.length pc, .slice sq i.shares.length sc, .slice (some ⟨b, off, none⟩) i.inits.length ic, .int .i64 i.start, .int .u32 i.addr, .slice bq i.bytes.length bc]) := Lib.hid (by rw [hW0]; exact (Box.new _ _ _).alloc _)
  have BX : Hid (Box W0 (w.heap.size + 1) #[.int .i64 x.comp, .int .u32 x.at_, .int .i64 x.kind, .bool x.data, .int .i64 x.src, .int .u32 x.addr, .int .u16 x.perm]) := Lib.hid (by rw [hW0]; exact Box.new1 _ _ _ _)
  have hki : (k : Int) < (i.inits.length : Int) := by omega
  have k0 : (0 : Int) ≤ (k : Int) := Int.natCast_nonneg _
  have K1 : Keep w (w.alloc (.cells #[.int .u32 i.size, .slice pq i.parts.length pc, .slice sq i.shares.length sc, .slice (some ⟨b, off, none⟩) i.inits.length ic, .int .i64 i.start, .int .u32 i.addr, .slice bq i.bytes.length bc] 28)) := (Keep.refl _).alloc _
  have n0 := K1.cellOf N.out.1
  have n1 := K1.cellOf N.out.2.1
  have n2 := K1.cellOf N.out.2.2.1
  have n3 := K1.cellOf N.out.2.2.2.1
  have n4 := K1.cellOf N.out.2.2.2.2.1
  have n5 := K1.cellOf N.out.2.2.2.2.2.1
  have n6 := K1.cellOf N.out.2.2.2.2.2.2
  by_cases h1 : x.comp < 0 ∨ (i.parts.length : Int) ≤ x.comp
  · have d : (decide (0 ≤ x.comp) && decide (x.comp < (i.parts.length : Int))) = false := by
      rw [Bool.and_eq_false_iff, decide_eq_false_iff_not, decide_eq_false_iff_not]; omega
    rw [d] at CA
    obtain rfl : r = 6 := by
      rw [hr]; unfold initE; rw [hx]; dsimp only; rw [if_pos h1]
    clear h1 hr d CT hx xm hp ha hat h hm hn hcl K1 hk
    go_enter Tryd.func39, Tryd.ntmps39
    go_wp2_with fail
    rw [← hW0]
    clear hW0 n0 n1 n2 n3 n4 n5 n6
    with_reducible refine (CA.out _).mono ?_
    rintro e w1 ⟨rfl, hk1⟩
    have HK := Lib.hid (K0.out.trans hk1)
    clear hk1 CA
    go_wp2_with fail
    go_ret
    exact ⟨rfl, HK.out⟩
  have d : (decide (0 ≤ x.comp) && decide (x.comp < (i.parts.length : Int))) = true := by
    rw [Bool.and_eq_true, decide_eq_true_eq, decide_eq_true_eq]; omega
  rw [d] at CA
  obtain ⟨m, hxm⟩ : ∃ m : Nat, x.comp = (m : Int) := ⟨x.comp.toNat, by omega⟩
  have hmi : (m : Int) < (i.parts.length : Int) := by omega
  have m0 : (0 : Int) ≤ (m : Int) := Int.natCast_nonneg _
  obtain ⟨c, hc⟩ : ∃ c, i.parts[m]? = some c := ⟨_, List.getElem?_eq_getElem (by omega)⟩
  have CT2 := Lib.hid (CT.out m c hxm hc)
  have HR : Hid (r = if x.at_ % 16 ≠ 0 then 5 else if withinS c.data x.at_ 16 = false then 6 else if prevI i k x.at_ = true then 13 else targE i c x) := Lib.hid (hr.trans (initE_at hx hxm hc))
  have HCD : SpanOk c.data := hn.spans _ (by
    unfold spansI
    simp only [List.mem_append, List.mem_flatMap, List.mem_cons, List.not_mem_nil, or_false]
    exact .inl ⟨c, List.mem_of_getElem? hc, .inr (.inl rfl)⟩)
  have CH := Lib.hid (fun W => iholds_any c.data x.at_ 16 HCD hat ⟨by decide, by decide⟩ W)
  obtain ⟨pb, po, ve, hq, he, C0, C1, C2, C3, C4, C5, C6, C7⟩ := HO.out.part8 hc
  have HC := Lib.hid (And.intro C3 C4)
  subst hq
  rw [hxm] at CA CT2 BX hW0 n0
  obtain ⟨wi, hwi⟩ : ∃ wi, withinS c.data x.at_ 16 = wi := ⟨_, rfl⟩
  obtain ⟨pv, hpv⟩ : ∃ pv, prevI i k x.at_ = pv := ⟨_, rfl⟩
  obtain ⟨tg, htg⟩ : ∃ tg, targE i c x = tg := ⟨_, rfl⟩
  rw [hwi] at CH HR
  rw [hpv, htg] at HR
  rw [htg] at CT2
  have HP : Hid ((k = 0 ∧ pv = false) ∨ (∃ q y, k = q + 1 ∧ pv = decide (x.at_ ≤ y) ∧ w.cell? ⟨b, off + q * 7 + 1, none⟩ = some (.int .u32 y))) := Lib.hid (by
    cases k with
    | zero => exact .inl ⟨rfl, hpv.symm⟩
    | succ q =>
      obtain ⟨y, hy⟩ : ∃ y, i.inits[q]? = some y := ⟨_, List.getElem?_eq_getElem (by omega)⟩
      refine .inr ⟨q, y.at_, rfl, ?_, (HCL.out q y hy).2.1⟩
      rw [← hpv]
      unfold prevI
      dsimp only
      rw [hy])
  clear h1 hr d CT hx xm hp ha hat h hm hn hcl K1 hk hwi hpv htg HCD C0 C1 C2 C3 C4 C5 C6 C7 hxm hc
  by_cases h16 : x.at_ % 16 = 0
  rotate_left
  · have d4 : (x.at_ % 16 != 0) = true := by simpa using h16
    obtain rfl : r = 5 := HR.out.trans (if_pos h16)
    clear HR h16 CT2 CH
    go_enter Tryd.func39, Tryd.ntmps39
    go_wp2_with fail
    rw [← hW0]
    clear hW0 n0 n1 n2 n3 n4 n5 n6
    with_reducible refine (CA.out _).mono ?_
    rintro e w1 ⟨rfl, hk1⟩
    have HK := Lib.hid (K0.out.trans hk1)
    have cX := (BX.out.keep hk1).cells
    clear hk1 CA
    go_wp2_with fail
    go_ret
    exact ⟨rfl, HK.out⟩
  have d4 : (x.at_ % 16 != 0) = false := by simpa using h16
  have HR2 := Lib.hid (HR.out.trans (if_neg (by simpa using h16)))
  clear HR h16
  go_enter Tryd.func39, Tryd.ntmps39
  go_wp2_with fail
  rw [← hW0]
  clear hW0 n0 n1 n2 n3 n4 n5 n6
  with_reducible refine (CA.out _).mono ?_
  rintro e w1 ⟨rfl, hk1⟩
  have HK := Lib.hid (K0.out.trans hk1)
  have BI1 := Lib.hid (BI.out.keep hk1)
  have BX1 := Lib.hid (BX.out.keep hk1)
  have cX := BX1.out.cells
  clear hk1 CA
  go_wp2_with fail
  clear cX
  refine region_grows (Keep w1) (by kernel_rfl) (by kernel_rfl) (Keep.refl _).drew ?_
  repeat (first
    | (apply text_pass (by rfl); go_simp)
    | (apply text_step (by rfl)
       · intro W hW
         have c3 := (HK.out.trans hW).cellOf HC.out.1
         have c4 := (HK.out.trans hW).cellOf HC.out.2
         have cI := (BI1.out.keep hW).cells
         have cX := (BX1.out.keep hW).cells
         go_simp
         first
           | (apply yes_enter; go_at_call 57; with_reducible refine (CH.out _).mono ?_; rintro e w' ⟨rfl, hk⟩; exact ⟨rfl, hW.trans hk⟩)
           | exact ⟨rfl, hW⟩
       go_simp))
  apply text_end
  intro W2 hW2
  have HK2 := Lib.hid (HK.out.trans hW2)
  have BI2 := Lib.hid (BI1.out.keep hW2)
  have BX2 := Lib.hid (BX1.out.keep hW2)
  clear hW2 CH
  cases wi with
  | false =>
    obtain rfl : r = 6 := HR2.out.trans (if_pos rfl)
    go_wp2_with fail
    go_ret
    exact ⟨rfl, HK2.out⟩
  | true =>
    have HR3 := Lib.hid (HR2.out.trans (if_neg (by decide)))
    clear HR2
    rcases HP.out with ⟨rfl, rfl⟩ | ⟨q, y, rfl, hpv, hcq⟩
    · obtain rfl : r = tg := HR3.out
      clear HP HR3
      go_wp2_with fail
      refine region_grows (Keep W2) (by kernel_rfl) (by kernel_rfl) (Keep.refl _).drew ?_
      repeat (first
        | (apply text_pass (by rfl); go_simp)
        | (apply text_step (by rfl)
           · intro W hW
             have cI := (BI2.out.keep hW).cells
             have cX := (BX2.out.keep hW).cells
             go_simp
             exact ⟨rfl, hW⟩
           go_simp))
      apply text_end
      intro W3 hW3
      have HK3 := Lib.hid (HK2.out.trans hW3)
      have cI := (BI2.out.keep hW3).cells
      have cX := (BX2.out.keep hW3).cells
      clear hW3
      go_wp2_with fail
      with_reducible refine (CT2.out _ HK3.out).mono ?_
      rintro e w4 ⟨rfl, hk4⟩
      have HK4 := Lib.hid (HK3.out.trans hk4)
      clear hk4 CT2 cI cX
      go_wp2_with fail
      go_ret
      exact ⟨rfl, HK4.out⟩
    · have HCQ := Lib.hid hcq
      have hm1 : (((q + 1 : Nat) : Int)) - 1 = (q : Int) := by omega
      have hqi : (q : Int) < (i.inits.length : Int) := by omega
      have wq1 : IntKind.i64.wrap (((q + 1 : Nat) : Int) - 1) = (q : Int) := by rw [hm1, IntKind.wrap_i64]; omega
      have wq2 : IntKind.i64.wrap ((q : Int) + 1 - 1) = (q : Int) := by rw [IntKind.wrap_i64]; omega
      have wq3 : IntKind.i64.wrap (q : Int) = (q : Int) := by rw [IntKind.wrap_i64]; omega
      have q0 : (0 : Int) ≤ (q : Int) := Int.natCast_nonneg _
      have q1 : (0 : Int) < ((q + 1 : Nat) : Int) := by omega
      obtain ⟨le, hle⟩ : ∃ le, decide (x.at_ ≤ y) = le := ⟨_, rfl⟩
      rw [hle] at hpv
      have HPV := Lib.hid hpv
      clear HP hcq hpv
      go_wp2_with fail
      refine region_grows (Keep W2) (by kernel_rfl) (by kernel_rfl) (Keep.refl _).drew ?_
      repeat (first
        | (apply text_pass (by rfl); go_simp)
        | (apply text_step (by rfl)
           · intro W hW
             have cI := (BI2.out.keep hW).cells
             have cX := (BX2.out.keep hW).cells
             have cq := (HK2.out.trans hW).cellOf HCQ.out
             go_simp
             exact ⟨rfl, hW⟩
           go_simp))
      apply text_end
      intro W3 hW3
      have HK3 := Lib.hid (HK2.out.trans hW3)
      have cI := (BI2.out.keep hW3).cells
      have cX := (BX2.out.keep hW3).cells
      clear hW3
      cases le with
      | true =>
        obtain rfl : r = 13 := HR3.out.trans (if_pos HPV.out)
        go_wp2_with fail
        go_ret
        exact ⟨rfl, HK3.out⟩
      | false =>
        obtain rfl : r = tg := HR3.out.trans (if_neg (by rw [HPV.out]; decide))
        clear HPV HR3
        go_wp2_with fail
        with_reducible refine (CT2.out _ HK3.out).mono ?_
        rintro e w4 ⟨rfl, hk4⟩
        have HK4 := Lib.hid (HK3.out.trans hk4)
        clear hk4 CT2 cI cX
        go_wp2_with fail
        go_ret
        exact ⟨rfl, HK4.out⟩
end Go.Proofs.YtmcbeclkocjlkaaDoor
