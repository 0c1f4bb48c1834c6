/- ImgPSh, ImgPOw, ImgPBe: The program's shared. -/
import Derived.Test.YtmcbeclkocjlkaaDoorImgPCa
/- The program's shared. -/
namespace Go.Proofs.YtmcbeclkocjlkaaDoor
set_option linter.unusedVariables false
set_option linter.unusedSimpArgs false
open Go Go.RowKit
/-- What is wrong with what a Share is of, an Own is of, with where an init leads to. -/
def sharE (i : ImgV) (x : InitV) : Int := if x.src < 0 ∨ (i.shares.length : Int) ≤ x.src ∨ (match i.shares[x.src.toNat]? with
    | none => true
    | some s => decide (s.at_ ≠ x.addr)) = true then 6 else if x.perm = 0 ∨ 3 < x.perm then 3 else 0
def ownE (c : PartV) (x : InitV) : Int := if x.src ≠ 0 then 17 else if withinS (if x.data = true then c.data else c.code) x.addr 0 = false then 6 else if bits .andNot .u16 x.perm (mostP x.data) ≠ 0 then 3 else 0
def beyE (i : ImgV) (x : InitV) : Int := if x.kind = 3 then sharE i x else if callE i x.src x.addr = 0 ∧ x.src = x.comp then 17 else callE i x.src x.addr
theorem permF (p : Int) (h : 0 ≤ p ∧ p < 65536) : (if p = 0 ∨ 3 < p then (3 : Int) else 0) = if (p == 0) = true then 3 else if (bits .andNot .u16 p 3 != 0) = true then 3 else 0 := by
  rw [perm_three p h]
  by_cases h1 : p = 0
  · rw [if_pos (.inl h1), if_pos (by simpa using h1)]
  · rw [if_neg (show ¬ (p == 0) = true by simpa using h1)]
    by_cases h2 : 3 < p
    · rw [if_pos (.inr h2), if_pos (decide_eq_true h2)]
    · rw [if_neg (by omega), if_neg (by simpa using h2)]
set_option maxHeartbeats 4000000 in
set_option maxRecDepth 100000 in
theorem ishared_any (i : ImgV) (vp vs vi vb : Value) (ves : List Value) (x : InitV) (w : World) (h : ImgAt w i vp vs vi vb ves) (hm : ImgMid i) (hp : 0 ≤ x.perm ∧ x.perm < 65536) :
    Calls Tryd.prog 80 #[imgVal i vp vs vi vb, .agg #[.int .i64 x.comp, .int .u32 x.at_, .int .i64 x.kind, .bool x.data, .int .i64 x.src, .int .u32 x.addr, .int .u16 x.perm]] w fun e w' => e = .returned (.int .i64 (sharE i x)) ∧ Keep w w' := by
  have HO := Lib.hid h
  have fs := hm.shares
  have CA := Lib.hid (fun W => ipamong_any x.src i.shares.length (by omega) W)
  obtain ⟨pq, pc, rfl, hpc, hpm, _⟩ := h.partsAt
  obtain ⟨sq, sc, rfl, _, _, hss⟩ := h.sharesAt
  unfold imgVal
  obtain ⟨W0, hW0⟩ : ∃ W0, W0 = (w.alloc (.cells #[.int .u32 i.size, .slice pq i.parts.length pc, .slice sq i.shares.length sc, vi, .int .i64 i.start, .int .u32 i.addr, vb] 28)).alloc (.cells #[.int .i64 x.comp, .int .u32 x.at_, .int .i64 x.kind, .bool x.data, .int .i64 x.src, .int .u32 x.addr, .int .u16 x.perm] 43) := ⟨_, rfl⟩
  have K0 : Hid (Keep w W0) := Lib.hid (by rw [hW0]; exact ((Keep.refl _).alloc _).alloc _)
  have B0 : Hid (Box W0 w.heap.size #[.int .u32 i.size, .slice pq i.parts.length pc, .slice sq i.shares.length sc, vi, .int .i64 i.start, .int .u32 i.addr, vb]) := Lib.hid (by rw [hW0]; exact (Box.new _ _ _).alloc _)
  have BX : Hid (Box W0 (w.heap.size + 1) #[.int .i64 x.comp, .int .u32 x.at_, .int .i64 x.kind, .bool x.data, .int .i64 x.src, .int .u32 x.addr, .int .u16 x.perm]) := Lib.hid (by rw [hW0]; exact Box.new1 _ _ _ _)
  have PF := Lib.hid (permF x.perm hp)
  obtain ⟨mv, hmv⟩ : ∃ mv, bits .andNot .u16 x.perm 3 = mv := ⟨_, rfl⟩
  rw [hmv] at PF
  obtain ⟨r, hr⟩ : ∃ r, r = sharE i x := ⟨_, rfl⟩
  rw [← hr]
  unfold sharE at hr
  have HR := Lib.hid hr
  clear h hr hm
  by_cases h1 : x.src < 0 ∨ (i.shares.length : Int) ≤ x.src
  · obtain rfl : r = 6 := HR.out.trans (if_pos (by omega))
    have d : (decide (0 ≤ x.src) && decide (x.src < (i.shares.length : Int))) = false := by
      rw [Bool.and_eq_false_iff, decide_eq_false_iff_not, decide_eq_false_iff_not]; omega
    rw [d] at CA
    clear h1 HR d hss
    go_enter Tryd.func80, Tryd.ntmps80
    go_wp2_with fail
    rw [← hW0]
    clear hW0
    refine region_grows (Keep W0) (by kernel_rfl) (by kernel_rfl) (Keep.refl _).drew ?_
    repeat (first
      | (apply text_pass (by rfl); go_simp)
      | (apply text_step (by rfl)
         · intro W hW
           have c1 := (B0.out.keep hW).cells
           have c2 := (BX.out.keep hW).cells
           go_simp
           first
             | (apply yes_enter; go_at_call 64; with_reducible refine (CA.out _).mono ?_; rintro e w' ⟨rfl, hk⟩; exact ⟨rfl, hW.trans hk⟩)
             | exact ⟨rfl, hW⟩
         go_simp))
    apply text_end
    intro W hW
    have HK := Lib.hid (K0.out.trans hW)
    clear hW
    go_wp2_with fail
    go_ret
    exact ⟨rfl, HK.out⟩
  · have d : (decide (0 ≤ x.src) && decide (x.src < (i.shares.length : Int))) = true := by
      rw [Bool.and_eq_true, decide_eq_true_eq, decide_eq_true_eq]; omega
    rw [d] at CA
    obtain ⟨k, hkk⟩ : ∃ k : Nat, x.src = (k : Int) := ⟨x.src.toNat, by omega⟩
    have hki : (k : Int) < (i.shares.length : Int) := by omega
    have k0 : (0 : Int) ≤ (k : Int) := Int.natCast_nonneg _
    obtain ⟨s, hs⟩ : ∃ s, i.shares[k]? = some s := ⟨_, List.getElem?_eq_getElem (by omega)⟩
    rcases hss with e | ⟨b, off, rfl, _, hcl⟩
    · rw [e] at hs; simp at hs
    have C0 := Lib.hid (hcl k s hs).1
    have HR2 : Hid (r = if (x.addr != s.at_) = true then 6 else if x.perm = 0 ∨ 3 < x.perm then 3 else 0) := Lib.hid (by
      have e := HR.out
      rw [hkk, show ((k : Int).toNat) = k from Int.toNat_natCast k, hs] at e
      dsimp only at e
      rw [e]
      by_cases q : s.at_ = x.addr
      · rw [if_neg (show ¬ ((k : Int) < 0 ∨ (i.shares.length : Int) ≤ (k : Int) ∨ decide (s.at_ ≠ x.addr) = true) by intro z; rcases z with z | z | z; omega; omega; exact absurd q (of_decide_eq_true z)), if_neg (show ¬ (x.addr != s.at_) = true by simp [q])]
      · rw [if_pos (.inr (.inr (decide_eq_true q))), if_pos (by simpa using fun e => q e.symm)])
    rw [PF.out] at HR2
    obtain ⟨ta, hta⟩ : ∃ ta, (x.addr != s.at_) = ta := ⟨_, rfl⟩
    rw [hta] at HR2
    rw [hkk] at CA BX d hW0 ⊢
    clear h1 HR d hcl hs hkk hp PF
    go_enter Tryd.func80, Tryd.ntmps80
    go_wp2_with fail
    rw [← hW0]
    clear hW0
    refine region_grows (Keep W0) (by kernel_rfl) (by kernel_rfl) (Keep.refl _).drew ?_
    repeat (first
      | (apply text_pass (by rfl); go_simp)
      | (apply text_step (by rfl)
         · intro W hW
           have c1 := (B0.out.keep hW).cells
           have c2 := (BX.out.keep hW).cells
           have c3 := (K0.out.trans hW).cellOf C0.out
           go_simp
           first
             | (apply yes_enter; go_at_call 64; with_reducible refine (CA.out _).mono ?_; rintro e w' ⟨rfl, hk⟩; exact ⟨rfl, hW.trans hk⟩)
             | exact ⟨rfl, hW⟩
         go_simp))
    apply text_end
    intro W hW
    have HK := Lib.hid (K0.out.trans hW)
    have cX := (BX.out.keep hW).cells
    clear hW
    cases ta with
    | true =>
      obtain rfl : r = 6 := HR2.out.trans (if_pos rfl)
      go_wp2_with fail
      go_ret
      exact ⟨rfl, HK.out⟩
    | false =>
      have HR3 := Lib.hid (HR2.out.trans (if_neg (by decide)))
      rcases Bool.eq_false_or_eq_true (x.perm == 0) with z | z
      · obtain rfl : r = 3 := HR3.out.trans (if_pos z)
        go_wp2_with fail
        go_ret
        exact ⟨rfl, HK.out⟩
      · have HR4 := Lib.hid (HR3.out.trans (if_neg (by rw [z]; decide)))
        rcases Bool.eq_false_or_eq_true (mv != 0) with y | y
        · obtain rfl : r = 3 := HR4.out.trans (if_pos y)
          go_wp2_with fail
          go_ret
          exact ⟨rfl, HK.out⟩
        · obtain rfl : r = 0 := HR4.out.trans (if_neg (by rw [y]; decide))
          go_wp2_with fail
          go_ret
          exact ⟨rfl, HK.out⟩
end Go.Proofs.YtmcbeclkocjlkaaDoor

/- The program's own. -/
namespace Go.Proofs.YtmcbeclkocjlkaaDoor
set_option linter.unusedVariables false
set_option linter.unusedSimpArgs false
open Go Go.RowKit
set_option maxHeartbeats 4000000 in
set_option maxRecDepth 100000 in
theorem iown_false (c : PartV) (ve : Value) (cm at_ kd f ad pm : Int) (hc : SpanOk c.code) (hd : SpanOk c.data) (ha : N32 ad) (w : World) (hvf : ∃ p n q, ve = .slice p n q) :
    Calls Tryd.prog 77 #[.agg #[.string c.name, .int .u32 c.code.at_, .int .u32 c.code.size, .int .u32 c.data.at_, .int .u32 c.data.size, .int .u32 c.stack.at_, .int .u32 c.stack.size, ve], .agg #[.int .i64 cm, .int .u32 at_, .int .i64 kd, .bool false, .int .i64 f, .int .u32 ad, .int .u16 pm]] w fun e w' => e = .returned (.int .i64 (ownE c ⟨cm, at_, kd, false, f, ad, pm⟩)) ∧ Keep w w' := by
  have CH := Lib.hid (fun W => iholds_any c.code ad 0 hc ha ⟨by decide, by decide⟩ W)
  obtain ⟨vp, vn, vq, rfl⟩ := hvf
  obtain ⟨wi, hwi⟩ : ∃ wi, withinS c.code ad 0 = wi := ⟨_, rfl⟩
  obtain ⟨mv, hmv⟩ : ∃ mv, bits .andNot .u16 pm 13 = mv := ⟨_, rfl⟩
  obtain ⟨r, hr⟩ : ∃ r, r = ownE c ⟨cm, at_, kd, false, f, ad, pm⟩ := ⟨_, rfl⟩
  rw [← hr]
  have HR : Hid (r = if f ≠ 0 then 17 else if wi = false then 6 else if mv ≠ 0 then 3 else 0) := Lib.hid (by rw [hr, ← hwi, ← hmv]; rfl)
  rw [hwi] at CH
  clear hr hwi hc hd ha
  rcases Bool.eq_false_or_eq_true (f != 0) with z | z
  · obtain rfl : r = 17 := HR.out.trans (if_pos (by simpa using z))
    clear HR CH
    go_enter Tryd.func77, Tryd.ntmps77
    go_wp2_with fail
    go_ret
    refine ⟨rfl, ?_⟩
    repeat (with_reducible refine Keep.setAt ?_ ?_ _; · first | omega | (simp; done) | (simp; omega))
    exact (((Keep.refl _).alloc _).alloc _).alloc _
  have HR2 := Lib.hid (HR.out.trans (if_neg (by simpa using z)))
  clear HR
  go_enter Tryd.func77, Tryd.ntmps77
  go_wp2_with fail
  refine (CH.out _).mono ?_
  rintro e w1 ⟨rfl, hk1⟩
  have HK : Hid (Keep w w1) := Lib.hid (by
    refine Keep.trans ?_ hk1
    repeat (with_reducible refine Keep.setAt ?_ ?_ _; · first | omega | (simp; done) | (simp; omega))
    exact (((Keep.refl _).alloc _).alloc _).alloc _)
  have cX := (show Box w1 (w.heap.size + 1) #[.int .i64 cm, .int .u32 at_, .int .i64 kd, .bool false, .int .i64 f, .int .u32 ad, .int .u16 pm] from by
    refine Box.keep ?_ hk1
    repeat (first | (with_reducible refine Box.other ?_ ?_ _; rotate_left; · (simp; done)))
    exact (Box.new1 _ _ _ _).alloc _).cells
  clear hk1 CH
  cases wi with
  | false =>
    obtain rfl : r = 6 := HR2.out.trans (if_pos rfl)
    go_wp2_with fail
    go_ret
    exact ⟨rfl, HK.out⟩
  | true =>
    have HR3 := Lib.hid (HR2.out.trans (if_neg (by decide)))
    rcases Bool.eq_false_or_eq_true (mv != 0) with y | y
    · obtain rfl : r = 3 := HR3.out.trans (if_pos (by simpa using y))
      go_wp2_with fail
      go_ret
      exact ⟨rfl, HK.out⟩
    · obtain rfl : r = 0 := HR3.out.trans (if_neg (by simpa using y))
      go_wp2_with fail
      go_ret
      exact ⟨rfl, HK.out⟩
set_option maxHeartbeats 4000000 in
set_option maxRecDepth 100000 in
theorem iown_true (c : PartV) (ve : Value) (cm at_ kd f ad pm : Int) (hc : SpanOk c.code) (hd : SpanOk c.data) (ha : N32 ad) (w : World) (hvf : ∃ p n q, ve = .slice p n q) :
    Calls Tryd.prog 77 #[.agg #[.string c.name, .int .u32 c.code.at_, .int .u32 c.code.size, .int .u32 c.data.at_, .int .u32 c.data.size, .int .u32 c.stack.at_, .int .u32 c.stack.size, ve], .agg #[.int .i64 cm, .int .u32 at_, .int .i64 kd, .bool true, .int .i64 f, .int .u32 ad, .int .u16 pm]] w fun e w' => e = .returned (.int .i64 (ownE c ⟨cm, at_, kd, true, f, ad, pm⟩)) ∧ Keep w w' := by
  have CH := Lib.hid (fun W => iholds_any c.data ad 0 hd ha ⟨by decide, by decide⟩ W)
  obtain ⟨vp, vn, vq, rfl⟩ := hvf
  obtain ⟨wi, hwi⟩ : ∃ wi, withinS c.data ad 0 = wi := ⟨_, rfl⟩
  obtain ⟨mv, hmv⟩ : ∃ mv, bits .andNot .u16 pm 27 = mv := ⟨_, rfl⟩
  obtain ⟨r, hr⟩ : ∃ r, r = ownE c ⟨cm, at_, kd, true, f, ad, pm⟩ := ⟨_, rfl⟩
  rw [← hr]
  have HR : Hid (r = if f ≠ 0 then 17 else if wi = false then 6 else if mv ≠ 0 then 3 else 0) := Lib.hid (by rw [hr, ← hwi, ← hmv]; rfl)
  rw [hwi] at CH
  clear hr hwi hc hd ha
  rcases Bool.eq_false_or_eq_true (f != 0) with z | z
  · obtain rfl : r = 17 := HR.out.trans (if_pos (by simpa using z))
    clear HR CH
    go_enter Tryd.func77, Tryd.ntmps77
    go_wp2_with fail
    go_ret
    refine ⟨rfl, ?_⟩
    repeat (with_reducible refine Keep.setAt ?_ ?_ _; · first | omega | (simp; done) | (simp; omega))
    exact (((Keep.refl _).alloc _).alloc _).alloc _
  have HR2 := Lib.hid (HR.out.trans (if_neg (by simpa using z)))
  clear HR
  go_enter Tryd.func77, Tryd.ntmps77
  go_wp2_with fail
  refine (CH.out _).mono ?_
  rintro e w1 ⟨rfl, hk1⟩
  have HK : Hid (Keep w w1) := Lib.hid (by
    refine Keep.trans ?_ hk1
    repeat (with_reducible refine Keep.setAt ?_ ?_ _; · first | omega | (simp; done) | (simp; omega))
    exact (((Keep.refl _).alloc _).alloc _).alloc _)
  have cX := (show Box w1 (w.heap.size + 1) #[.int .i64 cm, .int .u32 at_, .int .i64 kd, .bool true, .int .i64 f, .int .u32 ad, .int .u16 pm] from by
    refine Box.keep ?_ hk1
    repeat (first | (with_reducible refine Box.other ?_ ?_ _; rotate_left; · (simp; done)))
    exact (Box.new1 _ _ _ _).alloc _).cells
  clear hk1 CH
  cases wi with
  | false =>
    obtain rfl : r = 6 := HR2.out.trans (if_pos rfl)
    go_wp2_with fail
    go_ret
    exact ⟨rfl, HK.out⟩
  | true =>
    have HR3 := Lib.hid (HR2.out.trans (if_neg (by decide)))
    rcases Bool.eq_false_or_eq_true (mv != 0) with y | y
    · obtain rfl : r = 3 := HR3.out.trans (if_pos (by simpa using y))
      go_wp2_with fail
      go_ret
      exact ⟨rfl, HK.out⟩
    · obtain rfl : r = 0 := HR3.out.trans (if_neg (by simpa using y))
      go_wp2_with fail
      go_ret
      exact ⟨rfl, HK.out⟩
theorem iown_any (c : PartV) (ve : Value) (x : InitV) (hc : SpanOk c.code) (hd : SpanOk c.data) (ha : N32 x.addr) (w : World) (hvf : ∃ p n q, ve = .slice p n q) :
    Calls Tryd.prog 77 #[.agg #[.string c.name, .int .u32 c.code.at_, .int .u32 c.code.size, .int .u32 c.data.at_, .int .u32 c.data.size, .int .u32 c.stack.at_, .int .u32 c.stack.size, ve], .agg #[.int .i64 x.comp, .int .u32 x.at_, .int .i64 x.kind, .bool x.data, .int .i64 x.src, .int .u32 x.addr, .int .u16 x.perm]] w fun e w' => e = .returned (.int .i64 (ownE c x)) ∧ Keep w w' := by
  obtain ⟨cm, at_, kd, d, f, ad, pm⟩ := x
  cases d with
  | false => exact iown_false c ve cm at_ kd f ad pm hc hd ha w hvf
  | true => exact iown_true c ve cm at_ kd f ad pm hc hd ha w hvf
end Go.Proofs.YtmcbeclkocjlkaaDoor

/- The program's beyond. -/
namespace Go.Proofs.YtmcbeclkocjlkaaDoor
set_option linter.unusedVariables false
set_option linter.unusedSimpArgs false
open Go Go.RowKit
set_option maxHeartbeats 4000000 in
set_option maxRecDepth 100000 in
theorem ibeyond_any (i : ImgV) (vp vs vi vb : Value) (ves : List Value) (x : InitV) (w : World) (h : ImgAt w i vp vs vi vb ves) (hm : ImgMid i) (hp : 0 ≤ x.perm ∧ x.perm < 65536) :
    Calls Tryd.prog 78 #[imgVal i vp vs vi vb, .agg #[.int .i64 x.comp, .int .u32 x.at_, .int .i64 x.kind, .bool x.data, .int .i64 x.src, .int .u32 x.addr, .int .u16 x.perm]] w fun e w' => e = .returned (.int .i64 (beyE i x)) ∧ Keep w w' := by
  have HO := Lib.hid h
  have CS := Lib.hid (fun W (kw : Keep w W) => ishared_any i vp vs vi vb ves x W (ImgAt.keep HO.out kw) hm hp)
  have CC := Lib.hid (fun W (kw : Keep w W) => icallable_any i vp vs vi vb ves x.src x.addr W (ImgAt.keep HO.out kw) hm)
  obtain ⟨pq, pc, rfl, hpc, hpm, _⟩ := h.partsAt
  obtain ⟨sq, sc, rfl, _, _, _⟩ := h.sharesAt
  obtain ⟨iq, ic, rfl, _, _, _⟩ := h.initsAt
  obtain ⟨bq, bc, rfl, _⟩ := h.bytes
  unfold imgVal at CS CC ⊢
  obtain ⟨W0, hW0⟩ : ∃ W0, W0 = (w.alloc (.cells #[.int .u32 i.size, .slice pq i.parts.length pc, .slice sq i.shares.length sc, .slice iq i.inits.length ic, .int .i64 i.start, .int .u32 i.addr, .slice bq i.bytes.length bc] 28)).alloc (.cells #[.int .i64 x.comp, .int .u32 x.at_, .int .i64 x.kind, .bool x.data, .int .i64 x.src, .int .u32 x.addr, .int .u16 x.perm] 43) := ⟨_, rfl⟩
  have K0 : Hid (Keep w W0) := Lib.hid (by rw [hW0]; exact ((Keep.refl _).alloc _).alloc _)
  have BX : Hid (Box W0 (w.heap.size + 1) #[.int .i64 x.comp, .int .u32 x.at_, .int .i64 x.kind, .bool x.data, .int .i64 x.src, .int .u32 x.addr, .int .u16 x.perm]) := Lib.hid (by rw [hW0]; exact Box.new1 _ _ _ _)
  unfold beyE
  clear h hm hp HO
  obtain ⟨a, ha⟩ : ∃ a, sharE i x = a := ⟨_, rfl⟩
  obtain ⟨b, hb⟩ : ∃ b, callE i x.src x.addr = b := ⟨_, rfl⟩
  rw [ha] at CS ⊢
  rw [hb] at CC ⊢
  obtain ⟨r, hr⟩ : ∃ r, r = (if x.kind = 3 then a else if b = 0 ∧ x.src = x.comp then 17 else b) := ⟨_, rfl⟩
  rw [← hr]
  have HR := Lib.hid hr
  clear hr ha hb
  by_cases k3 : x.kind = 3
  · have k3' : (x.kind == 3) = true := by simpa using k3
    obtain rfl : r = a := HR.out.trans (if_pos k3)
    clear k3 HR CC
    go_enter Tryd.func78, Tryd.ntmps78
    go_wp2_with fail
    rw [← hW0]
    clear hW0
    with_reducible refine (CS.out _ K0.out).mono ?_
    rintro e w1 ⟨rfl, hk1⟩
    have HK := Lib.hid (K0.out.trans hk1)
    clear hk1 CS
    go_wp2_with fail
    go_ret
    exact ⟨rfl, HK.out⟩
  have k3' : (x.kind == 3) = false := by simpa using k3
  have HR2 := Lib.hid (HR.out.trans (if_neg k3))
  clear k3 HR CS
  go_enter Tryd.func78, Tryd.ntmps78
  go_wp2_with fail
  rw [← hW0]
  clear hW0
  with_reducible refine (CC.out _ K0.out).mono ?_
  rintro e w1 ⟨rfl, hk1⟩
  have HK := Lib.hid (K0.out.trans hk1)
  have cX := (BX.out.keep hk1).cells
  clear hk1 CC
  rcases Bool.eq_false_or_eq_true (b == 0) with z | z
  · rcases Bool.eq_false_or_eq_true (x.src == x.comp) with y | y
    · obtain rfl : r = 17 := HR2.out.trans (if_pos ⟨by simpa using z, by simpa using y⟩)
      go_wp2_with fail
      go_ret
      exact ⟨rfl, HK.out⟩
    · obtain rfl : r = b := HR2.out.trans (if_neg (by rintro ⟨_, e⟩; rw [e] at y; simp at y))
      go_wp2_with fail
      go_ret
      exact ⟨rfl, HK.out⟩
  · obtain rfl : r = b := HR2.out.trans (if_neg (by rintro ⟨e, _⟩; rw [e] at z; simp at z))
    go_wp2_with fail
    go_ret
    exact ⟨rfl, HK.out⟩
end Go.Proofs.YtmcbeclkocjlkaaDoor
