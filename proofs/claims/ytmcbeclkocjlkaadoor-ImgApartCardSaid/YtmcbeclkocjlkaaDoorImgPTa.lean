/- The program's target. -/
import Derived.Test.YtmcbeclkocjlkaaDoorGIpE
namespace Go.Proofs.YtmcbeclkocjlkaaDoor
set_option linter.unusedVariables false
set_option linter.unusedSimpArgs false
open Go Go.RowKit
/-- What is wrong with what an init of the part c is of. -/
def targE (i : ImgV) (c : PartV) (x : InitV) : Int := if x.kind = 1 then ownE c x else if x.kind = 2 then (if x.data = true ∨ x.perm ≠ 0 then 17 else beyE i x) else if x.kind = 3 then (if x.data = true then 17 else beyE i x) else 17
theorem initE_at {i : ImgV} {k m : Nat} {x : InitV} {c : PartV} (hs : i.inits[k]? = some x) (hm : x.comp = (m : Int)) (hc : i.parts[m]? = some c) : initE i k = if x.at_ % 16 ≠ 0 then 5 else if withinS c.data x.at_ 16 = false then 6 else if prevI i k x.at_ = true then 13 else targE i c x := by
  have hl := (List.getElem?_eq_some_iff.1 hc).1
  unfold initE targE
  rw [hs]
  dsimp only
  rw [if_neg (show ¬ (x.comp < 0 ∨ (i.parts.length : Int) ≤ x.comp) by omega), show x.comp.toNat = m by omega, hc]
  dsimp only
  have e2 : ¬ x.kind = 1 → x.kind = 2 → beyE i x = (if x.src < 0 ∨ (i.parts.length : Int) ≤ x.src then 6 else if (match i.parts[x.src.toNat]? with
      | none => false
      | some f => amongI f.entries x.addr) = false then 12 else if x.src = x.comp then 17 else 0) := fun _ h2 => by
    unfold beyE
    rw [if_neg (show ¬ x.kind = 3 by omega)]
    unfold callE
    by_cases h3 : x.src < 0 ∨ (i.parts.length : Int) ≤ x.src
    · rw [if_pos h3, if_pos h3, if_neg (by rintro ⟨e, _⟩; cases e)]
    · rw [if_neg h3, if_neg h3]
      cases i.parts[x.src.toNat]? with
      | none => simp
      | some p =>
        cases hq : amongI p.entries x.addr with
        | false => simp [hq]
        | true => by_cases h5 : x.src = x.comp <;> simp [h5, hq]
  have e3 : x.kind = 3 → beyE i x = sharE i x := fun h => by unfold beyE; rw [if_pos h]
  by_cases k1 : x.kind = 1
  · rw [if_pos k1, if_pos k1]; rfl
  · rw [if_neg k1, if_neg k1]
    by_cases k2 : x.kind = 2
    · rw [if_pos k2, if_pos k2, e2 k1 k2]
      rfl
    · rw [if_neg k2, if_neg k2]
      by_cases k3 : x.kind = 3
      · rw [if_pos k3, if_pos k3, e3 k3]; rfl
      · rw [if_neg k3, if_neg k3]
set_option maxHeartbeats 4000000 in
set_option maxRecDepth 100000 in
theorem itarget_any (i : ImgV) (vp vs vi vb : Value) (ves : List Value) (x : InitV) (m : Nat) (c : PartV) (hxm : x.comp = (m : Int)) (hc : i.parts[m]? = some c) (w : World) (h : ImgAt w i vp vs vi vb ves) (hm : ImgMid i) (hn : ImgNum i) (hp : 0 ≤ x.perm ∧ x.perm < 65536) (ha : N32 x.addr) :
    Calls Tryd.prog 65 #[imgVal i vp vs vi vb, .agg #[.int .i64 x.comp, .int .u32 x.at_, .int .i64 x.kind, .bool x.data, .int .i64 x.src, .int .u32 x.addr, .int .u16 x.perm]] w fun e w' => e = .returned (.int .i64 (targE i c x)) ∧ Keep w w' := by
  have HO := Lib.hid h
  have hl := (List.getElem?_eq_some_iff.1 hc).1
  have HCO : ∀ s, s = c.code ∨ s = c.data → SpanOk s := fun s hs => hn.spans s (by
    unfold spansI
    simp only [List.mem_append, List.mem_flatMap, List.mem_cons, List.not_mem_nil, or_false]
    exact .inl ⟨c, List.mem_of_getElem? hc, by rcases hs with e | e; exact .inl e; exact .inr (.inl e)⟩)
  have CB := Lib.hid (fun W (kw : Keep w W) => ibeyond_any i vp vs vi vb ves x W (ImgAt.keep HO.out kw) hm hp)
  obtain ⟨pq, pc, rfl, hpc, hpm, _⟩ := h.partsAt
  obtain ⟨sq, sc, rfl, _, _, _⟩ := h.sharesAt
  obtain ⟨iq, ic, rfl, _, _, _⟩ := h.initsAt
  obtain ⟨bq, bc, rfl, _⟩ := h.bytes
  obtain ⟨b, off, ve, hq, he, C0, C1, C2, C3, C4, C5, C6, C7⟩ := h.part8 hc
  have HC := Lib.hid (And.intro C0 (And.intro C1 (And.intro C2 (And.intro C3 (And.intro C4 (And.intro C5 (And.intro C6 C7)))))))
  obtain ⟨ep, ec, rfl, _⟩ := he
  have CO := Lib.hid (fun W => iown_any c (.slice ep c.entries.length ec) x (HCO _ (.inl rfl)) (HCO _ (.inr rfl)) ha W ⟨_, _, _, rfl⟩)
  unfold imgVal at CB ⊢
  obtain ⟨W0, hW0⟩ : ∃ W0, W0 = (w.alloc (.cells #[.int .u32 i.size, .slice pq i.parts.length pc, .slice sq i.shares.length sc, .slice iq i.inits.length ic, .int .i64 i.start, .int .u32 i.addr, .slice bq i.bytes.length bc] 28)).alloc (.cells #[.int .i64 x.comp, .int .u32 x.at_, .int .i64 x.kind, .bool x.data, .int .i64 x.src, .int .u32 x.addr, .int .u16 x.perm] 43) := ⟨_, rfl⟩
  have K0 : Hid (Keep w W0) := Lib.hid (by rw [hW0]; exact ((Keep.refl _).alloc _).alloc _)
  have BI : Hid (Box W0 w.heap.size #[.int .u32 i.size, .slice pq i.parts.length pc, .slice sq i.shares.length sc, .slice iq i.inits.length ic, .int .i64 i.start, .int .u32 i.addr, .slice bq i.bytes.length bc]) := Lib.hid (by rw [hW0]; exact (Box.new _ _ _).alloc _)
  have BX : Hid (Box W0 (w.heap.size + 1) #[.int .i64 x.comp, .int .u32 x.at_, .int .i64 x.kind, .bool x.data, .int .i64 x.src, .int .u32 x.addr, .int .u16 x.perm]) := Lib.hid (by rw [hW0]; exact Box.new1 _ _ _ _)
  unfold targE
  obtain ⟨a, ha_⟩ : ∃ a, ownE c x = a := ⟨_, rfl⟩
  obtain ⟨bb, hbb⟩ : ∃ bb, beyE i x = bb := ⟨_, rfl⟩
  rw [ha_] at CO ⊢
  rw [hbb] at CB ⊢
  obtain ⟨r, hr⟩ : ∃ r, r = (if x.kind = 1 then a else if x.kind = 2 then (if x.data = true ∨ x.perm ≠ 0 then 17 else bb) else if x.kind = 3 then (if x.data = true then 17 else bb) else 17) := ⟨_, rfl⟩
  rw [← hr]
  have HR := Lib.hid hr
  subst hq
  have hki : (m : Int) < (i.parts.length : Int) := by omega
  have k0 : (0 : Int) ≤ (m : Int) := Int.natCast_nonneg _
  rw [hxm] at CO CB BX hW0 ⊢
  clear hxm hr ha_ hbb h hm hn hp ha HCO hc HO C0 C1 C2 C3 C4 C5 C6 C7
  by_cases k1 : x.kind = 1
  · have k1' : (x.kind == 1) = true := by simpa using k1
    obtain rfl : r = a := HR.out.trans (if_pos k1)
    clear k1 HR CB
    go_enter Tryd.func65, Tryd.ntmps65
    go_wp2_with fail
    rw [← hW0]
    clear hW0
    refine region_grows (Keep W0) (by kernel_rfl) (by kernel_rfl) (Keep.refl _).drew ?_
    repeat (first
      | (apply text_pass (by rfl); go_simp)
      | (apply text_step (by rfl)
         · intro W hW
           have kk := K0.out.trans hW
           have c0 := kk.cellOf HC.out.1
           have c1 := kk.cellOf HC.out.2.1
           have c2 := kk.cellOf HC.out.2.2.1
           have c3 := kk.cellOf HC.out.2.2.2.1
           have c4 := kk.cellOf HC.out.2.2.2.2.1
           have c5 := kk.cellOf HC.out.2.2.2.2.2.1
           have c6 := kk.cellOf HC.out.2.2.2.2.2.2.1
           have c7 := kk.cellOf HC.out.2.2.2.2.2.2.2
           have cI := (BI.out.keep hW).cells
           have cX := (BX.out.keep hW).cells
           clear kk
           go_simp
           first
             | (apply yes_enter; go_at_call 77; refine (CO.out _).mono ?_; rintro e w' ⟨rfl, hk⟩; exact ⟨rfl, hW.trans hk⟩)
             | exact ⟨rfl, hW⟩
         go_simp))
    apply text_end
    intro W hW
    have HK := Lib.hid (K0.out.trans hW)
    clear hW
    go_wp2_with fail
    go_ret
    exact ⟨rfl, HK.out⟩
  have k1' : (x.kind == 1) = false := by simpa using k1
  have HR2 := Lib.hid (HR.out.trans (if_neg k1))
  clear k1 HR CO
  by_cases k2 : x.kind = 2
  · have k2' : (x.kind == 2) = true := by simpa using k2
    have HR3 := Lib.hid (HR2.out.trans (if_pos k2))
    clear HR2 k2
    rcases Bool.eq_false_or_eq_true (x.perm != 0) with z | z
    · obtain rfl : r = 17 := HR3.out.trans (if_pos (.inr (by simpa using z)))
      clear CB HR3
      go_enter Tryd.func65, Tryd.ntmps65
      go_wp2_with fail
      go_ret
      exact ⟨rfl, ((Keep.refl _).alloc _).alloc _⟩
    · cases d : x.data with
      | true =>
        obtain rfl : r = 17 := HR3.out.trans (if_pos (.inl d))
        clear CB HR3
        go_enter Tryd.func65, Tryd.ntmps65
        go_wp2_with fail
        go_ret
        exact ⟨rfl, ((Keep.refl _).alloc _).alloc _⟩
      | false =>
        obtain rfl : r = bb := HR3.out.trans (if_neg (by rintro (e | e); rw [d] at e; cases e; exact e (by simpa using z)))
        rw [d] at CB hW0
        clear HR3
        go_enter Tryd.func65, Tryd.ntmps65
        go_wp2_with fail
        rw [← hW0]
        clear hW0
        with_reducible refine (CB.out _ K0.out).mono ?_
        rintro e w1 ⟨rfl, hk1⟩
        have HK := Lib.hid (K0.out.trans hk1)
        clear hk1 CB
        go_wp2_with fail
        go_ret
        exact ⟨rfl, HK.out⟩
  have k2' : (x.kind == 2) = false := by simpa using k2
  have HR3 := Lib.hid (HR2.out.trans (if_neg k2))
  clear HR2
  by_cases k3 : x.kind = 3
  · have k3' : (x.kind == 3) = true := by simpa using k3
    have HR4 := Lib.hid (HR3.out.trans (if_pos k3))
    clear HR3 k3
    cases d : x.data with
    | true =>
      obtain rfl : r = 17 := HR4.out.trans (if_pos d)
      clear CB HR4
      go_enter Tryd.func65, Tryd.ntmps65
      go_wp2_with fail
      go_ret
      exact ⟨rfl, ((Keep.refl _).alloc _).alloc _⟩
    | false =>
      obtain rfl : r = bb := HR4.out.trans (if_neg (by rw [d]; decide))
      rw [d] at CB hW0
      clear HR4
      go_enter Tryd.func65, Tryd.ntmps65
      go_wp2_with fail
      rw [← hW0]
      clear hW0
      with_reducible refine (CB.out _ K0.out).mono ?_
      rintro e w1 ⟨rfl, hk1⟩
      have HK := Lib.hid (K0.out.trans hk1)
      clear hk1 CB
      go_wp2_with fail
      go_ret
      exact ⟨rfl, HK.out⟩
  have k3' : (x.kind == 3) = false := by simpa using k3
  obtain rfl : r = 17 := HR3.out.trans (if_neg k3)
  clear CB HR3
  go_enter Tryd.func65, Tryd.ntmps65
  go_wp2_with fail
  go_ret
  exact ⟨rfl, ((Keep.refl _).alloc _).alloc _⟩
end Go.Proofs.YtmcbeclkocjlkaaDoor
