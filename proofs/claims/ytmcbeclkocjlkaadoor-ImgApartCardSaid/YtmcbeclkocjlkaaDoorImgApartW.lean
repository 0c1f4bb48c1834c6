/- hasplaw18's ImgApart, over what the program's img answers; by gen/img7.py. -/
import Derived.Test.YtmcbeclkocjlkaaDoorImgC
import Derived.Test.YtmcbeclkocjlkaaDoorGObjF
import Derived.Test.YtmcbeclkocjlkaaDoorRowOf
import Derived.Test.YtmcbeclkocjlkaaDoorSpansAt
import Derived.Test.YtmcbeclkocjlkaaDoorGRdrC
import Derived.Test.YtmcbeclkocjlkaaDoorGImgF
namespace Go.Proofs.YtmcbeclkocjlkaaDoor
set_option linter.unusedVariables false
set_option linter.unusedSimpArgs false
open Go Go.RowKit
theorem infoPSpan : (Tryd.prog.info? 36).map (fun i => (i.zero, i.size, i.bytes)) = some (some (.agg #[.int .u32 0, .int .u32 0]), 2, 8) := by kernel_rfl
theorem countP_take {l : List SpanV} {a : Int} {k : Nat} {s : SpanV} (h : l[k]? = some s) : (l.take (k + 1)).countP (hitS a) = (l.take k).countP (hitS a) + (if hitS a s = true then 1 else 0) := by
  rw [List.take_add_one, h, List.countP_append]
  simp [List.countP_cons]
theorem count_hit {l : List SpanV} {a : Int} (h : l.countP (hitS a) ≠ 0) : ∃ s ∈ l, hitS a s = true := by
  have : 0 < l.countP (hitS a) := by omega
  exact List.countP_pos_iff.1 this
set_option maxHeartbeats 8000000 in
set_option maxRecDepth 100000 in
theorem imgApart_any {Pre : World → Prop} (hP : OPreOk Pre) (hC : PImgCheck Pre) (hK : ∀ w, Pre w → Calls Tryd.prog 4 #[] w fun e w' => e = .returned (.bool true) ∧ Keep w w')
    (i : ImgV) (vp vs vi vb : Value) (ves : List Value) (c : Nat) (hc : c < 65536) (w : World) (h : ImgAt w i vp vs vi vb ves) (ho : ImgNum i) (m1 : i.parts.length ≤ maxLen) (m2 : i.shares.length ≤ maxLen) (m3 : i.inits.length ≤ maxLen) (m4 : i.bytes.length ≤ maxLen) (m5 : ∀ p ∈ i.parts, p.entries.length ≤ maxLen) (hp : Pre w) :
    Calls Tryd.prog 3 #[imgVal i vp vs vi vb, .int .u16 (c : Int)] w fun e w' => e = .returned (.bool true) ∧ Keep w w' := by
  obtain ⟨i0, hi0, hz0, hz1, hz2⟩ := oinfo_parts infoPSpan
  have HO := Lib.hid h
  have HN := Lib.hid ho
  have HP := Lib.hid hp
  have HH := Lib.hid hP
  have HC := Lib.hid hC
  have HM := Lib.hid (And.intro (And.intro m1 m2) (And.intro m3 (And.intro m4 m5)))
  have nves := h.nves
  obtain ⟨pp, pcap, rfl, _, _, hp3⟩ := h.partsAt
  obtain ⟨sp, scap, rfl, _, _, hs3⟩ := h.sharesAt
  obtain ⟨ip, icap, rfl, _⟩ := h.inits
  obtain ⟨bp, bcap, rfl, _⟩ := h.bytes
  have HPX := Lib.hid hp3
  have HL := Lib.hid h.shares
  have zs0 := ho.size.1
  have zs1 := ho.size.2
  unfold imgVal
  have K0 : Hid (Keep w (w.alloc (.cells #[.int .u32 i.size, .slice pp i.parts.length pcap, .slice sp i.shares.length scap, .slice ip i.inits.length icap, .int .i64 i.start, .int .u32 i.addr, .slice bp i.bytes.length bcap] 28))) := Lib.hid ((Keep.refl _).alloc _)
  have B0 : Hid (Box (w.alloc (.cells #[.int .u32 i.size, .slice pp i.parts.length pcap, .slice sp i.shares.length scap, .slice ip i.inits.length icap, .int .i64 i.start, .int .u32 i.addr, .slice bp i.bytes.length bcap] 28)) w.heap.size #[.int .u32 i.size, .slice pp i.parts.length pcap, .slice sp i.shares.length scap, .slice ip i.inits.length icap, .int .i64 i.start, .int .u32 i.addr, .slice bp i.bytes.length bcap]) := Lib.hid (Box.new _ _ _)
  have CK := Lib.hid (hK _ (hP.keep hp K0.out))
  clear h ho hp hP hC hK m1 m2 m3 m4 m5 hp3 hs3
  go_enter Tryd.func3, Tryd.ntmps3
  go_wp2_with fail
  refine CK.out.mono ?_
  rintro e w1 ⟨rfl, hk1⟩
  have K1 := Lib.hid (K0.out.trans hk1)
  have HB1 := Lib.hid (B0.out.keep hk1)
  have c1 := HB1.out.cells
  have CF := Lib.hid (ifew_any i _ _ _ _ _ w1 (HO.out.keep K1.out) HM.out.1.1 HM.out.1.2 HM.out.2.1 HM.out.2.2.1 HM.out.2.2.2)
  unfold imgVal at CF
  clear hk1 CK
  go_wp2_with fail
  refine CF.out.mono ?_
  rintro e w2 ⟨b, rfl, hb, hk2⟩
  have K2 := Lib.hid (K1.out.trans hk2)
  have HB2 := Lib.hid (HB1.out.keep hk2)
  have c2 := HB2.out.cells
  have HBF := Lib.hid hb
  clear hk2 CF c1 hb
  cases b with
  | false =>
    go_wp2_with fail
    go_ret
    exact ⟨rfl, K2.out⟩
  | true =>
    have FF := Lib.hid (HBF.out rfl)
    have CC := Lib.hid (HC.out i _ _ _ _ _ w2 (HO.out.keep K2.out) HN.out FF.out.mid (HH.out.keep HP.out K2.out))
    unfold imgVal at CC
    go_wp2_with fail
    refine CC.out.mono ?_
    rintro e w3 ⟨hk3, u, rfl, hu⟩
    have K3 := Lib.hid (K2.out.trans hk3)
    have HB3 := Lib.hid (HB2.out.keep hk3)
    clear hk3 CC c2
    by_cases ok : (imgW i).2.2 = 0
    rotate_left
    · obtain ⟨q, rfl⟩ := hu.bad ok
      unfold faultP
      clear hu
      go_wp2_with fail
      go_ret
      exact ⟨rfl, K3.out⟩
    obtain rfl := hu.good ok
    have MAY := Lib.hid (imgW_may ok)
    have fp := FF.out.parts
    have fs := FF.out.shares
    have np := MAY.out.parts.1
    have hnp : 0 < i.parts.length := by omega
    clear hu ok np
    rcases HPX.out with hnil | ⟨pb, po, rfl, hpb, hpx⟩
    · rw [hnil] at hnp; simp at hnp
    have HPX2 := Lib.hid hpx
    have HPB := Lib.hid hpb
    clear hpx hpb HPX
    go_wp2_with fail
    go_loopw [5, 6] (fun v k wr => ∃ j : Nat, j ≤ i.parts.length ∧ k = .int .i64 (j : Int) ∧ wr.ownsRow (w.heap.size + 1) 36 2 v (j * 3) (spanRows ((i.parts.take j).flatMap threeS)) ∧ Box wr w.heap.size #[.int .u32 i.size, .slice (some ⟨pb, po, none⟩) i.parts.length pcap, .slice sp i.shares.length scap, .slice ip i.inits.length icap, .int .i64 i.start, .int .u32 i.addr, .slice bp i.bytes.length bcap] ∧ Keep w wr) (fun _ k _ => i.parts.length - (intOf k).toNat)
    case atStart => exact ⟨0, Nat.zero_le _, rfl, World.ownsRow_nil _ _ _ _, HB3.out, K3.out⟩
    case round =>
      obtain ⟨k, hk, rfl, hO, hB, hK⟩ := hrel
      have k0 : (0 : Int) ≤ (k : Int) := Int.natCast_nonneg _
      have HOW := Lib.hid hO
      have HB := Lib.hid hB
      have HK := Lib.hid hK
      have hlt := hB.lt
      clear hO hB hK
      by_cases h : k < i.parts.length
      · obtain ⟨x, hx⟩ : ∃ x, i.parts[k]? = some x := ⟨_, List.getElem?_eq_getElem h⟩
        obtain ⟨ve, hve⟩ : ∃ ve, ves[k]? = some ve := ⟨_, List.getElem?_eq_getElem (by omega)⟩
        have hki : (k : Int) < (i.parts.length : Int) := by omega
        have HR := Lib.hid (take_three i.parts k x hx)
        have HC1 := Lib.hid (HPX2.out k x ve hx hve)
        have hb := HPB.out
        clear hx hve
        have c0 := HB.out.cells
        go_wp2_with fail
        refine Rel.regionO (KeepBut (fun z => w.heap.size + 1 ≤ z)) (butWay _) [19, 20] [0, 1, 2, 3, 4, 5, 6, 7, 8, 9, 10, 11, 12, 13, 14, 15, 16, 17, 18, 19, 20, 21] (by kernel_rfl) (by kernel_rfl) (Keep.refl _) ?_
        clear c0
        repeat (apply Rel.ordK_step (by rfl) (by rfl) (by rfl)
                · intro W' hW'
                  have c := (HB.out.but hW' (by omega)).cells
                  have kk := hb
                  have c1 := cellK hW' (Nat.lt_of_lt_of_le hb HK.out.size) (by omega) (HK.out.cellOf HC1.out.2.1)
                  have c2 := cellK hW' (Nat.lt_of_lt_of_le hb HK.out.size) (by omega) (HK.out.cellOf HC1.out.2.2.1)
                  have c3 := cellK hW' (Nat.lt_of_lt_of_le hb HK.out.size) (by omega) (HK.out.cellOf HC1.out.2.2.2.1)
                  have c4 := cellK hW' (Nat.lt_of_lt_of_le hb HK.out.size) (by omega) (HK.out.cellOf HC1.out.2.2.2.2.1)
                  have c5 := cellK hW' (Nat.lt_of_lt_of_le hb HK.out.size) (by omega) (HK.out.cellOf HC1.out.2.2.2.2.2.1)
                  have c6 := cellK hW' (Nat.lt_of_lt_of_le hb HK.out.size) (by omega) (HK.out.cellOf HC1.out.2.2.2.2.2.2.1)
                  go_simp
                  exact ⟨rfl, Keep.refl _⟩
                go_simp)
        apply Rel.ordK_loose (by rfl) (by rfl) (by rfl)
        intro W1 hW1
        go_simp
        apply Rel.gives_value
        refine ⟨((Keep.refl _).alloc _).but _, ?_⟩
        have BR := Box.new W1 #[.int .u32 x.code.at_, .int .u32 x.code.size, .int .u32 x.data.at_, .int .u32 x.data.size, .int .u32 x.stack.at_, .int .u32 x.stack.size] 36
        have KA : Keep wr (W1.alloc (.cells #[.int .u32 x.code.at_, .int .u32 x.code.size, .int .u32 x.data.at_, .int .u32 x.data.size, .int .u32 x.stack.at_, .int .u32 x.stack.size] 36)) := hW1.alloc _
        go_simp
        apply Rel.ordK_loose (by rfl) (by rfl) (by rfl)
        intro W3 hW3
        have K3 := KA.trans hW3
        have B3 := BR.keep hW3
        refine gives_append W3 (.tmp 26) (.tmp 45) 24 rfl (w.heap.size + 1) 36 i0 _ 2 8 Tryd.underlying24 hi0 hz0 hz1 hz2 rfl (by decide) _ (k * 3) (spanRows ((i.parts.take k).flatMap threeS)) rfl (owns_keep HOW.out K3) ⟨W1.heap.size, 0, none⟩ 3 3 (spanRows (threeS x)) rfl rfl (cells_box B3 rfl) (spanRows_one _) (by unfold maxLen; omega) (by omega) (by have := K3.size; omega) ?_
        intro v' W' hown' hgrow
        have hS : ∀ g, Value.ownBlock _ = some g → w.heap.size + 1 ≤ g := fun g hg => (World.ownsRow.lt HOW.out g hg).1
        have KB := grown_but hgrow (fun z => w.heap.size + 1 ≤ z) hS
        refine ⟨KB, ?_⟩
        have HB' := Lib.hid ((HB.out.keep K3).but KB (by omega))
        have HK' := Lib.hid ((HK.out.trans K3).butNew KB (fun z hz => by omega))
        have HO' := Lib.hid hown'
        clear hgrow hS KB hown' K3 B3 hW3 BR KA hW1
        go_simp
        repeat (apply Rel.ordK_step (by rfl) (by rfl) (by rfl)
                · intro W' hW'
                  go_simp
                  exact ⟨rfl, Keep.refl _⟩
                go_simp)
        apply Rel.ordK_end
        intro W5 hW5
        have KE := Lib.hid (HK'.out.trans hW5)
        have OE := Lib.hid (owns_keep HO'.out hW5)
        have BE := Lib.hid (HB'.out.keep hW5)
        clear hW5 HK' HO' HB'
        go_wp2_with fail
        refine ⟨⟨k + 1, h, by simp, ?_, BE.out, KE.out⟩, by simp [intOf]; omega⟩
        rw [HR.out, show (k + 1) * 3 = k * 3 + 3 by omega]
        exact OE.out
      · obtain rfl : k = i.parts.length := by omega
        have HE := Lib.hid HOW.out
        rw [List.take_length] at HE
        obtain ⟨q, cq, hv, hqc⟩ := ownForm HOW.out
        have hend : spanRows (spansI i) = spanRows (i.parts.flatMap threeS) ++ spanRows i.shares := by rw [spansI_eq]; unfold spanRows; rw [List.flatMap_append]
        have hlen : (spansI i).length = i.parts.length * 3 + i.shares.length := by rw [spansI_eq, List.length_append, three_length]
        have HEND := Lib.hid hend
        have HLEN := Lib.hid hlen
        have c0 := HB.out.cells
        subst hv
        clear hend hlen
        have NSP : spansI i ≠ [] := fun e => by
          have := congrArg List.length e
          rw [HLEN.out] at this
          simp at this
          omega
        cases sp with
        | none =>
          have hs0 : i.shares = [] := by
            obtain ⟨p', cap', e1, _, _, e4⟩ := HL.out
            have e2 := (Value.slice.inj e1).1
            rcases e4 with e4 | ⟨b', off', e4, _, e5⟩
            · have h2 : i.shares.length * 2 = 0 := by rw [← spanRows_length, e4]; rfl
              exact List.length_eq_zero_iff.1 (by omega)
            · rw [e4] at e2; cases e2
          have hl0 : i.shares.length = 0 := by rw [hs0]; rfl
          rw [hl0] at c0
          go_wp2_with (at_builtin; refine wpList_append_nil rfl _ _ 24 rfl 36 i0 Tryd.underlying24 hi0 q _ cq scap rfl rfl hqc ?_)
          obtain ⟨WZ, rfl⟩ : ∃ W, W = wr := ⟨_, rfl⟩
          have hel : (spansI i).length = i.parts.length * 3 := by rw [HLEN.out, hl0, Nat.add_zero]
          have OZ : Hid (WZ.ownsRow (w.heap.size + 1) 36 2 (.slice q (i.parts.length * 3) cq) (spansI i).length (spanRows (spansI i))) := Lib.hid (by rw [HEND.out, hel, hs0, show spanRows ([] : List SpanV) = [] from rfl, List.append_nil]; exact HE.out)
          have BZ := Lib.hid HB.out
          have KZ := Lib.hid HK.out
          clear c0 HB HK HE
          obtain ⟨sb, so, sc2, hv2, hsb, hsx⟩ := spans_at (own_slAt OZ.out (by have := HLEN.out; unfold maxLen; omega)) NSP
          simp only [Value.slice.injEq] at hv2
          obtain ⟨rfl, hl3, rfl⟩ := hv2
          have HX := Lib.hid hsx
          have HBZ := Lib.hid BZ.out
          obtain ⟨N, hNe⟩ : ∃ N, N = (spansI i).length := ⟨_, rfl⟩
          have hN : N ≤ 48 := by rw [hNe, HLEN.out]; omega
          have HNE := Lib.hid hNe
          rw [hl3, ← hNe]
          clear hl3 hel
          clear hsx hNe OZ
          have hci : (0 : Int) ≤ (c : Int) := Int.natCast_nonneg _
          have wc1 : IntKind.u32.wrap (c : Int) = (c : Int) := IntWalk.u32_in _ (by omega)
          have wc2 : IntKind.u64.wrap (c : Int) = (c : Int) := IntWalk.u64_in _ (by omega)
          go_wp2_with fail
          go_loopw [7, 8] (fun n x wr => ∃ k : Nat, k ≤ N ∧ n = .int .i64 ((((spansI i).take k).countP (hitS (c : Int)) : Nat) : Int) ∧ x = .int .i64 (k : Int) ∧ Keep WZ wr) (fun _ x _ => N - (intOf x).toNat)
          case atStart => exact ⟨0, Nat.zero_le _, rfl, rfl, Keep.refl _⟩
          case round =>
            obtain ⟨k, hk, rfl, rfl, hK⟩ := hrel
            have HK := Lib.hid hK
            clear hK
            have k0 : (0 : Int) ≤ (k : Int) := Int.natCast_nonneg _
            have hmk : ((spansI i).take k).countP (hitS (c : Int)) ≤ 48 := Nat.le_trans (Nat.le_trans List.countP_le_length (List.length_take_le _ _)) (by omega)
            obtain ⟨m, hm⟩ : ∃ m, ((spansI i).take k).countP (hitS (c : Int)) = m := ⟨_, rfl⟩
            rw [hm] at hmk ⊢
            have HM2 := Lib.hid hm
            clear hm
            have m0 : (0 : Int) ≤ (m : Int) := Int.natCast_nonneg _
            by_cases hlt : k < N
            · obtain ⟨s, hs⟩ : ∃ s, (spansI i)[k]? = some s := ⟨_, List.getElem?_eq_getElem (by rw [← HNE.out]; exact hlt)⟩
              have hki : (k : Int) < (N : Int) := by omega
              obtain ⟨⟨sa0, sa1⟩, sz0, sz1⟩ := HN.out.spans s (List.mem_of_getElem? hs)
              have Y0 := Lib.hid (HX.out k s hs).1
              have Y1 := Lib.hid (HX.out k s hs).2
              have y0 := HK.out.cellOf Y0.out
              have y1 := HK.out.cellOf Y1.out
              have HS := Lib.hid hs
              have lb : sb < wr.heap.size := Nat.lt_of_lt_of_le hsb HK.out.size
              have wu1 : IntKind.u64.wrap s.at_ = s.at_ := IntWalk.u64_in _ (by omega)
              have wu2 : IntKind.u64.wrap s.size = s.size := IntWalk.u64_in _ (by omega)
              have wu3 : IntKind.u64.wrap (s.at_ + s.size) = s.at_ + s.size := IntWalk.u64_in _ (by omega)
              clear hs
              by_cases g1 : s.at_ ≤ (c : Int)
              rotate_left
              · have g1' : decide (s.at_ ≤ (c : Int)) = false := decide_eq_false g1
                have HT : Hid (((spansI i).take (k + 1)).countP (hitS (c : Int)) = m) := Lib.hid (by rw [countP_take HS.out, HM2.out, if_neg (by unfold hitS; rw [g1', Bool.false_and]; decide), Nat.add_zero])
                go_wp2_with fail
                refine region_grows (Keep _) (by kernel_rfl) (by kernel_rfl) (Keep.refl _).drew ?_
                repeat (first
                  | (apply text_pass (by rfl); go_simp)
                  | (apply text_step (by rfl)
                     · intro W hW
                       have y0 := (HK.out.trans hW).cellOf Y0.out
                       have y1 := (HK.out.trans hW).cellOf Y1.out
                       go_simp
                       exact ⟨rfl, hW⟩
                     go_simp))
                apply text_end
                intro WS hWS
                have KS := Lib.hid (HK.out.trans hWS)
                clear hWS y0 y1
                go_wp2_with fail
                go_roundw
                case rel => exact ⟨k + 1, hlt, by rw [HT.out], by go_num, KS.out⟩
                case measure => simp [intOf]; omega
              have g1' : decide (s.at_ ≤ (c : Int)) = true := decide_eq_true g1
              by_cases g2 : (c : Int) < s.at_ + s.size
              rotate_left
              · have g2' : decide ((c : Int) < s.at_ + s.size) = false := decide_eq_false g2
                have HT : Hid (((spansI i).take (k + 1)).countP (hitS (c : Int)) = m) := Lib.hid (by rw [countP_take HS.out, HM2.out, if_neg (by unfold hitS; rw [g1', g2', Bool.and_false]; decide), Nat.add_zero])
                go_wp2_with fail
                refine region_grows (Keep _) (by kernel_rfl) (by kernel_rfl) (Keep.refl _).drew ?_
                repeat (first
                  | (apply text_pass (by rfl); go_simp)
                  | (apply text_step (by rfl)
                     · intro W hW
                       have y0 := (HK.out.trans hW).cellOf Y0.out
                       have y1 := (HK.out.trans hW).cellOf Y1.out
                       go_simp
                       exact ⟨rfl, hW⟩
                     go_simp))
                apply text_end
                intro WS hWS
                have KS := Lib.hid (HK.out.trans hWS)
                clear hWS y0 y1
                go_wp2_with fail
                go_roundw
                case rel => exact ⟨k + 1, hlt, by rw [HT.out], by go_num, KS.out⟩
                case measure => simp [intOf]; omega
              have g2' : decide ((c : Int) < s.at_ + s.size) = true := decide_eq_true g2
              have HT : Hid (((spansI i).take (k + 1)).countP (hitS (c : Int)) = m + 1) := Lib.hid (by rw [countP_take HS.out, HM2.out, if_pos (by unfold hitS; rw [g1', g2']; rfl)])
              go_wp2_with fail
              refine region_grows (Keep _) (by kernel_rfl) (by kernel_rfl) (Keep.refl _).drew ?_
              repeat (first
                | (apply text_pass (by rfl); go_simp)
                | (apply text_step (by rfl)
                   · intro W hW
                     have y0 := (HK.out.trans hW).cellOf Y0.out
                     have y1 := (HK.out.trans hW).cellOf Y1.out
                     go_simp
                     exact ⟨rfl, hW⟩
                   go_simp))
              apply text_end
              intro WS hWS
              have KS := Lib.hid (HK.out.trans hWS)
              clear hWS y0 y1
              go_wp2_with fail
              go_roundw
              case rel => exact ⟨k + 1, hlt, by rw [HT.out]; first | go_num | (simp; done), by go_num, KS.out⟩
              case measure => simp [intOf]; omega
            · obtain rfl : k = N := by omega
              have HTOT : Hid ((spansI i).countP (hitS (c : Int)) = m) := Lib.hid (by rw [← HM2.out, HNE.out, List.take_length])
              obtain ⟨one, hits⟩ := img_apart MAY.out (c : Int)
              rw [HTOT.out] at one
              have HH2 := Lib.hid hits
              have c0 := (HBZ.out.keep HK.out).cells
              have KF := Lib.hid (KZ.out.trans HK.out)
              clear hits
              rcases Nat.lt_or_ge 0 m with mp | mp
              · obtain rfl : m = 1 := by omega
                obtain ⟨s, hs1, hs2⟩ := count_hit (l := spansI i) (a := (c : Int)) (by rw [HTOT.out]; decide)
                obtain ⟨z1, z2⟩ := HH2.out s hs1 hs2
                have z1' : decide ((16 : Int) ≤ (c : Int)) = true := decide_eq_true z1
                have z2' : decide ((c : Int) < i.size) = true := decide_eq_true z2
                clear hs1 hs2
                go_wp2_with fail
                go_ret
                exact ⟨rfl, KF.out⟩
              · obtain rfl : m = 0 := by omega
                go_wp2_with fail
                go_ret
                exact ⟨rfl, KF.out⟩
        | some ad =>
          have hnews : ∀ j u, (spanRows i.shares)[j]? = some u → wr.cell? (ad.add j) = some u := by
            intro j u hj
            obtain ⟨p', cap', e1, _, _, e4⟩ := HL.out
            have e2 := Value.slice.inj e1
            rw [← e2.1] at e4
            rcases e4 with e4 | ⟨b', off', e4, _, e5⟩
            · rw [e4] at hj; simp at hj
            · obtain rfl : ad = ⟨b', off', none⟩ := Option.some.inj e4
              rw [show (⟨b', off', none⟩ : Addr).add j = ⟨b', off' + j, none⟩ by unfold Addr.add; split <;> simp_all]
              exact HK.out.cellOf (e5 j u hj)
          go_wp2_with (at_builtin; refine wpList_append_own _ rfl _ _ 24 rfl (w.heap.size + 1) 36 i0 _ 2 8 Tryd.underlying24 hi0 hz0 hz1 hz2 rfl (by decide) _ (i.parts.length * 3) (spanRows (i.parts.flatMap threeS)) rfl HE.out ad i.shares.length scap (spanRows i.shares) rfl (spanRows_length _) hnews (spanRows_one _) ?c3 ?c4 ?c5 ?_)
          case c3 => unfold maxLen; omega
          case c4 => omega
          case c5 => omega
          intro v' WZ hown' hgrow _
          have hS : ∀ g, Value.ownBlock _ = some g → w.heap.size + 1 ≤ g := fun g hg => (World.ownsRow.lt HE.out g hg).1
          have KB := grown_but hgrow (fun z => w.heap.size + 1 ≤ z) hS
          have KZ := Lib.hid (HK.out.butNew KB (fun z hz => by omega))
          have BZ := Lib.hid (HB.out.but KB (by omega))
          have OZ : Hid (WZ.ownsRow (w.heap.size + 1) 36 2 v' (spansI i).length (spanRows (spansI i))) := Lib.hid (by rw [HEND.out, HLEN.out]; exact hown')
          clear hgrow hS KB hown' c0 HB HK HE hnews
          obtain ⟨sb, so, sc2, hv2, hsb, hsx⟩ := spans_at (own_slAt OZ.out (by have := HLEN.out; unfold maxLen; omega)) NSP
          subst hv2
          have HX := Lib.hid hsx
          have HBZ := Lib.hid BZ.out
          obtain ⟨N, hNe⟩ : ∃ N, N = (spansI i).length := ⟨_, rfl⟩
          have hN : N ≤ 48 := by rw [hNe, HLEN.out]; omega
          have HNE := Lib.hid hNe
          rw [← hNe]
          clear hsx hNe OZ
          have hci : (0 : Int) ≤ (c : Int) := Int.natCast_nonneg _
          have wc1 : IntKind.u32.wrap (c : Int) = (c : Int) := IntWalk.u32_in _ (by omega)
          have wc2 : IntKind.u64.wrap (c : Int) = (c : Int) := IntWalk.u64_in _ (by omega)
          go_wp2_with fail
          go_loopw [7, 8] (fun n x wr => ∃ k : Nat, k ≤ N ∧ n = .int .i64 ((((spansI i).take k).countP (hitS (c : Int)) : Nat) : Int) ∧ x = .int .i64 (k : Int) ∧ Keep WZ wr) (fun _ x _ => N - (intOf x).toNat)
          case atStart => exact ⟨0, Nat.zero_le _, rfl, rfl, Keep.refl _⟩
          case round =>
            obtain ⟨k, hk, rfl, rfl, hK⟩ := hrel
            have HK := Lib.hid hK
            clear hK
            have k0 : (0 : Int) ≤ (k : Int) := Int.natCast_nonneg _
            have hmk : ((spansI i).take k).countP (hitS (c : Int)) ≤ 48 := Nat.le_trans (Nat.le_trans List.countP_le_length (List.length_take_le _ _)) (by omega)
            obtain ⟨m, hm⟩ : ∃ m, ((spansI i).take k).countP (hitS (c : Int)) = m := ⟨_, rfl⟩
            rw [hm] at hmk ⊢
            have HM2 := Lib.hid hm
            clear hm
            have m0 : (0 : Int) ≤ (m : Int) := Int.natCast_nonneg _
            by_cases hlt : k < N
            · obtain ⟨s, hs⟩ : ∃ s, (spansI i)[k]? = some s := ⟨_, List.getElem?_eq_getElem (by rw [← HNE.out]; exact hlt)⟩
              have hki : (k : Int) < (N : Int) := by omega
              obtain ⟨⟨sa0, sa1⟩, sz0, sz1⟩ := HN.out.spans s (List.mem_of_getElem? hs)
              have Y0 := Lib.hid (HX.out k s hs).1
              have Y1 := Lib.hid (HX.out k s hs).2
              have y0 := HK.out.cellOf Y0.out
              have y1 := HK.out.cellOf Y1.out
              have HS := Lib.hid hs
              have lb : sb < wr.heap.size := Nat.lt_of_lt_of_le hsb HK.out.size
              have wu1 : IntKind.u64.wrap s.at_ = s.at_ := IntWalk.u64_in _ (by omega)
              have wu2 : IntKind.u64.wrap s.size = s.size := IntWalk.u64_in _ (by omega)
              have wu3 : IntKind.u64.wrap (s.at_ + s.size) = s.at_ + s.size := IntWalk.u64_in _ (by omega)
              clear hs
              by_cases g1 : s.at_ ≤ (c : Int)
              rotate_left
              · have g1' : decide (s.at_ ≤ (c : Int)) = false := decide_eq_false g1
                have HT : Hid (((spansI i).take (k + 1)).countP (hitS (c : Int)) = m) := Lib.hid (by rw [countP_take HS.out, HM2.out, if_neg (by unfold hitS; rw [g1', Bool.false_and]; decide), Nat.add_zero])
                go_wp2_with fail
                refine region_grows (Keep _) (by kernel_rfl) (by kernel_rfl) (Keep.refl _).drew ?_
                repeat (first
                  | (apply text_pass (by rfl); go_simp)
                  | (apply text_step (by rfl)
                     · intro W hW
                       have y0 := (HK.out.trans hW).cellOf Y0.out
                       have y1 := (HK.out.trans hW).cellOf Y1.out
                       go_simp
                       exact ⟨rfl, hW⟩
                     go_simp))
                apply text_end
                intro WS hWS
                have KS := Lib.hid (HK.out.trans hWS)
                clear hWS y0 y1
                go_wp2_with fail
                go_roundw
                case rel => exact ⟨k + 1, hlt, by rw [HT.out], by go_num, KS.out⟩
                case measure => simp [intOf]; omega
              have g1' : decide (s.at_ ≤ (c : Int)) = true := decide_eq_true g1
              by_cases g2 : (c : Int) < s.at_ + s.size
              rotate_left
              · have g2' : decide ((c : Int) < s.at_ + s.size) = false := decide_eq_false g2
                have HT : Hid (((spansI i).take (k + 1)).countP (hitS (c : Int)) = m) := Lib.hid (by rw [countP_take HS.out, HM2.out, if_neg (by unfold hitS; rw [g1', g2', Bool.and_false]; decide), Nat.add_zero])
                go_wp2_with fail
                refine region_grows (Keep _) (by kernel_rfl) (by kernel_rfl) (Keep.refl _).drew ?_
                repeat (first
                  | (apply text_pass (by rfl); go_simp)
                  | (apply text_step (by rfl)
                     · intro W hW
                       have y0 := (HK.out.trans hW).cellOf Y0.out
                       have y1 := (HK.out.trans hW).cellOf Y1.out
                       go_simp
                       exact ⟨rfl, hW⟩
                     go_simp))
                apply text_end
                intro WS hWS
                have KS := Lib.hid (HK.out.trans hWS)
                clear hWS y0 y1
                go_wp2_with fail
                go_roundw
                case rel => exact ⟨k + 1, hlt, by rw [HT.out], by go_num, KS.out⟩
                case measure => simp [intOf]; omega
              have g2' : decide ((c : Int) < s.at_ + s.size) = true := decide_eq_true g2
              have HT : Hid (((spansI i).take (k + 1)).countP (hitS (c : Int)) = m + 1) := Lib.hid (by rw [countP_take HS.out, HM2.out, if_pos (by unfold hitS; rw [g1', g2']; rfl)])
              go_wp2_with fail
              refine region_grows (Keep _) (by kernel_rfl) (by kernel_rfl) (Keep.refl _).drew ?_
              repeat (first
                | (apply text_pass (by rfl); go_simp)
                | (apply text_step (by rfl)
                   · intro W hW
                     have y0 := (HK.out.trans hW).cellOf Y0.out
                     have y1 := (HK.out.trans hW).cellOf Y1.out
                     go_simp
                     exact ⟨rfl, hW⟩
                   go_simp))
              apply text_end
              intro WS hWS
              have KS := Lib.hid (HK.out.trans hWS)
              clear hWS y0 y1
              go_wp2_with fail
              go_roundw
              case rel => exact ⟨k + 1, hlt, by rw [HT.out]; first | go_num | (simp; done), by go_num, KS.out⟩
              case measure => simp [intOf]; omega
            · obtain rfl : k = N := by omega
              have HTOT : Hid ((spansI i).countP (hitS (c : Int)) = m) := Lib.hid (by rw [← HM2.out, HNE.out, List.take_length])
              obtain ⟨one, hits⟩ := img_apart MAY.out (c : Int)
              rw [HTOT.out] at one
              have HH2 := Lib.hid hits
              have c0 := (HBZ.out.keep HK.out).cells
              have KF := Lib.hid (KZ.out.trans HK.out)
              clear hits
              rcases Nat.lt_or_ge 0 m with mp | mp
              · obtain rfl : m = 1 := by omega
                obtain ⟨s, hs1, hs2⟩ := count_hit (l := spansI i) (a := (c : Int)) (by rw [HTOT.out]; decide)
                obtain ⟨z1, z2⟩ := HH2.out s hs1 hs2
                have z1' : decide ((16 : Int) ≤ (c : Int)) = true := decide_eq_true z1
                have z2' : decide ((c : Int) < i.size) = true := decide_eq_true z2
                clear hs1 hs2
                go_wp2_with fail
                go_ret
                exact ⟨rfl, KF.out⟩
              · obtain rfl : m = 0 := by omega
                go_wp2_with fail
                go_ret
                exact ⟨rfl, KF.out⟩
end Go.Proofs.YtmcbeclkocjlkaaDoor
