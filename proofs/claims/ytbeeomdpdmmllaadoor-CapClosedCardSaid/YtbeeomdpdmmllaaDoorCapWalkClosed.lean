/- The walks of layer 2's laws: CapWalkClosed. -/
import Derived.Test.YtbeeomdpdmmllaaDoorCapKnown
import Derived.Test.YtbeeomdpdmmllaaDoorCapMath
namespace Go.Proofs.YtbeeomdpdmmllaaDoor
set_option linter.unusedVariables false
set_option linter.unusedSimpArgs false
open Go.RowKit
theorem and64 (m : Int) (h : 0 ≤ m ∧ m ≤ 65535) : bits .and .u16 m 64 = 0 ∨ bits .and .u16 m 64 = 64 := and_bit 6 (by decide) m h
set_option maxHeartbeats 1000000 in
theorem capClosed_walk (t : Bool) (b p a m y : Int) (tk : Bool) (bk pk ak mk yk : Int) (to : Bool) (bo po ao mo yo : Int) (x : Int) (hb : 0 ≤ b ∧ b ≤ 4294967295) (hp : 0 ≤ p ∧ p ≤ 4294967295) (ha : 0 ≤ a ∧ a ≤ 4294967295) (hm : 0 ≤ m ∧ m ≤ 65535) (hy : 0 ≤ y ∧ y ≤ 65535) (hbk : 0 ≤ bk ∧ bk ≤ 4294967295) (hpk : 0 ≤ pk ∧ pk ≤ 4294967295) (hak : 0 ≤ ak ∧ ak ≤ 4294967295) (hmk : 0 ≤ mk ∧ mk ≤ 65535) (hyk : 0 ≤ yk ∧ yk ≤ 65535) (hbo : 0 ≤ bo ∧ bo ≤ 4294967295) (hpo : 0 ≤ po ∧ po ≤ 4294967295) (hao : 0 ≤ ao ∧ ao ≤ 4294967295) (hmo : 0 ≤ mo ∧ mo ≤ 65535) (hyo : 0 ≤ yo ∧ yo ≤ 65535) (hx : 0 ≤ x ∧ x ≤ 4294967295) (w : World) (hT : Tabs w) :
    Calls Tryd.prog 8 #[.agg #[.bool t, .int .u32 b, .int .u32 p, .int .u32 a, .int .u16 m, .int .u16 y], .agg #[.bool tk, .int .u32 bk, .int .u32 pk, .int .u32 ak, .int .u16 mk, .int .u16 yk], .agg #[.bool to, .int .u32 bo, .int .u32 po, .int .u32 ao, .int .u16 mo, .int .u16 yo], .int .u32 x] w fun e w' => e = .returned (.bool true) ∧ Keep w w' := by
  have HT := Lib.hid hT
  clear hT
  have r0 := fld0
  rcases Bool.eq_false_or_eq_true (sealTag t y tk bk pk ak mk yk) with ds | ds
  · have ds' := ds
    simp only [sealTag, sealOk, Bool.and_eq_true, decide_eq_true_eq, beq_iff_eq] at ds'
    obtain ⟨rfl, ⟨⟨g1, g2⟩, rfl⟩, g3⟩ := ds'
    have ok : sealOk 0 tk bk pk ak mk yk = true := by simp only [sealTag, Bool.true_and] at ds; exact ds
    have dy : sealTy 0 tk bk pk ak mk yk = ak := by simp [sealTy, ok]
    have hak0 : ak ≠ 0 := by omega
    have n0 : (ak == 0) = false := beq_eq_false_iff_ne.2 hak0
    have q1 : tagOpen true ak = false := by simp [tagOpen, hak0]
    have q2 : tagBounds true b p a ak x = false := by simp [tagBounds, hak0]
    have q3 : tagEnter true m ak = false := by simp [tagEnter, hak0]
    have q4 : sealTag true ak to bo po ao mo yo = false := by simp [sealTag, sealOk, hak0]
    have hA : 0 ≤ ak ∧ ak ≤ 65535 := by omega
    have hxm : 0 ≤ x % 65536 ∧ x % 65536 ≤ 65535 := by omega
    have G3 := Lib.hid g3
    clear ok g3 hak0
    rcases Bool.eq_false_or_eq_true (openTag true ak to bo po ao mo yo) with du | du
    · have eo : (ao == ak) = true := by
        have h := du
        simp only [openTag, openOk, Bool.and_eq_true, beq_iff_eq] at h
        rw [h.2.1.2]; simp
      rcases and64 mk hmk with hp64 | hp64
      · have p64 : (bits .and .u16 mk 64 == 0) = true := by rw [hp64]; rfl
        clear hp64 G3
        go_enter Tryd.func8, Tryd.ntmps8
        go_wp2_with fail
        refine (known_any _ (HT.out.keep ((((Keep.refl _).alloc _).alloc _).alloc _))).mono ?_
        rintro e w1 ⟨rfl, hk1⟩
        have B0_1 : Box w1 w.heap.size #[.bool true, .int .u32 b, .int .u32 p, .int .u32 a, .int .u16 m, .int .u16 0] := (((Box.new _ _ _).alloc _).alloc _).keep hk1
        have B1_1 : Box w1 (w.heap.size + 1) #[.bool tk, .int .u32 bk, .int .u32 pk, .int .u32 ak, .int .u16 mk, .int .u16 yk] := ((Box.new1 _ _ _ _).alloc _).keep hk1
        have B2_1 : Box w1 (w.heap.size + 2) #[.bool to, .int .u32 bo, .int .u32 po, .int .u32 ao, .int .u16 mo, .int .u16 yo] := (Box.new2 _ _ _ _ _).keep hk1
        have c0 := B0_1.cells
        have f0 := B0_1.thawed
        have c1 := B1_1.cells
        have f1 := B1_1.thawed
        have c2 := B2_1.cells
        have f2 := B2_1.thawed
        go_wp2_with fail
        refine (seal_any _ _ _ _ _ _ _ _ _ _ _ _ hb hp ha hm (by omega) hbk hpk hak _).mono ?_
        rintro e w2 ⟨rfl, hk2⟩
        have B0_2 : Box w2 w.heap.size #[.bool true, .int .u32 b, .int .u32 p, .int .u32 a, .int .u16 m, .int .u16 0] := B0_1.keep hk2
        have B1_2 : Box w2 (w.heap.size + 1) #[.bool tk, .int .u32 bk, .int .u32 pk, .int .u32 ak, .int .u16 mk, .int .u16 yk] := B1_1.keep hk2
        have B2_2 : Box w2 (w.heap.size + 2) #[.bool to, .int .u32 bo, .int .u32 po, .int .u32 ao, .int .u16 mo, .int .u16 yo] := B2_1.keep hk2
        clear c0 f0 c1 f1 c2 f2
        have c0 := B0_2.cells
        have f0 := B0_2.thawed
        have c1 := B1_2.cells
        have f1 := B1_2.thawed
        have c2 := B2_2.cells
        have f2 := B2_2.thawed
        have l0 := B0_2.lt
        have l1 := B1_2.lt
        have l2 := B2_2.lt
        go_wp2_with fail
        refine (setAddr_any _ _ _ _ _ _ x hb hp ha hm _).mono ?_
        rintro e w3 ⟨rfl, hk3⟩
        have B0_3 : Box w3 w.heap.size #[.bool true, .int .u32 b, .int .u32 p, .int .u32 a, .int .u16 m, .int .u16 0] := (B0_2.alloc _).keep hk3
        have B1_3 : Box w3 (w.heap.size + 1) #[.bool tk, .int .u32 bk, .int .u32 pk, .int .u32 ak, .int .u16 mk, .int .u16 yk] := (B1_2.alloc _).keep hk3
        have B2_3 : Box w3 (w.heap.size + 2) #[.bool to, .int .u32 bo, .int .u32 po, .int .u32 ao, .int .u16 mo, .int .u16 yo] := (B2_2.alloc _).keep hk3
        have BS_3 : Box w3 w2.heap.size #[.bool true, .int .u32 b, .int .u32 p, .int .u32 a, .int .u16 m, .int .u16 ak] := (Box.new _ _ _).keep hk3
        clear c0 f0 c1 f1 c2 f2 l0 l1 l2
        have c0 := B0_3.cells
        have c1 := B1_3.cells
        have c2 := B2_3.cells
        have cS := BS_3.cells
        go_wp2_with fail
        refine (bounds_any _ _ _ _ _ _ x hb hp ha hm hx _).mono ?_
        rintro e w4 ⟨rfl, hk4⟩
        have B0_4 := B0_3.keep hk4
        have B1_4 := B1_3.keep hk4
        have B2_4 := B2_3.keep hk4
        have BS_4 := BS_3.keep hk4
        clear c0 c1 c2 cS
        have c0 := B0_4.cells
        have c1 := B1_4.cells
        have c2 := B2_4.cells
        have cS := BS_4.cells
        go_wp2_with fail
        refine (andPerm_any _ _ _ _ _ _ _ hb hp ha hm hxm _).mono ?_
        rintro e w5 ⟨rfl, hk5⟩
        have B0_5 := B0_4.keep hk5
        have B1_5 := B1_4.keep hk5
        have B2_5 := B2_4.keep hk5
        have BS_5 := BS_4.keep hk5
        clear c0 c1 c2 cS
        have c0 := B0_5.cells
        have c1 := B1_5.cells
        have c2 := B2_5.cells
        have cS := BS_5.cells
        go_wp2_with fail
        refine (enter_any _ _ _ _ _ _ hb hp ha hm _).mono ?_
        rintro e w6 ⟨rfl, hk6⟩
        have B0_6 := B0_5.keep hk6
        have B1_6 := B1_5.keep hk6
        have B2_6 := B2_5.keep hk6
        have BS_6 := BS_5.keep hk6
        clear c0 c1 c2 cS
        have c0 := B0_6.cells
        have c1 := B1_6.cells
        have c2 := B2_6.cells
        have cS := BS_6.cells
        go_wp2_with fail
        refine (seal_any _ _ _ _ _ _ _ _ _ _ _ _ hb hp ha hm hA hbo hpo hao _).mono ?_
        rintro e w7 ⟨rfl, hk7⟩
        have B0_7 := B0_6.keep hk7
        have B1_7 := B1_6.keep hk7
        have B2_7 := B2_6.keep hk7
        have BS_7 := BS_6.keep hk7
        clear c0 c1 c2 cS
        have c0 := B0_7.cells
        have c1 := B1_7.cells
        have c2 := B2_7.cells
        have cS := BS_7.cells
        go_wp2_with fail
        refine (unseal_any _ _ _ _ _ _ _ _ _ _ _ _ hb hp ha hm hA hbo hpo hao _).mono ?_
        rintro e w8 ⟨rfl, hk8⟩
        have B0_8 := B0_7.keep hk8
        have B1_8 := B1_7.keep hk8
        have B2_8 := B2_7.keep hk8
        have BS_8 := BS_7.keep hk8
        clear c0 c1 c2 cS
        have c0 := B0_8.cells
        have c1 := B1_8.cells
        have c2 := B2_8.cells
        have cS := BS_8.cells
        have l0 := B0_8.lt
        have l1 := B1_8.lt
        have l2 := B2_8.lt
        have lS := BS_8.lt
        go_wp2_with fail
        refine region_grows (Keep _) (by kernel_rfl) (by kernel_rfl) (Keep.refl _).drew ?_
        repeat (first
          | (apply text_pass (by rfl)
             go_simp)
          | (apply text_step (by rfl)
             · intro W hW
               have c0 := ((B0_8.alloc _).keep hW).cells
               have c1 := ((B1_8.alloc _).keep hW).cells
               have c2 := ((B2_8.alloc _).keep hW).cells
               have c3 := ((BS_8.alloc _).keep hW).cells
               have c4 := ((Box.new _ _ _).keep hW).cells
               go_simp
               first
                | exact ⟨rfl, hW⟩
                | (rw [if_neg (by omega)]; exact ⟨rfl, hW⟩)
                | (apply yes_enter; go_at_call 31; refine (unseal_any _ _ _ _ _ _ _ _ _ _ _ _ ?_ ?_ ?_ ?_ ?_ ?_ ?_ ?_ _).mono ?_; (· first | assumption | omega); (· first | assumption | omega); (· first | assumption | omega); (· first | assumption | omega); (· first | assumption | omega); (· first | assumption | omega); (· first | assumption | omega); (· first | assumption | omega); rintro e w' ⟨rfl, hk⟩; exact ⟨rfl, hW.trans hk⟩)
             go_simp))
        apply text_end
        intro W hW
        go_wp2_with fail
        go_ret
        exact ⟨rfl, ((((((((((((((Keep.refl _).alloc _).alloc _).alloc _).trans hk1).trans hk2).alloc _).trans hk3).trans hk4).trans hk5).trans hk6).trans hk7).trans hk8).alloc _).trans hW⟩
      · have p64 : (bits .and .u16 mk 64 == 0) = false := by rw [hp64]; rfl
        have ok2 : openOk ak tk bk pk ak mk yk = true := by
          have g := G3.out
          simp only [meetsB, Bool.and_eq_true] at g
          simp only [openOk, meetsB, Bool.and_eq_true, decide_eq_true_eq]
          exact ⟨⟨g1, by simp⟩, ⟨⟨g.1.1.1, g.1.1.2⟩, by rw [hp64]; rfl⟩, g.2⟩
        have ot : openTag true ak tk bk pk ak mk yk = true := by simp [openTag, ok2]
        have oy : openTy ak tk bk pk ak mk yk = 0 := by simp [openTy, ok2]
        clear hp64 G3 ok2
        go_enter Tryd.func8, Tryd.ntmps8
        go_wp2_with fail
        refine (known_any _ (HT.out.keep ((((Keep.refl _).alloc _).alloc _).alloc _))).mono ?_
        rintro e w1 ⟨rfl, hk1⟩
        have B0_1 : Box w1 w.heap.size #[.bool true, .int .u32 b, .int .u32 p, .int .u32 a, .int .u16 m, .int .u16 0] := (((Box.new _ _ _).alloc _).alloc _).keep hk1
        have B1_1 : Box w1 (w.heap.size + 1) #[.bool tk, .int .u32 bk, .int .u32 pk, .int .u32 ak, .int .u16 mk, .int .u16 yk] := ((Box.new1 _ _ _ _).alloc _).keep hk1
        have B2_1 : Box w1 (w.heap.size + 2) #[.bool to, .int .u32 bo, .int .u32 po, .int .u32 ao, .int .u16 mo, .int .u16 yo] := (Box.new2 _ _ _ _ _).keep hk1
        have c0 := B0_1.cells
        have f0 := B0_1.thawed
        have c1 := B1_1.cells
        have f1 := B1_1.thawed
        have c2 := B2_1.cells
        have f2 := B2_1.thawed
        go_wp2_with fail
        refine (seal_any _ _ _ _ _ _ _ _ _ _ _ _ hb hp ha hm (by omega) hbk hpk hak _).mono ?_
        rintro e w2 ⟨rfl, hk2⟩
        have B0_2 : Box w2 w.heap.size #[.bool true, .int .u32 b, .int .u32 p, .int .u32 a, .int .u16 m, .int .u16 0] := B0_1.keep hk2
        have B1_2 : Box w2 (w.heap.size + 1) #[.bool tk, .int .u32 bk, .int .u32 pk, .int .u32 ak, .int .u16 mk, .int .u16 yk] := B1_1.keep hk2
        have B2_2 : Box w2 (w.heap.size + 2) #[.bool to, .int .u32 bo, .int .u32 po, .int .u32 ao, .int .u16 mo, .int .u16 yo] := B2_1.keep hk2
        clear c0 f0 c1 f1 c2 f2
        have c0 := B0_2.cells
        have f0 := B0_2.thawed
        have c1 := B1_2.cells
        have f1 := B1_2.thawed
        have c2 := B2_2.cells
        have f2 := B2_2.thawed
        have l0 := B0_2.lt
        have l1 := B1_2.lt
        have l2 := B2_2.lt
        go_wp2_with fail
        refine (setAddr_any _ _ _ _ _ _ x hb hp ha hm _).mono ?_
        rintro e w3 ⟨rfl, hk3⟩
        have B0_3 : Box w3 w.heap.size #[.bool true, .int .u32 b, .int .u32 p, .int .u32 a, .int .u16 m, .int .u16 0] := (B0_2.alloc _).keep hk3
        have B1_3 : Box w3 (w.heap.size + 1) #[.bool tk, .int .u32 bk, .int .u32 pk, .int .u32 ak, .int .u16 mk, .int .u16 yk] := (B1_2.alloc _).keep hk3
        have B2_3 : Box w3 (w.heap.size + 2) #[.bool to, .int .u32 bo, .int .u32 po, .int .u32 ao, .int .u16 mo, .int .u16 yo] := (B2_2.alloc _).keep hk3
        have BS_3 : Box w3 w2.heap.size #[.bool true, .int .u32 b, .int .u32 p, .int .u32 a, .int .u16 m, .int .u16 ak] := (Box.new _ _ _).keep hk3
        clear c0 f0 c1 f1 c2 f2 l0 l1 l2
        have c0 := B0_3.cells
        have c1 := B1_3.cells
        have c2 := B2_3.cells
        have cS := BS_3.cells
        go_wp2_with fail
        refine (bounds_any _ _ _ _ _ _ x hb hp ha hm hx _).mono ?_
        rintro e w4 ⟨rfl, hk4⟩
        have B0_4 := B0_3.keep hk4
        have B1_4 := B1_3.keep hk4
        have B2_4 := B2_3.keep hk4
        have BS_4 := BS_3.keep hk4
        clear c0 c1 c2 cS
        have c0 := B0_4.cells
        have c1 := B1_4.cells
        have c2 := B2_4.cells
        have cS := BS_4.cells
        go_wp2_with fail
        refine (andPerm_any _ _ _ _ _ _ _ hb hp ha hm hxm _).mono ?_
        rintro e w5 ⟨rfl, hk5⟩
        have B0_5 := B0_4.keep hk5
        have B1_5 := B1_4.keep hk5
        have B2_5 := B2_4.keep hk5
        have BS_5 := BS_4.keep hk5
        clear c0 c1 c2 cS
        have c0 := B0_5.cells
        have c1 := B1_5.cells
        have c2 := B2_5.cells
        have cS := BS_5.cells
        go_wp2_with fail
        refine (enter_any _ _ _ _ _ _ hb hp ha hm _).mono ?_
        rintro e w6 ⟨rfl, hk6⟩
        have B0_6 := B0_5.keep hk6
        have B1_6 := B1_5.keep hk6
        have B2_6 := B2_5.keep hk6
        have BS_6 := BS_5.keep hk6
        clear c0 c1 c2 cS
        have c0 := B0_6.cells
        have c1 := B1_6.cells
        have c2 := B2_6.cells
        have cS := BS_6.cells
        go_wp2_with fail
        refine (seal_any _ _ _ _ _ _ _ _ _ _ _ _ hb hp ha hm hA hbo hpo hao _).mono ?_
        rintro e w7 ⟨rfl, hk7⟩
        have B0_7 := B0_6.keep hk7
        have B1_7 := B1_6.keep hk7
        have B2_7 := B2_6.keep hk7
        have BS_7 := BS_6.keep hk7
        clear c0 c1 c2 cS
        have c0 := B0_7.cells
        have c1 := B1_7.cells
        have c2 := B2_7.cells
        have cS := BS_7.cells
        go_wp2_with fail
        refine (unseal_any _ _ _ _ _ _ _ _ _ _ _ _ hb hp ha hm hA hbo hpo hao _).mono ?_
        rintro e w8 ⟨rfl, hk8⟩
        have B0_8 := B0_7.keep hk8
        have B1_8 := B1_7.keep hk8
        have B2_8 := B2_7.keep hk8
        have BS_8 := BS_7.keep hk8
        clear c0 c1 c2 cS
        have c0 := B0_8.cells
        have c1 := B1_8.cells
        have c2 := B2_8.cells
        have cS := BS_8.cells
        have l0 := B0_8.lt
        have l1 := B1_8.lt
        have l2 := B2_8.lt
        have lS := BS_8.lt
        go_wp2_with fail
        refine region_grows (Keep _) (by kernel_rfl) (by kernel_rfl) (Keep.refl _).drew ?_
        repeat (first
          | (apply text_pass (by rfl)
             go_simp)
          | (apply text_step (by rfl)
             · intro W hW
               have c0 := ((B0_8.alloc _).keep hW).cells
               have c1 := ((B1_8.alloc _).keep hW).cells
               have c2 := ((B2_8.alloc _).keep hW).cells
               have c3 := ((BS_8.alloc _).keep hW).cells
               have c4 := ((Box.new _ _ _).keep hW).cells
               go_simp
               first
                | exact ⟨rfl, hW⟩
                | (rw [if_neg (by omega)]; exact ⟨rfl, hW⟩)
                | (apply yes_enter; go_at_call 31; refine (unseal_any _ _ _ _ _ _ _ _ _ _ _ _ ?_ ?_ ?_ ?_ ?_ ?_ ?_ ?_ _).mono ?_; (· first | assumption | omega); (· first | assumption | omega); (· first | assumption | omega); (· first | assumption | omega); (· first | assumption | omega); (· first | assumption | omega); (· first | assumption | omega); (· first | assumption | omega); rintro e w' ⟨rfl, hk⟩; exact ⟨rfl, hW.trans hk⟩)
             go_simp))
        apply text_end
        intro W hW
        go_wp2_with fail
        go_ret
        exact ⟨rfl, ((((((((((((((Keep.refl _).alloc _).alloc _).alloc _).trans hk1).trans hk2).alloc _).trans hk3).trans hk4).trans hk5).trans hk6).trans hk7).trans hk8).alloc _).trans hW⟩
    · skip
      rcases and64 mk hmk with hp64 | hp64
      · have p64 : (bits .and .u16 mk 64 == 0) = true := by rw [hp64]; rfl
        clear hp64 G3
        go_enter Tryd.func8, Tryd.ntmps8
        go_wp2_with fail
        refine (known_any _ (HT.out.keep ((((Keep.refl _).alloc _).alloc _).alloc _))).mono ?_
        rintro e w1 ⟨rfl, hk1⟩
        have B0_1 : Box w1 w.heap.size #[.bool true, .int .u32 b, .int .u32 p, .int .u32 a, .int .u16 m, .int .u16 0] := (((Box.new _ _ _).alloc _).alloc _).keep hk1
        have B1_1 : Box w1 (w.heap.size + 1) #[.bool tk, .int .u32 bk, .int .u32 pk, .int .u32 ak, .int .u16 mk, .int .u16 yk] := ((Box.new1 _ _ _ _).alloc _).keep hk1
        have B2_1 : Box w1 (w.heap.size + 2) #[.bool to, .int .u32 bo, .int .u32 po, .int .u32 ao, .int .u16 mo, .int .u16 yo] := (Box.new2 _ _ _ _ _).keep hk1
        have c0 := B0_1.cells
        have f0 := B0_1.thawed
        have c1 := B1_1.cells
        have f1 := B1_1.thawed
        have c2 := B2_1.cells
        have f2 := B2_1.thawed
        go_wp2_with fail
        refine (seal_any _ _ _ _ _ _ _ _ _ _ _ _ hb hp ha hm (by omega) hbk hpk hak _).mono ?_
        rintro e w2 ⟨rfl, hk2⟩
        have B0_2 : Box w2 w.heap.size #[.bool true, .int .u32 b, .int .u32 p, .int .u32 a, .int .u16 m, .int .u16 0] := B0_1.keep hk2
        have B1_2 : Box w2 (w.heap.size + 1) #[.bool tk, .int .u32 bk, .int .u32 pk, .int .u32 ak, .int .u16 mk, .int .u16 yk] := B1_1.keep hk2
        have B2_2 : Box w2 (w.heap.size + 2) #[.bool to, .int .u32 bo, .int .u32 po, .int .u32 ao, .int .u16 mo, .int .u16 yo] := B2_1.keep hk2
        clear c0 f0 c1 f1 c2 f2
        have c0 := B0_2.cells
        have f0 := B0_2.thawed
        have c1 := B1_2.cells
        have f1 := B1_2.thawed
        have c2 := B2_2.cells
        have f2 := B2_2.thawed
        have l0 := B0_2.lt
        have l1 := B1_2.lt
        have l2 := B2_2.lt
        go_wp2_with fail
        refine (setAddr_any _ _ _ _ _ _ x hb hp ha hm _).mono ?_
        rintro e w3 ⟨rfl, hk3⟩
        have B0_3 : Box w3 w.heap.size #[.bool true, .int .u32 b, .int .u32 p, .int .u32 a, .int .u16 m, .int .u16 0] := (B0_2.alloc _).keep hk3
        have B1_3 : Box w3 (w.heap.size + 1) #[.bool tk, .int .u32 bk, .int .u32 pk, .int .u32 ak, .int .u16 mk, .int .u16 yk] := (B1_2.alloc _).keep hk3
        have B2_3 : Box w3 (w.heap.size + 2) #[.bool to, .int .u32 bo, .int .u32 po, .int .u32 ao, .int .u16 mo, .int .u16 yo] := (B2_2.alloc _).keep hk3
        have BS_3 : Box w3 w2.heap.size #[.bool true, .int .u32 b, .int .u32 p, .int .u32 a, .int .u16 m, .int .u16 ak] := (Box.new _ _ _).keep hk3
        clear c0 f0 c1 f1 c2 f2 l0 l1 l2
        have c0 := B0_3.cells
        have c1 := B1_3.cells
        have c2 := B2_3.cells
        have cS := BS_3.cells
        go_wp2_with fail
        refine (bounds_any _ _ _ _ _ _ x hb hp ha hm hx _).mono ?_
        rintro e w4 ⟨rfl, hk4⟩
        have B0_4 := B0_3.keep hk4
        have B1_4 := B1_3.keep hk4
        have B2_4 := B2_3.keep hk4
        have BS_4 := BS_3.keep hk4
        clear c0 c1 c2 cS
        have c0 := B0_4.cells
        have c1 := B1_4.cells
        have c2 := B2_4.cells
        have cS := BS_4.cells
        go_wp2_with fail
        refine (andPerm_any _ _ _ _ _ _ _ hb hp ha hm hxm _).mono ?_
        rintro e w5 ⟨rfl, hk5⟩
        have B0_5 := B0_4.keep hk5
        have B1_5 := B1_4.keep hk5
        have B2_5 := B2_4.keep hk5
        have BS_5 := BS_4.keep hk5
        clear c0 c1 c2 cS
        have c0 := B0_5.cells
        have c1 := B1_5.cells
        have c2 := B2_5.cells
        have cS := BS_5.cells
        go_wp2_with fail
        refine (enter_any _ _ _ _ _ _ hb hp ha hm _).mono ?_
        rintro e w6 ⟨rfl, hk6⟩
        have B0_6 := B0_5.keep hk6
        have B1_6 := B1_5.keep hk6
        have B2_6 := B2_5.keep hk6
        have BS_6 := BS_5.keep hk6
        clear c0 c1 c2 cS
        have c0 := B0_6.cells
        have c1 := B1_6.cells
        have c2 := B2_6.cells
        have cS := BS_6.cells
        go_wp2_with fail
        refine (seal_any _ _ _ _ _ _ _ _ _ _ _ _ hb hp ha hm hA hbo hpo hao _).mono ?_
        rintro e w7 ⟨rfl, hk7⟩
        have B0_7 := B0_6.keep hk7
        have B1_7 := B1_6.keep hk7
        have B2_7 := B2_6.keep hk7
        have BS_7 := BS_6.keep hk7
        clear c0 c1 c2 cS
        have c0 := B0_7.cells
        have c1 := B1_7.cells
        have c2 := B2_7.cells
        have cS := BS_7.cells
        go_wp2_with fail
        refine (unseal_any _ _ _ _ _ _ _ _ _ _ _ _ hb hp ha hm hA hbo hpo hao _).mono ?_
        rintro e w8 ⟨rfl, hk8⟩
        have B0_8 := B0_7.keep hk8
        have B1_8 := B1_7.keep hk8
        have B2_8 := B2_7.keep hk8
        have BS_8 := BS_7.keep hk8
        clear c0 c1 c2 cS
        have c0 := B0_8.cells
        have c1 := B1_8.cells
        have c2 := B2_8.cells
        have cS := BS_8.cells
        have l0 := B0_8.lt
        have l1 := B1_8.lt
        have l2 := B2_8.lt
        have lS := BS_8.lt
        go_wp2_with fail
        refine region_grows (Keep _) (by kernel_rfl) (by kernel_rfl) (Keep.refl _).drew ?_
        repeat (first
          | (apply text_pass (by rfl)
             go_simp)
          | (apply text_step (by rfl)
             · intro W hW
               have c0 := ((B0_8.alloc _).keep hW).cells
               have c1 := ((B1_8.alloc _).keep hW).cells
               have c2 := ((B2_8.alloc _).keep hW).cells
               have c3 := ((BS_8.alloc _).keep hW).cells
               have c4 := ((Box.new _ _ _).keep hW).cells
               go_simp
               first
                | exact ⟨rfl, hW⟩
                | (rw [if_neg (by omega)]; exact ⟨rfl, hW⟩)
                | (apply yes_enter; go_at_call 31; refine (unseal_any _ _ _ _ _ _ _ _ _ _ _ _ ?_ ?_ ?_ ?_ ?_ ?_ ?_ ?_ _).mono ?_; (· first | assumption | omega); (· first | assumption | omega); (· first | assumption | omega); (· first | assumption | omega); (· first | assumption | omega); (· first | assumption | omega); (· first | assumption | omega); (· first | assumption | omega); rintro e w' ⟨rfl, hk⟩; exact ⟨rfl, hW.trans hk⟩)
             go_simp))
        apply text_end
        intro W hW
        go_wp2_with fail
        go_ret
        exact ⟨rfl, ((((((((((((((Keep.refl _).alloc _).alloc _).alloc _).trans hk1).trans hk2).alloc _).trans hk3).trans hk4).trans hk5).trans hk6).trans hk7).trans hk8).alloc _).trans hW⟩
      · have p64 : (bits .and .u16 mk 64 == 0) = false := by rw [hp64]; rfl
        have ok2 : openOk ak tk bk pk ak mk yk = true := by
          have g := G3.out
          simp only [meetsB, Bool.and_eq_true] at g
          simp only [openOk, meetsB, Bool.and_eq_true, decide_eq_true_eq]
          exact ⟨⟨g1, by simp⟩, ⟨⟨g.1.1.1, g.1.1.2⟩, by rw [hp64]; rfl⟩, g.2⟩
        have ot : openTag true ak tk bk pk ak mk yk = true := by simp [openTag, ok2]
        have oy : openTy ak tk bk pk ak mk yk = 0 := by simp [openTy, ok2]
        clear hp64 G3 ok2
        go_enter Tryd.func8, Tryd.ntmps8
        go_wp2_with fail
        refine (known_any _ (HT.out.keep ((((Keep.refl _).alloc _).alloc _).alloc _))).mono ?_
        rintro e w1 ⟨rfl, hk1⟩
        have B0_1 : Box w1 w.heap.size #[.bool true, .int .u32 b, .int .u32 p, .int .u32 a, .int .u16 m, .int .u16 0] := (((Box.new _ _ _).alloc _).alloc _).keep hk1
        have B1_1 : Box w1 (w.heap.size + 1) #[.bool tk, .int .u32 bk, .int .u32 pk, .int .u32 ak, .int .u16 mk, .int .u16 yk] := ((Box.new1 _ _ _ _).alloc _).keep hk1
        have B2_1 : Box w1 (w.heap.size + 2) #[.bool to, .int .u32 bo, .int .u32 po, .int .u32 ao, .int .u16 mo, .int .u16 yo] := (Box.new2 _ _ _ _ _).keep hk1
        have c0 := B0_1.cells
        have f0 := B0_1.thawed
        have c1 := B1_1.cells
        have f1 := B1_1.thawed
        have c2 := B2_1.cells
        have f2 := B2_1.thawed
        go_wp2_with fail
        refine (seal_any _ _ _ _ _ _ _ _ _ _ _ _ hb hp ha hm (by omega) hbk hpk hak _).mono ?_
        rintro e w2 ⟨rfl, hk2⟩
        have B0_2 : Box w2 w.heap.size #[.bool true, .int .u32 b, .int .u32 p, .int .u32 a, .int .u16 m, .int .u16 0] := B0_1.keep hk2
        have B1_2 : Box w2 (w.heap.size + 1) #[.bool tk, .int .u32 bk, .int .u32 pk, .int .u32 ak, .int .u16 mk, .int .u16 yk] := B1_1.keep hk2
        have B2_2 : Box w2 (w.heap.size + 2) #[.bool to, .int .u32 bo, .int .u32 po, .int .u32 ao, .int .u16 mo, .int .u16 yo] := B2_1.keep hk2
        clear c0 f0 c1 f1 c2 f2
        have c0 := B0_2.cells
        have f0 := B0_2.thawed
        have c1 := B1_2.cells
        have f1 := B1_2.thawed
        have c2 := B2_2.cells
        have f2 := B2_2.thawed
        have l0 := B0_2.lt
        have l1 := B1_2.lt
        have l2 := B2_2.lt
        go_wp2_with fail
        refine (setAddr_any _ _ _ _ _ _ x hb hp ha hm _).mono ?_
        rintro e w3 ⟨rfl, hk3⟩
        have B0_3 : Box w3 w.heap.size #[.bool true, .int .u32 b, .int .u32 p, .int .u32 a, .int .u16 m, .int .u16 0] := (B0_2.alloc _).keep hk3
        have B1_3 : Box w3 (w.heap.size + 1) #[.bool tk, .int .u32 bk, .int .u32 pk, .int .u32 ak, .int .u16 mk, .int .u16 yk] := (B1_2.alloc _).keep hk3
        have B2_3 : Box w3 (w.heap.size + 2) #[.bool to, .int .u32 bo, .int .u32 po, .int .u32 ao, .int .u16 mo, .int .u16 yo] := (B2_2.alloc _).keep hk3
        have BS_3 : Box w3 w2.heap.size #[.bool true, .int .u32 b, .int .u32 p, .int .u32 a, .int .u16 m, .int .u16 ak] := (Box.new _ _ _).keep hk3
        clear c0 f0 c1 f1 c2 f2 l0 l1 l2
        have c0 := B0_3.cells
        have c1 := B1_3.cells
        have c2 := B2_3.cells
        have cS := BS_3.cells
        go_wp2_with fail
        refine (bounds_any _ _ _ _ _ _ x hb hp ha hm hx _).mono ?_
        rintro e w4 ⟨rfl, hk4⟩
        have B0_4 := B0_3.keep hk4
        have B1_4 := B1_3.keep hk4
        have B2_4 := B2_3.keep hk4
        have BS_4 := BS_3.keep hk4
        clear c0 c1 c2 cS
        have c0 := B0_4.cells
        have c1 := B1_4.cells
        have c2 := B2_4.cells
        have cS := BS_4.cells
        go_wp2_with fail
        refine (andPerm_any _ _ _ _ _ _ _ hb hp ha hm hxm _).mono ?_
        rintro e w5 ⟨rfl, hk5⟩
        have B0_5 := B0_4.keep hk5
        have B1_5 := B1_4.keep hk5
        have B2_5 := B2_4.keep hk5
        have BS_5 := BS_4.keep hk5
        clear c0 c1 c2 cS
        have c0 := B0_5.cells
        have c1 := B1_5.cells
        have c2 := B2_5.cells
        have cS := BS_5.cells
        go_wp2_with fail
        refine (enter_any _ _ _ _ _ _ hb hp ha hm _).mono ?_
        rintro e w6 ⟨rfl, hk6⟩
        have B0_6 := B0_5.keep hk6
        have B1_6 := B1_5.keep hk6
        have B2_6 := B2_5.keep hk6
        have BS_6 := BS_5.keep hk6
        clear c0 c1 c2 cS
        have c0 := B0_6.cells
        have c1 := B1_6.cells
        have c2 := B2_6.cells
        have cS := BS_6.cells
        go_wp2_with fail
        refine (seal_any _ _ _ _ _ _ _ _ _ _ _ _ hb hp ha hm hA hbo hpo hao _).mono ?_
        rintro e w7 ⟨rfl, hk7⟩
        have B0_7 := B0_6.keep hk7
        have B1_7 := B1_6.keep hk7
        have B2_7 := B2_6.keep hk7
        have BS_7 := BS_6.keep hk7
        clear c0 c1 c2 cS
        have c0 := B0_7.cells
        have c1 := B1_7.cells
        have c2 := B2_7.cells
        have cS := BS_7.cells
        go_wp2_with fail
        refine (unseal_any _ _ _ _ _ _ _ _ _ _ _ _ hb hp ha hm hA hbo hpo hao _).mono ?_
        rintro e w8 ⟨rfl, hk8⟩
        have B0_8 := B0_7.keep hk8
        have B1_8 := B1_7.keep hk8
        have B2_8 := B2_7.keep hk8
        have BS_8 := BS_7.keep hk8
        clear c0 c1 c2 cS
        have c0 := B0_8.cells
        have c1 := B1_8.cells
        have c2 := B2_8.cells
        have cS := BS_8.cells
        have l0 := B0_8.lt
        have l1 := B1_8.lt
        have l2 := B2_8.lt
        have lS := BS_8.lt
        go_wp2_with fail
        refine region_grows (Keep _) (by kernel_rfl) (by kernel_rfl) (Keep.refl _).drew ?_
        repeat (first
          | (apply text_pass (by rfl)
             go_simp)
          | (apply text_step (by rfl)
             · intro W hW
               have c0 := ((B0_8.alloc _).keep hW).cells
               have c1 := ((B1_8.alloc _).keep hW).cells
               have c2 := ((B2_8.alloc _).keep hW).cells
               have c3 := ((BS_8.alloc _).keep hW).cells
               have c4 := ((Box.new _ _ _).keep hW).cells
               go_simp
               first
                | exact ⟨rfl, hW⟩
                | (rw [if_neg (by omega)]; exact ⟨rfl, hW⟩)
                | (apply yes_enter; go_at_call 31; refine (unseal_any _ _ _ _ _ _ _ _ _ _ _ _ ?_ ?_ ?_ ?_ ?_ ?_ ?_ ?_ _).mono ?_; (· first | assumption | omega); (· first | assumption | omega); (· first | assumption | omega); (· first | assumption | omega); (· first | assumption | omega); (· first | assumption | omega); (· first | assumption | omega); (· first | assumption | omega); rintro e w' ⟨rfl, hk⟩; exact ⟨rfl, hW.trans hk⟩)
             go_simp))
        apply text_end
        intro W hW
        go_wp2_with fail
        go_ret
        exact ⟨rfl, ((((((((((((((Keep.refl _).alloc _).alloc _).alloc _).trans hk1).trans hk2).alloc _).trans hk3).trans hk4).trans hk5).trans hk6).trans hk7).trans hk8).alloc _).trans hW⟩
  · skip
    go_enter Tryd.func8, Tryd.ntmps8
    go_wp2_with fail
    refine (known_any _ (HT.out.keep ((((Keep.refl _).alloc _).alloc _).alloc _))).mono ?_
    rintro e w1 ⟨rfl, hk1⟩
    have B0_1 : Box w1 w.heap.size #[.bool t, .int .u32 b, .int .u32 p, .int .u32 a, .int .u16 m, .int .u16 y] := (((Box.new _ _ _).alloc _).alloc _).keep hk1
    have B1_1 : Box w1 (w.heap.size + 1) #[.bool tk, .int .u32 bk, .int .u32 pk, .int .u32 ak, .int .u16 mk, .int .u16 yk] := ((Box.new1 _ _ _ _).alloc _).keep hk1
    have B2_1 : Box w1 (w.heap.size + 2) #[.bool to, .int .u32 bo, .int .u32 po, .int .u32 ao, .int .u16 mo, .int .u16 yo] := (Box.new2 _ _ _ _ _).keep hk1
    have c0 := B0_1.cells
    have f0 := B0_1.thawed
    have c1 := B1_1.cells
    have f1 := B1_1.thawed
    have c2 := B2_1.cells
    have f2 := B2_1.thawed
    go_wp2_with fail
    refine (seal_any _ _ _ _ _ _ _ _ _ _ _ _ hb hp ha hm hy hbk hpk hak _).mono ?_
    rintro e w2 ⟨rfl, hk2⟩
    go_wp2_with fail
    go_ret
    exact ⟨rfl, ((((((Keep.refl _).alloc _).alloc _).alloc _).trans hk1).trans hk2).alloc _⟩
end Go.Proofs.YtbeeomdpdmmllaaDoor
