/- ManPGrn, ManPChk: The program's call, grant, and what checkImports, checkGrants ask of each. -/
import Derived.Test.YtbmjnfnekmeegaaGreatDoorGManA
import Derived.Test.YtbmjnfnekmeegaaGreatDoorManPCall
/- The program's call, grant, and what checkImports, checkGrants ask of each. -/
namespace Go.Proofs.YtbmjnfnekmeegaaGreatDoor
set_option linter.unusedVariables false
set_option linter.unusedSimpArgs false
open Go.RowKit
theorem permS_none {p : Int} (h : p = 0 ∨ 3 < p) : permS p = ⟨#[]⟩ := by
  unfold permS; rw [if_neg (by omega), if_neg (by omega), if_neg (by omega)]
theorem permS_some {p : Int} (h0 : 0 ≤ p) (h : ¬ (p = 0 ∨ 3 < p)) : (permS p).toList.isEmpty = false ∧ ¬ (permS p).toList = [] := by
  rcases (by omega : p = 1 ∨ p = 2 ∨ p = 3) with rfl | rfl | rfl <;> (unfold permS bsL; constructor <;> decide +kernel)
set_option maxHeartbeats 4000000 in
set_option maxRecDepth 100000 in
theorem mcall_any (m : ManV) (vc vi vs vg : Value) (i : Nat) (w : World) (h : ManAt w m vc vi vs vg) (hm : ManMay m) (hi : i < m.imps.length) :
    Calls Tryz.prog 149 #[manVal m vc vi vs vg, .int .i64 (i : Int)] w fun e w' => e = .returned (.int .i64 (impE m i)) ∧ Keep w w' := by
  obtain ⟨x, hx⟩ : ∃ x, m.imps[i]? = some x := ⟨_, List.getElem?_eq_getElem hi⟩
  have few := hm.comps
  have fewI := hm.imps
  obtain ⟨z1, z2, z3⟩ := hm.impN x (List.mem_of_getElem? hx)
  rw [impE_at hx]
  have EL := idxF_lt (f := likeI x) m.imps 0 i x hx (by unfold likeI; simp)
  rw [Nat.zero_add] at EL
  have EN := idxL_neg m.comps x.comp
  obtain ⟨tw, htw⟩ : ∃ tw, (m.imps.take i).any (likeI x) = tw := ⟨_, rfl⟩
  obtain ⟨ii, hii⟩ : ∃ ii, idxF (likeI x) m.imps 0 = ii := ⟨_, rfl⟩
  obtain ⟨ix, hix⟩ : ∃ ix, idxL m.comps x.comp 0 = ix := ⟨_, rfl⟩
  obtain ⟨hc, hhc⟩ : ∃ hc, hasC m.comps x.comp = hc := ⟨_, rfl⟩
  obtain ⟨cl, hcl⟩ : ∃ cl, (hasC m.comps x.from_ && goodB x.name) = cl := ⟨_, rfl⟩
  have HM := Lib.hid h
  have CI := Lib.hid (fun W (k : Keep w W) => pindexM_any m vc vi vs vg x.comp W (HM.out.keep k) (by omega))
  have CC := Lib.hid (fun W (k : Keep w W) => mcallable_any m vc vi vs vg x W (HM.out.keep k) (by omega) (by omega))
  rw [hix] at CI EN
  rw [hcl] at CC
  rw [htw, hii] at EL
  rw [hhc] at EN
  have E0 : (!hasC m.comps x.comp || !hasC m.comps x.from_ || !goodB x.name) = (!hc || !cl) := by rw [← hcl, hhc, Bool.not_and, Bool.or_assoc]
  rw [E0, htw]
  clear E0 hhc hcl hix htw
  obtain ⟨r, hr⟩ : ∃ r, r = (if (!hc || !cl) = true then (12 : Int) else if x.from_ = x.comp then 17 else if tw = true then 13 else 0) := ⟨_, rfl⟩
  rw [← hr]
  have HR := Lib.hid hr
  clear hr
  unfold manVal at CI CC ⊢
  unfold impVal at CC
  have HS := h.imps
  obtain ⟨bq, off, cap, e0, hcap, n0⟩ := SlAt.cellOf impRow_length h.imps hx (j := 0) (x := .string x.comp) rfl
  obtain ⟨bq1, off1, cap1, e1, _, n1⟩ := SlAt.cellOf impRow_length h.imps hx (j := 1) (x := .string x.from_) rfl
  obtain ⟨rfl, rfl⟩ : bq = bq1 ∧ off = off1 := by rw [e0] at e1; cases e1; exact ⟨rfl, rfl⟩
  obtain ⟨bq2, off2, cap2, e2, _, n2⟩ := SlAt.cellOf impRow_length h.imps hx (j := 2) (x := .string x.name) rfl
  obtain ⟨rfl, rfl⟩ : bq = bq2 ∧ off = off2 := by rw [e0] at e2; cases e2; exact ⟨rfl, rfl⟩
  rw [Nat.add_zero] at n0
  rw [← Nat.add_assoc] at n1
  rw [← Nat.add_assoc] at n2
  have hil : (i : Int) < (m.imps.length : Int) := by omega
  have i0 : (0 : Int) ≤ (i : Int) := Int.natCast_nonneg _
  subst e0
  have CL := Lib.hid (fun W (k : Keep w W) => pidxI_any m.imps (some ⟨bq, off, none⟩) cap x W (by omega) (HS.keep k))
  rw [hii] at CL
  unfold impVal at CL
  have HN0 := Lib.hid n0
  have HN1 := Lib.hid n1
  have HN2 := Lib.hid n2
  clear e1 e2 h hx hm n0 n1 n2 HS HM hii
  have K00 : Hid (Keep w (w.alloc (.cells #[vc, .slice (some ⟨bq, off, none⟩) m.imps.length cap, vs, vg, .string m.start.comp, .string m.start.from_, .string m.start.name] 29))) := Lib.hid ((Keep.refl _).alloc _)
  have n0 := K00.out.cellOf HN0.out
  have n1 := K00.out.cellOf HN1.out
  have n2 := K00.out.cellOf HN2.out
  obtain ⟨W1, hW1⟩ : ∃ W1, W1 = (w.alloc (.cells #[vc, .slice (some ⟨bq, off, none⟩) m.imps.length cap, vs, vg, .string m.start.comp, .string m.start.from_, .string m.start.name] 29)).alloc (.cells #[.string x.comp, .string x.from_, .string x.name] 27) := ⟨_, rfl⟩
  have KX : Hid (Keep w W1) := Lib.hid (by rw [hW1]; exact K00.out.alloc _)
  have BM : Hid (Box W1 w.heap.size #[vc, .slice (some ⟨bq, off, none⟩) m.imps.length cap, vs, vg, .string m.start.comp, .string m.start.from_, .string m.start.name]) := Lib.hid (by rw [hW1]; exact (Box.new _ _ _).alloc _)
  have BX : Hid (Box W1 (w.heap.size + 1) #[.string x.comp, .string x.from_, .string x.name]) := Lib.hid (by rw [hW1]; exact Box.new1 _ _ _ _)
  go_enter Tryz.func149, Tryz.ntmps149
  go_wp2_with fail
  rw [← hW1]
  clear hW1 n0 n1 n2
  have cm := BM.out.cells
  have cx := BX.out.cells
  clear cm cx
  refine (CI.out _ KX.out).mono ?_
  rintro e w1 ⟨rfl, hk1⟩
  have K1 := Lib.hid (KX.out.trans hk1)
  have BM1 := Lib.hid (BM.out.keep hk1)
  have BX1 := Lib.hid (BX.out.keep hk1)
  clear hk1 BM BX
  have cm := BM1.out.cells
  have cx := BX1.out.cells
  cases hc with
  | false =>
    have E1 : decide (ix < 0) = true := EN
    clear EN
    obtain rfl : r = 12 := HR.out.trans (if_pos rfl)
    go_wp2_with fail
    go_ret
    exact ⟨rfl, K1.out⟩
  | true =>
    have E1 : decide (ix < 0) = false := EN
    clear EN
    go_wp2_with fail
    refine (CC.out _ K1.out).mono ?_
    rintro e w2 ⟨rfl, hk2⟩
    have K2 := Lib.hid (K1.out.trans hk2)
    have BM2 := Lib.hid (BM1.out.keep hk2)
    have BX2 := Lib.hid (BX1.out.keep hk2)
    clear hk2 BM1 BX1 cm cx
    have cm := BM2.out.cells
    have cx := BX2.out.cells
    cases cl with
    | false =>
      obtain rfl : r = 12 := HR.out.trans (if_pos rfl)
      go_wp2_with fail
      go_ret
      exact ⟨rfl, K2.out⟩
    | true =>
      have HR2 := Lib.hid (HR.out.trans (if_neg (show ¬ ((!true || !true) = true) by decide)))
      clear HR
      rcases Bool.eq_false_or_eq_true (x.from_.toList == x.comp.toList) with d | d
      · have d2 := d
        rw [mstr_beq] at d2
        obtain rfl : r = 17 := HR2.out.trans (if_pos (of_decide_eq_true d2))
        clear d2
        go_wp2_with fail
        go_ret
        exact ⟨rfl, K2.out⟩
      · have d2 := d
        rw [mstr_beq] at d2
        have HR3 := Lib.hid (HR2.out.trans (if_neg (of_decide_eq_false d2)))
        clear HR2
        clear d2
        go_wp2_with fail
        refine (CL.out _ K2.out).mono ?_
        rintro e w3 ⟨rfl, hk3⟩
        have K3 := Lib.hid (K2.out.trans hk3)
        clear hk3
        cases tw with
        | true =>
          obtain rfl : r = 13 := HR3.out.trans (if_pos rfl)
          go_wp2_with fail
          go_ret
          exact ⟨rfl, K3.out⟩
        | false =>
          obtain rfl : r = 0 := HR3.out.trans (if_neg (by decide))
          go_wp2_with fail
          go_ret
          exact ⟨rfl, K3.out⟩
set_option maxHeartbeats 4000000 in
set_option maxRecDepth 100000 in
theorem mimpsC_any (m : ManV) (vc vi vs vg : Value) (b i : Nat) (w : World) (hB : Box w b #[vc, vi, vs, vg, .string m.start.comp, .string m.start.from_, .string m.start.name]) (h : ManAt w m vc vi vs vg) (hm : ManMay m) (hi : i < m.imps.length) :
    Calls Tryz.prog 148 #[.int .i64 (i : Int), .pointer (some ⟨b, 0, none⟩)] w fun e w' => e = .returned (.int .i64 (impE m i)) ∧ Keep w w' := by
  have C := Lib.hid (mcall_any m vc vi vs vg i w h hm hi)
  unfold manVal at C
  have c0 := hB.cells
  clear h hm hi hB
  go_enter Tryz.func148, Tryz.ntmps148
  go_wp2_with fail
  refine C.out.mono ?_
  rintro e w1 ⟨rfl, hk⟩
  have HK := Lib.hid hk
  clear hk
  go_wp2_with fail
  go_ret
  exact ⟨rfl, HK.out⟩
theorem mlike_any (c g : GrnV) (b : Nat) (w : World) (hB : Box w b #[.string g.comp, .string g.share, .int .u16 g.perm]) : Calls Tryz.prog 181 #[grnVal c, .pointer (some ⟨b, 0, none⟩)] w fun e w' => e = .returned (.bool (likeG g c)) ∧ Keep w w' := by
  unfold grnVal likeG
  have c1 := fun o => (hB.alloc o).cells
  clear hB
  rw [Bool.decide_and, ← mstr_beq, ← mstr_beq]
  rcases Bool.eq_false_or_eq_true (c.comp.toList == g.comp.toList) with d | d
  · rw [d, Bool.true_and]
    go_enter Tryz.func181, Tryz.ntmps181
    go_wp2_with fail
    go_ret
    exact ⟨rfl, (Keep.refl _).alloc _⟩
  · rw [d, Bool.false_and]
    go_enter Tryz.func181, Tryz.ntmps181
    go_wp2_with fail
    go_ret
    exact ⟨rfl, (Keep.refl _).alloc _⟩
set_option maxHeartbeats 4000000 in
set_option maxRecDepth 100000 in
theorem mgrant_any (m : ManV) (vc vi vs vg : Value) (i : Nat) (w : World) (h : ManAt w m vc vi vs vg) (hm : ManMay m) (hi : i < m.grns.length) :
    Calls Tryz.prog 153 #[manVal m vc vi vs vg, .int .i64 (i : Int)] w fun e w' => e = .returned (.int .i64 (grnE m i)) ∧ Keep w w' := by
  obtain ⟨x, hx⟩ : ∃ x, m.grns[i]? = some x := ⟨_, List.getElem?_eq_getElem hi⟩
  have few := hm.comps
  have fewS := hm.shrs
  have fewG := hm.grns
  obtain ⟨z1, z2, z3, z4⟩ := hm.grnN x (List.mem_of_getElem? hx)
  rw [grnE_at hx]
  have EL := idxF_lt (f := likeG x) m.grns 0 i x hx (by unfold likeG; simp)
  rw [Nat.zero_add] at EL
  have EN := idxL_neg m.comps x.comp
  have ES := idxL_neg m.shrs x.share
  obtain ⟨tw, htw⟩ : ∃ tw, (m.grns.take i).any (likeG x) = tw := ⟨_, rfl⟩
  obtain ⟨ii, hii⟩ : ∃ ii, idxF (likeG x) m.grns 0 = ii := ⟨_, rfl⟩
  obtain ⟨ix, hix⟩ : ∃ ix, idxL m.comps x.comp 0 = ix := ⟨_, rfl⟩
  obtain ⟨iy, hiy⟩ : ∃ iy, idxL m.shrs x.share 0 = iy := ⟨_, rfl⟩
  obtain ⟨hc, hhc⟩ : ∃ hc, hasC m.comps x.comp = hc := ⟨_, rfl⟩
  obtain ⟨hs, hhs⟩ : ∃ hs, hasC m.shrs x.share = hs := ⟨_, rfl⟩
  have HM := Lib.hid h
  have CI := Lib.hid (fun W (k : Keep w W) => pindexM_any m vc vi vs vg x.comp W (HM.out.keep k) (by omega))
  have CC := Lib.hid (fun W (k : Keep w W) => pshareIdx_any m vc vi vs vg x.share W (HM.out.keep k) (by omega))
  have CP := Lib.hid (fun W => mpermWord_any x.perm W)
  rw [hix] at CI EN
  rw [hiy] at CC ES
  rw [htw, hii] at EL
  rw [hhc] at EN ⊢
  rw [hhs] at ES ⊢
  rw [htw]
  clear hhc hhs hix hiy htw
  obtain ⟨r, hr⟩ : ∃ r, r = (if (!hc || !hs) = true then (12 : Int) else if x.perm = 0 ∨ 3 < x.perm then 3 else if tw = true then 13 else 0) := ⟨_, rfl⟩
  rw [← hr]
  have HR := Lib.hid hr
  clear hr
  unfold manVal at CI CC ⊢
  have HS := h.grns
  obtain ⟨bq, off, cap, e0, hcap, n0⟩ := SlAt.cellOf grnRow_length h.grns hx (j := 0) (x := .string x.comp) rfl
  obtain ⟨bq1, off1, cap1, e1, _, n1⟩ := SlAt.cellOf grnRow_length h.grns hx (j := 1) (x := .string x.share) rfl
  obtain ⟨rfl, rfl⟩ : bq = bq1 ∧ off = off1 := by rw [e0] at e1; cases e1; exact ⟨rfl, rfl⟩
  obtain ⟨bq2, off2, cap2, e2, _, n2⟩ := SlAt.cellOf grnRow_length h.grns hx (j := 2) (x := .int .u16 x.perm) rfl
  obtain ⟨rfl, rfl⟩ : bq = bq2 ∧ off = off2 := by rw [e0] at e2; cases e2; exact ⟨rfl, rfl⟩
  rw [Nat.add_zero] at n0
  rw [← Nat.add_assoc] at n1
  rw [← Nat.add_assoc] at n2
  have hil : (i : Int) < (m.grns.length : Int) := by omega
  have i0 : (0 : Int) ≤ (i : Int) := Int.natCast_nonneg _
  subst e0
  have CL := Lib.hid (fun b W (k : Keep w W) (hB : Box W b #[.string x.comp, .string x.share, .int .u16 x.perm]) => pidxG_any m.grns (some ⟨bq, off, none⟩) cap 181 (.pointer (some ⟨b, 0, none⟩)) (likeG x) W (by omega) (HS.keep k) (enters_of Tryz.func181 (by kernel_rfl) rfl) (fun c W2 _ hk => mlike_any c x b W2 (hB.keep hk)))
  rw [hii] at CL
  have HN0 := Lib.hid n0
  have HN1 := Lib.hid n1
  have HN2 := Lib.hid n2
  clear e1 e2 h hx hm n0 n1 n2 HS HM hii
  have K00 : Hid (Keep w (w.alloc (.cells #[vc, vi, vs, .slice (some ⟨bq, off, none⟩) m.grns.length cap, .string m.start.comp, .string m.start.from_, .string m.start.name] 29))) := Lib.hid ((Keep.refl _).alloc _)
  have n0 := K00.out.cellOf HN0.out
  have n1 := K00.out.cellOf HN1.out
  have n2 := K00.out.cellOf HN2.out
  obtain ⟨W1, hW1⟩ : ∃ W1, W1 = (w.alloc (.cells #[vc, vi, vs, .slice (some ⟨bq, off, none⟩) m.grns.length cap, .string m.start.comp, .string m.start.from_, .string m.start.name] 29)).alloc (.cells #[.string x.comp, .string x.share, .int .u16 x.perm] 94) := ⟨_, rfl⟩
  have KX : Hid (Keep w W1) := Lib.hid (by rw [hW1]; exact K00.out.alloc _)
  have BM : Hid (Box W1 w.heap.size #[vc, vi, vs, .slice (some ⟨bq, off, none⟩) m.grns.length cap, .string m.start.comp, .string m.start.from_, .string m.start.name]) := Lib.hid (by rw [hW1]; exact (Box.new _ _ _).alloc _)
  have BX : Hid (Box W1 (w.heap.size + 1) #[.string x.comp, .string x.share, .int .u16 x.perm]) := Lib.hid (by rw [hW1]; exact Box.new1 _ _ _ _)
  go_enter Tryz.func153, Tryz.ntmps153
  go_wp2_with fail
  rw [← hW1]
  clear hW1 n0 n1 n2
  refine (CI.out _ KX.out).mono ?_
  rintro e w1 ⟨rfl, hk1⟩
  have K1 := Lib.hid (KX.out.trans hk1)
  have BM1 := Lib.hid (BM.out.keep hk1)
  have BX1 := Lib.hid (BX.out.keep hk1)
  clear hk1 BM BX
  have cm := BM1.out.cells
  have cx := BX1.out.cells
  cases hc with
  | false =>
    have E1 : decide (ix < 0) = true := EN
    clear EN
    obtain rfl : r = 12 := HR.out.trans (if_pos rfl)
    go_wp2_with fail
    go_ret
    exact ⟨rfl, K1.out⟩
  | true =>
    have E1 : decide (ix < 0) = false := EN
    clear EN
    go_wp2_with fail
    refine (CC.out _ K1.out).mono ?_
    rintro e w2 ⟨rfl, hk2⟩
    have K2 := Lib.hid (K1.out.trans hk2)
    have BM2 := Lib.hid (BM1.out.keep hk2)
    have BX2 := Lib.hid (BX1.out.keep hk2)
    clear hk2 BM1 BX1 cm cx
    have cm := BM2.out.cells
    have cx := BX2.out.cells
    cases hs with
    | false =>
      have E2 : decide (iy < 0) = true := ES
      clear ES
      obtain rfl : r = 12 := HR.out.trans (if_pos rfl)
      go_wp2_with fail
      go_ret
      exact ⟨rfl, K2.out⟩
    | true =>
      have E2 : decide (iy < 0) = false := ES
      clear ES
      have HR2 := Lib.hid (HR.out.trans (if_neg (show ¬ ((!true || !true) = true) by decide)))
      clear HR
      by_cases hp : x.perm = 0 ∨ 3 < x.perm
      · obtain rfl : r = 3 := HR2.out.trans (if_pos hp)
        rw [permS_none hp] at CP
        clear hp
        go_wp2_with ((with_reducible refine (CP.out _).mono ?_); rintro e w' ⟨rfl, rfl⟩)
        go_ret
        exact ⟨rfl, K2.out⟩
      · have HR3 := Lib.hid (HR2.out.trans (if_neg hp))
        clear HR2
        obtain ⟨p1, p2⟩ := permS_some z3 hp
        obtain ⟨ps, hps⟩ : ∃ ps, permS x.perm = ps := ⟨_, rfl⟩
        rw [hps] at CP p1 p2
        clear hp hps
        go_wp2_with ((with_reducible refine (CP.out _).mono ?_); rintro e w' ⟨rfl, rfl⟩)
        refine (CL.out _ _ K2.out BX2.out).mono ?_
        rintro e w3 ⟨rfl, hk3⟩
        have K3 := Lib.hid (K2.out.trans hk3)
        clear hk3
        cases tw with
        | true =>
          obtain rfl : r = 13 := HR3.out.trans (if_pos rfl)
          go_wp2_with fail
          go_ret
          exact ⟨rfl, K3.out⟩
        | false =>
          obtain rfl : r = 0 := HR3.out.trans (if_neg (by decide))
          go_wp2_with fail
          go_ret
          exact ⟨rfl, K3.out⟩
set_option maxHeartbeats 4000000 in
set_option maxRecDepth 100000 in
theorem mgrnsC_any (m : ManV) (vc vi vs vg : Value) (b i : Nat) (w : World) (hB : Box w b #[vc, vi, vs, vg, .string m.start.comp, .string m.start.from_, .string m.start.name]) (h : ManAt w m vc vi vs vg) (hm : ManMay m) (hi : i < m.grns.length) :
    Calls Tryz.prog 152 #[.int .i64 (i : Int), .pointer (some ⟨b, 0, none⟩)] w fun e w' => e = .returned (.int .i64 (grnE m i)) ∧ Keep w w' := by
  have C := Lib.hid (mgrant_any m vc vi vs vg i w h hm hi)
  unfold manVal at C
  have c0 := hB.cells
  clear h hm hi hB
  go_enter Tryz.func152, Tryz.ntmps152
  go_wp2_with fail
  refine C.out.mono ?_
  rintro e w1 ⟨rfl, hk⟩
  have HK := Lib.hid hk
  clear hk
  go_wp2_with fail
  go_ret
  exact ⟨rfl, HK.out⟩
end Go.Proofs.YtbmjnfnekmeegaaGreatDoor

/- The program's list, the five parts, Check. -/
namespace Go.Proofs.YtbmjnfnekmeegaaGreatDoor
set_option linter.unusedVariables false
set_option linter.unusedSimpArgs false
open Go.RowKit
/-- What a check answers. -/
def MChk (w : World) (x : WrV) (e : Ending) (w' : World) : Prop := ∃ v, e = .returned v ∧ OErr w' v x ∧ Keep w w'
theorem MChk.nil {w w' : World} (k : Keep w w') : MChk w okW (.returned .nilIface) w' := ⟨_, rfl, .isOk, k⟩
theorem MChk.bad {w w' : World} {part : ByteArray} {a n : Int} {q : Nat} (hn : n ≠ 0) (hB : Box w' q #[.string part, .int .i64 a, .iface 139 (.int .i64 n)]) (k : Keep w w') : MChk w (part, a, n) (.returned (faultP q)) w' := ⟨_, rfl, .inr ⟨q, part, a, n, hn, rfl, rfl, hB⟩, k⟩
set_option maxHeartbeats 4000000 in
set_option maxRecDepth 100000 in
theorem mlist_any (one all : ByteArray) (most n : Nat) (hall : one ++ ⟨#[115]⟩ = all) (hs : one.size ≤ 100) (few : n ≤ 1000000) (few2 : most ≤ 1000000) (g : FuncId) (cap : Value) (f : Nat → Int) (w : World) (he : ∀ args w, (callFunc g args).run Tryz.prog w = .ok (.enter g args) w)
    (hc : ∀ (i : Nat) (W : World), i < n → Keep w W → Calls Tryz.prog g #[.int .i64 (i : Int), cap] W fun e w' => e = .returned (.int .i64 (f i)) ∧ Keep W w') :
    Calls Tryz.prog 145 #[.string one, .int .i64 (n : Int), .int .i64 (most : Int), .func (.func g) #[] #[cap]] w (MChk w (lstM all one most n f)) := by
  have HC := Lib.hid hc
  clear hc
  by_cases hl : most < n
  · have hli : decide ((most : Int) < (n : Int)) = true := decide_eq_true (by omega)
    rw [lstM_long hl]
    subst hall
    go_enter Tryz.func145, Tryz.ntmps145
    go_wp2_with fail
    refine (mfault_any _ _ _ _).mono ?_
    rintro e w1 ⟨q, rfl, _, hB, hk⟩
    have HB := Lib.hid hB
    have HK := Lib.hid hk
    clear hB hk
    unfold faultP
    go_wp2_with fail
    go_ret
    exact MChk.bad (by decide) HB.out HK.out
  have hli : decide ((most : Int) < (n : Int)) = false := decide_eq_false (by omega)
  have hln : decide (most < n) = false := decide_eq_false hl
  have HL := Lib.hid hl
  clear hl hall
  go_enter Tryz.func145, Tryz.ntmps145
  go_wp2_with fail
  go_loopw [9, 10, 19] (fun _ _ i wr => ∃ k : Nat, k ≤ n ∧ i = .int .i64 (k : Int) ∧ firstE f n 0 = firstE f (n - k) k ∧ Keep w wr) (fun _ _ i _ => n - (intOf i).toNat)
  case atStart => exact ⟨0, Nat.zero_le _, rfl, rfl, Keep.refl _⟩
  case round =>
    obtain ⟨k, hk, rfl, hfi, hK⟩ := hrel
    have HFI := Lib.hid hfi
    have HK := Lib.hid hK
    clear hfi hK
    by_cases hlt : k < n
    · have hki : (k : Int) < (n : Int) := by omega
      have CC := Lib.hid (HC.out k wr hlt HK.out)
      obtain ⟨se, hse⟩ : ∃ se, f k = se := ⟨_, rfl⟩
      rw [hse] at CC
      have HSE := Lib.hid hse
      clear hse
      by_cases z : se = 0
      · subst z
        have HN2 := Lib.hid (HFI.out.trans (first_go hlt HSE.out))
        go_wp2_with fail
        go_at_fn g
        refine CC.out.mono ?_
        rintro e w2 ⟨rfl, hk2⟩
        have HK2 := Lib.hid (HK.out.trans hk2)
        clear hk2
        go_wp2_with fail
        go_roundw
        case rel => exact ⟨k + 1, hlt, by go_num, HN2.out, HK2.out⟩
        case measure => simp [intOf]; omega
      · have Z := Lib.hid z
        have zz : (se != 0) = true := by simpa using z
        have HH := Lib.hid (HFI.out.trans (first_hit hlt (by rw [HSE.out]; exact z)))
        go_wp2_with fail
        go_at_fn g
        refine CC.out.mono ?_
        rintro e w2 ⟨rfl, hk2⟩
        have HK2 := Lib.hid (HK.out.trans hk2)
        clear hk2
        go_wp2_with fail
        refine (mfault_any _ _ _ _).mono ?_
        rintro e w3 ⟨q, rfl, _, hB, hk3⟩
        have HK3 := Lib.hid (HK2.out.trans hk3)
        have HB := Lib.hid hB
        clear hk3 hB
        unfold faultP
        go_wp2_with fail
        go_ret
        rw [lstM_hit HL.out HH.out, HSE.out]
        exact MChk.bad Z.out HB.out HK3.out
    · obtain rfl : k = n := by omega
      have HS0 : Hid (firstE f k 0 = none) := Lib.hid (by rw [HFI.out, Nat.sub_self]; rfl)
      go_wp2_with fail
      go_ret
      rw [lstM_none HL.out HS0.out]
      exact MChk.nil HK.out
/-! ### The five parts -/
section
variable (m : ManV) (vc vi vs vg : Value) (w : World)
set_option maxHeartbeats 4000000 in
set_option maxRecDepth 100000 in
theorem mcheckComps_any (h : ManAt w m vc vi vs vg) (hm : ManMay m) : Calls Tryz.prog 106 #[manVal m vc vi vs vg] w (MChk w (mCompsW m)) := by
  have HO := Lib.hid h
  obtain ⟨pq, cq, rfl, _, _, _⟩ := h.comps
  have few := hm.comps
  unfold manVal mCompsW
  have K0 : Hid (Keep w (w.alloc (.cells #[.slice pq m.comps.length cq, vi, vs, vg, .string m.start.comp, .string m.start.from_, .string m.start.name] 29))) := Lib.hid ((Keep.refl _).alloc _)
  have B1 : Hid (Box (w.alloc (.cells #[.slice pq m.comps.length cq, vi, vs, vg, .string m.start.comp, .string m.start.from_, .string m.start.name] 29)) w.heap.size #[.slice pq m.comps.length cq, vi, vs, vg, .string m.start.comp, .string m.start.from_, .string m.start.name]) := Lib.hid (Box.new _ _ _)
  have CL := Lib.hid (mlist_any compT compsT 8 m.comps.length (by decide +kernel) (by decide +kernel) (by omega) (by decide) 146 (.pointer (some ⟨w.heap.size, 0, none⟩)) (sizedAt m.comps) _ (enters_of Tryz.func146 (by kernel_rfl) rfl) (fun i W hi hk => mcompsC_any m _ _ _ _ w.heap.size i W (B1.out.keep hk) (HO.out.keep (K0.out.trans hk)) hm hi))
  have e1 : compT = ⟨#[99,111,109,112]⟩ := rfl
  rw [e1] at CL
  rw [← e1] at CL
  clear e1
  by_cases h0 : m.comps.length = 0
  · have q0 : ((m.comps.length : Int) == 0) = true := by simp [h0]
    rw [if_pos h0]
    clear h hm CL h0
    go_enter Tryz.func106, Tryz.ntmps106
    go_wp2_with fail
    refine (mfault_any _ _ _ _).mono ?_
    rintro e w1 ⟨q, rfl, _, hB, hk⟩
    have HB := Lib.hid hB
    have HK := Lib.hid (K0.out.trans hk)
    clear hB hk
    unfold faultP
    go_wp2_with fail
    go_ret
    exact MChk.bad (by decide) HB.out HK.out
  have q0 : ((m.comps.length : Int) == 0) = false := beq_eq_false_iff_ne.2 (by omega)
  rw [if_neg h0]
  clear h0
  clear h hm
  go_enter Tryz.func106, Tryz.ntmps106
  go_wp2_with fail
  refine CL.out.mono ?_
  rintro e w1 ⟨v, rfl, hv, hk⟩
  have HV := Lib.hid hv
  have HK := Lib.hid (K0.out.trans hk)
  clear hv hk CL
  go_wp2_with fail
  go_ret
  exact ⟨v, rfl, HV.out, HK.out⟩
set_option maxHeartbeats 4000000 in
set_option maxRecDepth 100000 in
theorem mcheckImports_any (h : ManAt w m vc vi vs vg) (hm : ManMay m) : Calls Tryz.prog 107 #[manVal m vc vi vs vg] w (MChk w (mImpsW m)) := by
  have HO := Lib.hid h
  obtain ⟨pq, cq, rfl, _, _, _⟩ := h.imps
  have few := hm.imps
  unfold manVal mImpsW
  have K0 : Hid (Keep w (w.alloc (.cells #[vc, .slice pq m.imps.length cq, vs, vg, .string m.start.comp, .string m.start.from_, .string m.start.name] 29))) := Lib.hid ((Keep.refl _).alloc _)
  have B1 : Hid (Box (w.alloc (.cells #[vc, .slice pq m.imps.length cq, vs, vg, .string m.start.comp, .string m.start.from_, .string m.start.name] 29)) w.heap.size #[vc, .slice pq m.imps.length cq, vs, vg, .string m.start.comp, .string m.start.from_, .string m.start.name]) := Lib.hid (Box.new _ _ _)
  have CL := Lib.hid (mlist_any importT importsT 64 m.imps.length (by decide +kernel) (by decide +kernel) (by omega) (by decide) 148 (.pointer (some ⟨w.heap.size, 0, none⟩)) (impE m) _ (enters_of Tryz.func148 (by kernel_rfl) rfl) (fun i W hi hk => mimpsC_any m _ _ _ _ w.heap.size i W (B1.out.keep hk) (HO.out.keep (K0.out.trans hk)) hm hi))
  have e1 : importT = ⟨#[105,109,112,111,114,116]⟩ := rfl
  rw [e1] at CL
  clear h hm
  go_enter Tryz.func107, Tryz.ntmps107
  go_wp2_with fail
  refine CL.out.mono ?_
  rintro e w1 ⟨v, rfl, hv, hk⟩
  have HV := Lib.hid hv
  have HK := Lib.hid (K0.out.trans hk)
  clear hv hk CL
  go_wp2_with fail
  go_ret
  exact ⟨v, rfl, HV.out, HK.out⟩
set_option maxHeartbeats 4000000 in
set_option maxRecDepth 100000 in
theorem mcheckShares_any (h : ManAt w m vc vi vs vg) (hm : ManMay m) : Calls Tryz.prog 108 #[manVal m vc vi vs vg] w (MChk w (mShrsW m)) := by
  have HO := Lib.hid h
  obtain ⟨pq, cq, rfl, _, _, _⟩ := h.shrs
  have few := hm.shrs
  unfold manVal mShrsW
  have K0 : Hid (Keep w (w.alloc (.cells #[vc, vi, .slice pq m.shrs.length cq, vg, .string m.start.comp, .string m.start.from_, .string m.start.name] 29))) := Lib.hid ((Keep.refl _).alloc _)
  have B1 : Hid (Box (w.alloc (.cells #[vc, vi, .slice pq m.shrs.length cq, vg, .string m.start.comp, .string m.start.from_, .string m.start.name] 29)) w.heap.size #[vc, vi, .slice pq m.shrs.length cq, vg, .string m.start.comp, .string m.start.from_, .string m.start.name]) := Lib.hid (Box.new _ _ _)
  have CL := Lib.hid (mlist_any shareT msharesT 8 m.shrs.length (by decide +kernel) (by decide +kernel) (by omega) (by decide) 150 (.pointer (some ⟨w.heap.size, 0, none⟩)) (sizedAt m.shrs) _ (enters_of Tryz.func150 (by kernel_rfl) rfl) (fun i W hi hk => msharesC_any m _ _ _ _ w.heap.size i W (B1.out.keep hk) (HO.out.keep (K0.out.trans hk)) hm hi))
  have e1 : shareT = ⟨#[115,104,97,114,101]⟩ := rfl
  rw [e1] at CL
  clear h hm
  go_enter Tryz.func108, Tryz.ntmps108
  go_wp2_with fail
  refine CL.out.mono ?_
  rintro e w1 ⟨v, rfl, hv, hk⟩
  have HV := Lib.hid hv
  have HK := Lib.hid (K0.out.trans hk)
  clear hv hk CL
  go_wp2_with fail
  go_ret
  exact ⟨v, rfl, HV.out, HK.out⟩
set_option maxHeartbeats 4000000 in
set_option maxRecDepth 100000 in
theorem mcheckGrants_any (h : ManAt w m vc vi vs vg) (hm : ManMay m) : Calls Tryz.prog 109 #[manVal m vc vi vs vg] w (MChk w (mGrnsW m)) := by
  have HO := Lib.hid h
  obtain ⟨pq, cq, rfl, _, _, _⟩ := h.grns
  have few := hm.grns
  unfold manVal mGrnsW
  have K0 : Hid (Keep w (w.alloc (.cells #[vc, vi, vs, .slice pq m.grns.length cq, .string m.start.comp, .string m.start.from_, .string m.start.name] 29))) := Lib.hid ((Keep.refl _).alloc _)
  have B1 : Hid (Box (w.alloc (.cells #[vc, vi, vs, .slice pq m.grns.length cq, .string m.start.comp, .string m.start.from_, .string m.start.name] 29)) w.heap.size #[vc, vi, vs, .slice pq m.grns.length cq, .string m.start.comp, .string m.start.from_, .string m.start.name]) := Lib.hid (Box.new _ _ _)
  have CL := Lib.hid (mlist_any grantT grantsT 64 m.grns.length (by decide +kernel) (by decide +kernel) (by omega) (by decide) 152 (.pointer (some ⟨w.heap.size, 0, none⟩)) (grnE m) _ (enters_of Tryz.func152 (by kernel_rfl) rfl) (fun i W hi hk => mgrnsC_any m _ _ _ _ w.heap.size i W (B1.out.keep hk) (HO.out.keep (K0.out.trans hk)) hm hi))
  have e1 : grantT = ⟨#[103,114,97,110,116]⟩ := rfl
  rw [e1] at CL
  clear h hm
  go_enter Tryz.func109, Tryz.ntmps109
  go_wp2_with fail
  refine CL.out.mono ?_
  rintro e w1 ⟨v, rfl, hv, hk⟩
  have HV := Lib.hid hv
  have HK := Lib.hid (K0.out.trans hk)
  clear hv hk CL
  go_wp2_with fail
  go_ret
  exact ⟨v, rfl, HV.out, HK.out⟩
set_option maxHeartbeats 4000000 in
set_option maxRecDepth 100000 in
theorem mcheckStart_any (h : ManAt w m vc vi vs vg) (hm : ManMay m) : Calls Tryz.prog 110 #[manVal m vc vi vs vg] w (MChk w (mStartW m)) := by
  have few := hm.comps
  have hsn := hm.startN
  obtain ⟨cl, hcl⟩ : ∃ cl, (hasC m.comps m.start.from_ && goodB m.start.name) = cl := ⟨_, rfl⟩
  have K0 : Hid (Keep w (w.alloc (.cells #[vc, vi, vs, vg, .string m.start.comp, .string m.start.from_, .string m.start.name] 29))) := Lib.hid ((Keep.refl _).alloc _)
  have B1 : Hid (Box (w.alloc (.cells #[vc, vi, vs, vg, .string m.start.comp, .string m.start.from_, .string m.start.name] 29)) w.heap.size #[vc, vi, vs, vg, .string m.start.comp, .string m.start.from_, .string m.start.name]) := Lib.hid (Box.new _ _ _)
  have CC := Lib.hid (mcallable_any m vc vi vs vg m.start _ (h.keep K0.out) (by omega) (by omega))
  rw [hcl] at CC
  obtain ⟨r, hr⟩ : ∃ r, r = mStartW m := ⟨_, rfl⟩
  rw [← hr]
  unfold mStartW at hr
  rw [hcl] at hr
  have HR := Lib.hid hr
  unfold manVal impVal at CC
  unfold manVal
  clear h hm hcl hr few hsn
  go_enter Tryz.func110, Tryz.ntmps110
  go_wp2_with fail
  refine CC.out.mono ?_
  rintro e w1 ⟨rfl, hk⟩
  have cm := (B1.out.keep hk).cells
  have HK := Lib.hid (K0.out.trans hk)
  clear hk CC
  cases cl with
  | false =>
    obtain rfl : r = (mstartT, 0, 12) := HR.out.trans (if_pos rfl)
    go_wp2_with fail
    refine (mfault_any _ _ _ _).mono ?_
    rintro e w2 ⟨q, rfl, _, hB, hk⟩
    have HB := Lib.hid hB
    have HK2 := Lib.hid (HK.out.trans hk)
    clear hB hk
    unfold faultP
    go_wp2_with fail
    go_ret
    exact MChk.bad (by decide) HB.out HK2.out
  | true =>
    have HR2 := Lib.hid (HR.out.trans (if_neg (show ¬ ((!true) = true) by decide)))
    clear HR
    by_cases ce : m.start.comp.toList = []
    · have e0 : m.start.comp = ⟨#[]⟩ := by
        apply ByteArray.ext
        apply Array.ext'
        rw [← ByteArray.toList_eq]; exact ce
      obtain rfl : r = okW := HR2.out.trans (if_neg (fun x => x e0))
      have ce2 : m.start.comp.toList.isEmpty = true := by rw [ce]; rfl
      clear e0
      go_wp2_with fail
      go_ret
      exact MChk.nil HK.out
    · have ce2 : m.start.comp.toList.isEmpty = false := by
        cases h : m.start.comp.toList with
        | nil => exact absurd h ce
        | cons a l => rfl
      obtain rfl : r = (mstartT, 0, 17) := HR2.out.trans (if_pos (by rintro h; apply ce; rw [h, ByteArray.toList_eq]))
      go_wp2_with fail
      refine (mfault_any _ _ _ _).mono ?_
      rintro e w2 ⟨q, rfl, _, hB, hk⟩
      have HB := Lib.hid hB
      have HK2 := Lib.hid (HK.out.trans hk)
      clear hB hk
      unfold faultP
      go_wp2_with fail
      go_ret
      exact MChk.bad (by decide) HB.out HK2.out
end
theorem mOErr_ok {w : World} {u : Value} {x : WrV} (h : OErr w u x) (hx : x.2.2 = 0) : u = .nilIface := by
  rcases h with ⟨_, h⟩ | ⟨q, p, a, n, hn, he, h, hB⟩
  · exact h
  · exfalso
    apply hn
    unfold wrVal wrongV at he
    simp at he
    rw [← he.2.2]; exact hx
theorem mOErr_box {w : World} {u : Value} {x : WrV} (h : OErr w u x) (hx : x.2.2 ≠ 0) : ∃ q, u = faultP q ∧ Box w q #[.string x.1, .int .i64 x.2.1, .iface 139 (.int .i64 x.2.2)] := by
  rcases h with ⟨h, _⟩ | ⟨q, p, a, n, hn, he, h, hB⟩
  · exfalso
    apply hx
    unfold wrVal okV wrongV at h
    simp at h
    exact h.2.2
  · unfold wrVal wrongV at he
    simp at he
    obtain ⟨rfl, rfl, rfl⟩ := he
    exact ⟨q, h, hB⟩
set_option maxHeartbeats 4000000 in
set_option maxRecDepth 100000 in
theorem mcheck_any (m : ManV) (vc vi vs vg : Value) (w : World) (h : ManAt w m vc vi vs vg) (hm : ManMay m) :
    Calls Tryz.prog 56 #[manVal m vc vi vs vg] w (MChk w (manW m)) := by
  have HO := Lib.hid h
  have C0 := Lib.hid (fun W (k : Keep w W) => mcheckComps_any m vc vi vs vg W (HO.out.keep k) hm)
  have C1 := Lib.hid (fun W (k : Keep w W) => mcheckImports_any m vc vi vs vg W (HO.out.keep k) hm)
  have C2 := Lib.hid (fun W (k : Keep w W) => mcheckShares_any m vc vi vs vg W (HO.out.keep k) hm)
  have C3 := Lib.hid (fun W (k : Keep w W) => mcheckGrants_any m vc vi vs vg W (HO.out.keep k) hm)
  have C4 := Lib.hid (fun W (k : Keep w W) => mcheckStart_any m vc vi vs vg W (HO.out.keep k) hm)
  have OW := Lib.hid (manW_parts m)
  unfold manVal at C0 C1 C2 C3 C4 ⊢
  obtain ⟨W1, hW1⟩ : ∃ W1, W1 = (w.alloc (.cells #[vc, vi, vs, vg, .string m.start.comp, .string m.start.from_, .string m.start.name] 29)).alloc (.cells #[.func (.func 106) #[] #[], .func (.func 107) #[] #[], .func (.func 108) #[] #[], .func (.func 109) #[] #[], .func (.func 110) #[] #[]] 140) := ⟨_, rfl⟩
  have K0 : Hid (Keep w W1) := Lib.hid (by rw [hW1]; exact ((Keep.refl _).alloc _).alloc _)
  have BO : Hid (Box W1 w.heap.size #[vc, vi, vs, vg, .string m.start.comp, .string m.start.from_, .string m.start.name]) := Lib.hid (by rw [hW1]; exact (Box.new _ _ _).alloc _)
  have BL : Hid (Box W1 (w.heap.size + 1) #[.func (.func 106) #[] #[], .func (.func 107) #[] #[], .func (.func 108) #[] #[], .func (.func 109) #[] #[], .func (.func 110) #[] #[]]) := Lib.hid (by rw [hW1]; exact Box.new1 _ _ _ _)
  have KK : Hid (Keep W1 W1) := Lib.hid (Keep.refl _)
  clear h hm HO
  go_enter Tryz.func56, Tryz.ntmps56
  go_wp2_with fail
  rw [← hW1]
  clear hW1
  have co0 := BO.out.cells
  have cl0 := BL.out.cells
  refine wp_loop_rounds 6 ?_
  rw [rounds_succ]
  go_wp2_with fail
  refine (C0.out _ (K0.out.trans KK.out)).mono ?_
  rintro e w1 ⟨v, rfl, hv, hk⟩
  clear co0 cl0
  by_cases z : (mCompsW m).2.2 = 0
  rotate_left
  · obtain ⟨q, rfl, hB⟩ := mOErr_box hv z
    have EQ : Hid (manW m = mCompsW m) := Lib.hid (by
      rw [OW.out]
      exact orM_not z
      )
    have HV := Lib.hid hv
    have K2 := Lib.hid (K0.out.trans (KK.out.trans hk))
    clear hv hB hk z
    unfold faultP
    go_wp2_with fail
    go_ret
    refine ⟨_, rfl, ?_, K2.out⟩
    rw [EQ.out]
    exact HV.out
  obtain rfl : v = .nilIface := mOErr_ok hv z
  have Z0 := Lib.hid z
  have KK0 := Lib.hid (KK.out.trans hk)
  clear hv hk z KK
  have KK := Lib.hid KK0.out
  have co0 := (BO.out.keep KK.out).cells
  have cl0 := (BL.out.keep KK.out).cells
  clear KK0
  go_wp2_with fail
  rw [rounds_succ]
  go_wp2_with fail
  refine (C1.out _ (K0.out.trans KK.out)).mono ?_
  rintro e w2 ⟨v, rfl, hv, hk⟩
  clear co0 cl0
  by_cases z : (mImpsW m).2.2 = 0
  rotate_left
  · obtain ⟨q, rfl, hB⟩ := mOErr_box hv z
    have EQ : Hid (manW m = mImpsW m) := Lib.hid (by
      rw [OW.out]
      rw [orM_zero Z0.out]
      exact orM_not z
      )
    have HV := Lib.hid hv
    have K2 := Lib.hid (K0.out.trans (KK.out.trans hk))
    clear hv hB hk z
    unfold faultP
    go_wp2_with fail
    go_ret
    refine ⟨_, rfl, ?_, K2.out⟩
    rw [EQ.out]
    exact HV.out
  obtain rfl : v = .nilIface := mOErr_ok hv z
  have Z1 := Lib.hid z
  have KK1 := Lib.hid (KK.out.trans hk)
  clear hv hk z KK
  have KK := Lib.hid KK1.out
  have co0 := (BO.out.keep KK.out).cells
  have cl0 := (BL.out.keep KK.out).cells
  clear KK1
  go_wp2_with fail
  rw [rounds_succ]
  go_wp2_with fail
  refine (C2.out _ (K0.out.trans KK.out)).mono ?_
  rintro e w3 ⟨v, rfl, hv, hk⟩
  clear co0 cl0
  by_cases z : (mShrsW m).2.2 = 0
  rotate_left
  · obtain ⟨q, rfl, hB⟩ := mOErr_box hv z
    have EQ : Hid (manW m = mShrsW m) := Lib.hid (by
      rw [OW.out]
      rw [orM_zero Z0.out]
      rw [orM_zero Z1.out]
      exact orM_not z
      )
    have HV := Lib.hid hv
    have K2 := Lib.hid (K0.out.trans (KK.out.trans hk))
    clear hv hB hk z
    unfold faultP
    go_wp2_with fail
    go_ret
    refine ⟨_, rfl, ?_, K2.out⟩
    rw [EQ.out]
    exact HV.out
  obtain rfl : v = .nilIface := mOErr_ok hv z
  have Z2 := Lib.hid z
  have KK2 := Lib.hid (KK.out.trans hk)
  clear hv hk z KK
  have KK := Lib.hid KK2.out
  have co0 := (BO.out.keep KK.out).cells
  have cl0 := (BL.out.keep KK.out).cells
  clear KK2
  go_wp2_with fail
  rw [rounds_succ]
  go_wp2_with fail
  refine (C3.out _ (K0.out.trans KK.out)).mono ?_
  rintro e w4 ⟨v, rfl, hv, hk⟩
  clear co0 cl0
  by_cases z : (mGrnsW m).2.2 = 0
  rotate_left
  · obtain ⟨q, rfl, hB⟩ := mOErr_box hv z
    have EQ : Hid (manW m = mGrnsW m) := Lib.hid (by
      rw [OW.out]
      rw [orM_zero Z0.out]
      rw [orM_zero Z1.out]
      rw [orM_zero Z2.out]
      exact orM_not z
      )
    have HV := Lib.hid hv
    have K2 := Lib.hid (K0.out.trans (KK.out.trans hk))
    clear hv hB hk z
    unfold faultP
    go_wp2_with fail
    go_ret
    refine ⟨_, rfl, ?_, K2.out⟩
    rw [EQ.out]
    exact HV.out
  obtain rfl : v = .nilIface := mOErr_ok hv z
  have Z3 := Lib.hid z
  have KK3 := Lib.hid (KK.out.trans hk)
  clear hv hk z KK
  have KK := Lib.hid KK3.out
  have co0 := (BO.out.keep KK.out).cells
  have cl0 := (BL.out.keep KK.out).cells
  clear KK3
  go_wp2_with fail
  rw [rounds_succ]
  go_wp2_with fail
  refine (C4.out _ (K0.out.trans KK.out)).mono ?_
  rintro e w5 ⟨v, rfl, hv, hk⟩
  clear co0 cl0
  by_cases z : (mStartW m).2.2 = 0
  rotate_left
  · obtain ⟨q, rfl, hB⟩ := mOErr_box hv z
    have EQ : Hid (manW m = mStartW m) := Lib.hid (by
      rw [OW.out]
      rw [orM_zero Z0.out]
      rw [orM_zero Z1.out]
      rw [orM_zero Z2.out]
      rw [orM_zero Z3.out]
      )
    have HV := Lib.hid hv
    have K2 := Lib.hid (K0.out.trans (KK.out.trans hk))
    clear hv hB hk z
    unfold faultP
    go_wp2_with fail
    go_ret
    refine ⟨_, rfl, ?_, K2.out⟩
    rw [EQ.out]
    exact HV.out
  obtain rfl : v = .nilIface := mOErr_ok hv z
  have Z4 := Lib.hid z
  have KK4 := Lib.hid (KK.out.trans hk)
  clear hv hk z KK
  have KK := Lib.hid KK4.out
  have co0 := (BO.out.keep KK.out).cells
  have cl0 := (BL.out.keep KK.out).cells
  clear KK4
  go_wp2_with fail
  rw [rounds_succ]
  go_wp2_with fail
  go_ret
  refine ⟨_, rfl, ?_, K0.out.trans KK.out⟩
  rw [OW.out, orM_zero Z0.out, orM_zero Z1.out, orM_zero Z2.out, orM_zero Z3.out, mStartW_ok Z4.out]
  exact .isOk
theorem mCheck {Pre : World → Prop} : PManCheck Pre := fun m vc vi vs vg w h hm _ => (mcheck_any m vc vi vs vg w h hm).mono fun _ _ ⟨v, h1, h2, h3⟩ => ⟨h3, v, h1, h2⟩
theorem mIndex : PManIndex := fun m vc vi vs vg n w h hm _ => pindexM_any m vc vi vs vg n w h (by have := hm.comps; omega)
end Go.Proofs.YtbmjnfnekmeegaaGreatDoor
