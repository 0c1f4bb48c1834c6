/- The program's call, grant, and what checkImports, checkGrants ask of each. -/
import Derived.Test.YteddflbidafebaaGreatDoorManPCall
namespace Go.Proofs.YteddflbidafebaaGreatDoor
set_option linter.unusedVariables false
set_option linter.unusedSimpArgs false
open Go.RowKit
theorem impE_at {m : ManV} {i : Nat} {x : ImpV} (h : m.imps[i]? = some x) : impE m i = if (!hasC m.comps x.comp || !hasC m.comps x.from_ || !goodB x.name) = true then 12 else if x.from_ = x.comp then 17 else if ((m.imps.take i).any (likeI x)) = true then 13 else 0 := by
  unfold impE; rw [h]; rfl
def likeG (g z : GrnV) : Bool := decide (z.comp = g.comp ∧ z.share = g.share)
theorem grnE_at {m : ManV} {i : Nat} {x : GrnV} (h : m.grns[i]? = some x) : grnE m i = if (!hasC m.comps x.comp || !hasC m.shrs x.share) = true then 12 else if x.perm = 0 ∨ 3 < x.perm then 3 else if ((m.grns.take i).any (likeG x)) = true then 13 else 0 := by
  unfold grnE; rw [h]; rfl
theorem permS_none {p : Int} (h : p = 0 ∨ 3 < p) : permS p = ⟨#[]⟩ := by
  unfold permS; rw [if_neg (by omega), if_neg (by omega), if_neg (by omega)]
theorem permS_some {p : Int} (h0 : 0 ≤ p) (h : ¬ (p = 0 ∨ 3 < p)) : (permS p).toList.isEmpty = false ∧ ¬ (permS p).toList = [] := by
  rcases (by omega : p = 1 ∨ p = 2 ∨ p = 3) with rfl | rfl | rfl <;> (unfold permS bsL; constructor <;> decide +kernel)
set_option maxHeartbeats 4000000 in
set_option maxRecDepth 100000 in
theorem mcall_any (m : ManV) (vc vi vs vg : Value) (i : Nat) (w : World) (h : ManAt w m vc vi vs vg) (hm : ManMay m) (hi : i < m.imps.length) :
    Calls Tryz.prog 47 #[manVal m vc vi vs vg, .int .i64 (i : Int)] w fun e w' => e = .returned (.int .i64 (impE m i)) ∧ Keep w w' := by
  obtain ⟨x, hx⟩ : ∃ x, m.imps[i]? = some x := ⟨_, List.getElem?_eq_getElem hi⟩
  have few := hm.comps
  have fewI := hm.imps
  obtain ⟨z1, z2, z3⟩ := hm.impN x (List.mem_of_getElem? hx)
  rw [impE_at hx]
  have EL := idxF_lt (f := likeI x) m.imps 0 i x hx (by unfold likeI; simp)
  rw [Nat.zero_add] at EL
  have EN := idxL_neg m.comps x.comp
  obtain ⟨tw, htw⟩ : ∃ tw, (m.imps.take i).any (likeI x) = tw := ⟨_, rfl⟩
  obtain ⟨ii, hii⟩ : ∃ ii, idxF (likeI x) m.imps 0 = ii := ⟨_, rfl⟩
  obtain ⟨ix, hix⟩ : ∃ ix, idxL m.comps x.comp 0 = ix := ⟨_, rfl⟩
  obtain ⟨hc, hhc⟩ : ∃ hc, hasC m.comps x.comp = hc := ⟨_, rfl⟩
  obtain ⟨cl, hcl⟩ : ∃ cl, (hasC m.comps x.from_ && goodB x.name) = cl := ⟨_, rfl⟩
  have HM := Lib.hid h
  have CI := Lib.hid (fun W (k : Keep w W) => pindexM_any m vc vi vs vg x.comp W (HM.out.keep k) (by omega))
  have CC := Lib.hid (fun W (k : Keep w W) => mcallable_any m vc vi vs vg x W (HM.out.keep k) (by omega) (by omega))
  rw [hix] at CI EN
  rw [hcl] at CC
  rw [htw, hii] at EL
  rw [hhc] at EN
  have E0 : (!hasC m.comps x.comp || !hasC m.comps x.from_ || !goodB x.name) = (!hc || !cl) := by rw [← hcl, hhc, Bool.not_and, Bool.or_assoc]
  rw [E0, htw]
  clear E0 hhc hcl hix htw
  obtain ⟨r, hr⟩ : ∃ r, r = (if (!hc || !cl) = true then (12 : Int) else if x.from_ = x.comp then 17 else if tw = true then 13 else 0) := ⟨_, rfl⟩
  rw [← hr]
  have HR := Lib.hid hr
  clear hr
  unfold manVal at CI CC ⊢
  unfold impVal at CC
  have HS := h.imps
  obtain ⟨bq, off, cap, e0, hcap, n0⟩ := SlAt.cellOf impRow_length h.imps hx (j := 0) (x := .string x.comp) rfl
  obtain ⟨bq1, off1, cap1, e1, _, n1⟩ := SlAt.cellOf impRow_length h.imps hx (j := 1) (x := .string x.from_) rfl
  obtain ⟨rfl, rfl⟩ : bq = bq1 ∧ off = off1 := by rw [e0] at e1; cases e1; exact ⟨rfl, rfl⟩
  obtain ⟨bq2, off2, cap2, e2, _, n2⟩ := SlAt.cellOf impRow_length h.imps hx (j := 2) (x := .string x.name) rfl
  obtain ⟨rfl, rfl⟩ : bq = bq2 ∧ off = off2 := by rw [e0] at e2; cases e2; exact ⟨rfl, rfl⟩
  rw [Nat.add_zero] at n0
  rw [← Nat.add_assoc] at n1
  rw [← Nat.add_assoc] at n2
  have hil : (i : Int) < (m.imps.length : Int) := by omega
  have i0 : (0 : Int) ≤ (i : Int) := Int.natCast_nonneg _
  subst e0
  have CL := Lib.hid (fun W (k : Keep w W) => pidxI_any m.imps (some ⟨bq, off, none⟩) cap x W (by omega) (HS.keep k))
  rw [hii] at CL
  unfold impVal at CL
  have HN0 := Lib.hid n0
  have HN1 := Lib.hid n1
  have HN2 := Lib.hid n2
  clear e1 e2 h hx hm n0 n1 n2 HS HM hii
  have K00 : Hid (Keep w (w.alloc (.cells #[vc, .slice (some ⟨bq, off, none⟩) m.imps.length cap, vs, vg, .string m.start.comp, .string m.start.from_, .string m.start.name] 34))) := Lib.hid ((Keep.refl _).alloc _)
  have n0 := K00.out.cellOf HN0.out
  have n1 := K00.out.cellOf HN1.out
  have n2 := K00.out.cellOf HN2.out
  obtain ⟨W1, hW1⟩ : ∃ W1, W1 = (w.alloc (.cells #[vc, .slice (some ⟨bq, off, none⟩) m.imps.length cap, vs, vg, .string m.start.comp, .string m.start.from_, .string m.start.name] 34)).alloc (.cells #[.string x.comp, .string x.from_, .string x.name] 32) := ⟨_, rfl⟩
  have KX : Hid (Keep w W1) := Lib.hid (by rw [hW1]; exact K00.out.alloc _)
  have BM : Hid (Box W1 w.heap.size #[vc, .slice (some ⟨bq, off, none⟩) m.imps.length cap, vs, vg, .string m.start.comp, .string m.start.from_, .string m.start.name]) := Lib.hid (by rw [hW1]; exact (Box.new _ _ _).alloc _)
  have BX : Hid (Box W1 (w.heap.size + 1) #[.string x.comp, .string x.from_, .string x.name]) := Lib.hid (by rw [hW1]; exact Box.new1 _ _ _ _)
  go_enter Tryz.func47, Tryz.ntmps47
  go_wp2_with fail
  rw [← hW1]
  clear hW1 n0 n1 n2
  have cm := BM.out.cells
  have cx := BX.out.cells
  clear cm cx
  refine (CI.out _ KX.out).mono ?_
  rintro e w1 ⟨rfl, hk1⟩
  have K1 := Lib.hid (KX.out.trans hk1)
  have BM1 := Lib.hid (BM.out.keep hk1)
  have BX1 := Lib.hid (BX.out.keep hk1)
  clear hk1 BM BX
  have cm := BM1.out.cells
  have cx := BX1.out.cells
  cases hc with
  | false =>
    have E1 : decide (ix < 0) = true := EN
    clear EN
    obtain rfl : r = 12 := HR.out.trans (if_pos rfl)
    go_wp2_with fail
    go_ret
    exact ⟨rfl, K1.out⟩
  | true =>
    have E1 : decide (ix < 0) = false := EN
    clear EN
    go_wp2_with fail
    refine (CC.out _ K1.out).mono ?_
    rintro e w2 ⟨rfl, hk2⟩
    have K2 := Lib.hid (K1.out.trans hk2)
    have BM2 := Lib.hid (BM1.out.keep hk2)
    have BX2 := Lib.hid (BX1.out.keep hk2)
    clear hk2 BM1 BX1 cm cx
    have cm := BM2.out.cells
    have cx := BX2.out.cells
    cases cl with
    | false =>
      obtain rfl : r = 12 := HR.out.trans (if_pos rfl)
      go_wp2_with fail
      go_ret
      exact ⟨rfl, K2.out⟩
    | true =>
      have HR2 := Lib.hid (HR.out.trans (if_neg (show ¬ ((!true || !true) = true) by decide)))
      clear HR
      rcases Bool.eq_false_or_eq_true (x.from_.toList == x.comp.toList) with d | d
      · have d2 := d
        rw [mstr_beq] at d2
        obtain rfl : r = 17 := HR2.out.trans (if_pos (of_decide_eq_true d2))
        clear d2
        go_wp2_with fail
        go_ret
        exact ⟨rfl, K2.out⟩
      · have d2 := d
        rw [mstr_beq] at d2
        have HR3 := Lib.hid (HR2.out.trans (if_neg (of_decide_eq_false d2)))
        clear HR2
        clear d2
        go_wp2_with fail
        refine (CL.out _ K2.out).mono ?_
        rintro e w3 ⟨rfl, hk3⟩
        have K3 := Lib.hid (K2.out.trans hk3)
        clear hk3
        cases tw with
        | true =>
          obtain rfl : r = 13 := HR3.out.trans (if_pos rfl)
          go_wp2_with fail
          go_ret
          exact ⟨rfl, K3.out⟩
        | false =>
          obtain rfl : r = 0 := HR3.out.trans (if_neg (by decide))
          go_wp2_with fail
          go_ret
          exact ⟨rfl, K3.out⟩
set_option maxHeartbeats 4000000 in
set_option maxRecDepth 100000 in
theorem mimpsC_any (m : ManV) (vc vi vs vg : Value) (b i : Nat) (w : World) (hB : Box w b #[vc, vi, vs, vg, .string m.start.comp, .string m.start.from_, .string m.start.name]) (h : ManAt w m vc vi vs vg) (hm : ManMay m) (hi : i < m.imps.length) :
    Calls Tryz.prog 46 #[.int .i64 (i : Int), .pointer (some ⟨b, 0, none⟩)] w fun e w' => e = .returned (.int .i64 (impE m i)) ∧ Keep w w' := by
  have C := Lib.hid (mcall_any m vc vi vs vg i w h hm hi)
  unfold manVal at C
  have c0 := hB.cells
  clear h hm hi hB
  go_enter Tryz.func46, Tryz.ntmps46
  go_wp2_with fail
  refine C.out.mono ?_
  rintro e w1 ⟨rfl, hk⟩
  have HK := Lib.hid hk
  clear hk
  go_wp2_with fail
  go_ret
  exact ⟨rfl, HK.out⟩
theorem mlike_any (c g : GrnV) (b : Nat) (w : World) (hB : Box w b #[.string g.comp, .string g.share, .int .u16 g.perm]) : Calls Tryz.prog 70 #[grnVal c, .pointer (some ⟨b, 0, none⟩)] w fun e w' => e = .returned (.bool (likeG g c)) ∧ Keep w w' := by
  unfold grnVal likeG
  have c1 := fun o => (hB.alloc o).cells
  clear hB
  rw [Bool.decide_and, ← mstr_beq, ← mstr_beq]
  rcases Bool.eq_false_or_eq_true (c.comp.toList == g.comp.toList) with d | d
  · rw [d, Bool.true_and]
    go_enter Tryz.func70, Tryz.ntmps70
    go_wp2_with fail
    go_ret
    exact ⟨rfl, (Keep.refl _).alloc _⟩
  · rw [d, Bool.false_and]
    go_enter Tryz.func70, Tryz.ntmps70
    go_wp2_with fail
    go_ret
    exact ⟨rfl, (Keep.refl _).alloc _⟩
set_option maxHeartbeats 4000000 in
set_option maxRecDepth 100000 in
theorem mgrant_any (m : ManV) (vc vi vs vg : Value) (i : Nat) (w : World) (h : ManAt w m vc vi vs vg) (hm : ManMay m) (hi : i < m.grns.length) :
    Calls Tryz.prog 51 #[manVal m vc vi vs vg, .int .i64 (i : Int)] w fun e w' => e = .returned (.int .i64 (grnE m i)) ∧ Keep w w' := by
  obtain ⟨x, hx⟩ : ∃ x, m.grns[i]? = some x := ⟨_, List.getElem?_eq_getElem hi⟩
  have few := hm.comps
  have fewS := hm.shrs
  have fewG := hm.grns
  obtain ⟨z1, z2, z3, z4⟩ := hm.grnN x (List.mem_of_getElem? hx)
  rw [grnE_at hx]
  have EL := idxF_lt (f := likeG x) m.grns 0 i x hx (by unfold likeG; simp)
  rw [Nat.zero_add] at EL
  have EN := idxL_neg m.comps x.comp
  have ES := idxL_neg m.shrs x.share
  obtain ⟨tw, htw⟩ : ∃ tw, (m.grns.take i).any (likeG x) = tw := ⟨_, rfl⟩
  obtain ⟨ii, hii⟩ : ∃ ii, idxF (likeG x) m.grns 0 = ii := ⟨_, rfl⟩
  obtain ⟨ix, hix⟩ : ∃ ix, idxL m.comps x.comp 0 = ix := ⟨_, rfl⟩
  obtain ⟨iy, hiy⟩ : ∃ iy, idxL m.shrs x.share 0 = iy := ⟨_, rfl⟩
  obtain ⟨hc, hhc⟩ : ∃ hc, hasC m.comps x.comp = hc := ⟨_, rfl⟩
  obtain ⟨hs, hhs⟩ : ∃ hs, hasC m.shrs x.share = hs := ⟨_, rfl⟩
  have HM := Lib.hid h
  have CI := Lib.hid (fun W (k : Keep w W) => pindexM_any m vc vi vs vg x.comp W (HM.out.keep k) (by omega))
  have CC := Lib.hid (fun W (k : Keep w W) => pshareIdx_any m vc vi vs vg x.share W (HM.out.keep k) (by omega))
  have CP := Lib.hid (fun W => mpermWord_any x.perm W)
  rw [hix] at CI EN
  rw [hiy] at CC ES
  rw [htw, hii] at EL
  rw [hhc] at EN ⊢
  rw [hhs] at ES ⊢
  rw [htw]
  clear hhc hhs hix hiy htw
  obtain ⟨r, hr⟩ : ∃ r, r = (if (!hc || !hs) = true then (12 : Int) else if x.perm = 0 ∨ 3 < x.perm then 3 else if tw = true then 13 else 0) := ⟨_, rfl⟩
  rw [← hr]
  have HR := Lib.hid hr
  clear hr
  unfold manVal at CI CC ⊢
  have HS := h.grns
  obtain ⟨bq, off, cap, e0, hcap, n0⟩ := SlAt.cellOf grnRow_length h.grns hx (j := 0) (x := .string x.comp) rfl
  obtain ⟨bq1, off1, cap1, e1, _, n1⟩ := SlAt.cellOf grnRow_length h.grns hx (j := 1) (x := .string x.share) rfl
  obtain ⟨rfl, rfl⟩ : bq = bq1 ∧ off = off1 := by rw [e0] at e1; cases e1; exact ⟨rfl, rfl⟩
  obtain ⟨bq2, off2, cap2, e2, _, n2⟩ := SlAt.cellOf grnRow_length h.grns hx (j := 2) (x := .int .u16 x.perm) rfl
  obtain ⟨rfl, rfl⟩ : bq = bq2 ∧ off = off2 := by rw [e0] at e2; cases e2; exact ⟨rfl, rfl⟩
  rw [Nat.add_zero] at n0
  rw [← Nat.add_assoc] at n1
  rw [← Nat.add_assoc] at n2
  have hil : (i : Int) < (m.grns.length : Int) := by omega
  have i0 : (0 : Int) ≤ (i : Int) := Int.natCast_nonneg _
  subst e0
  have CL := Lib.hid (fun b W (k : Keep w W) (hB : Box W b #[.string x.comp, .string x.share, .int .u16 x.perm]) => pidxG_any m.grns (some ⟨bq, off, none⟩) cap 70 (.pointer (some ⟨b, 0, none⟩)) (likeG x) W (by omega) (HS.keep k) (enters_of Tryz.func70 (by kernel_rfl) rfl) (fun c W2 _ hk => mlike_any c x b W2 (hB.keep hk)))
  rw [hii] at CL
  have HN0 := Lib.hid n0
  have HN1 := Lib.hid n1
  have HN2 := Lib.hid n2
  clear e1 e2 h hx hm n0 n1 n2 HS HM hii
  have K00 : Hid (Keep w (w.alloc (.cells #[vc, vi, vs, .slice (some ⟨bq, off, none⟩) m.grns.length cap, .string m.start.comp, .string m.start.from_, .string m.start.name] 34))) := Lib.hid ((Keep.refl _).alloc _)
  have n0 := K00.out.cellOf HN0.out
  have n1 := K00.out.cellOf HN1.out
  have n2 := K00.out.cellOf HN2.out
  obtain ⟨W1, hW1⟩ : ∃ W1, W1 = (w.alloc (.cells #[vc, vi, vs, .slice (some ⟨bq, off, none⟩) m.grns.length cap, .string m.start.comp, .string m.start.from_, .string m.start.name] 34)).alloc (.cells #[.string x.comp, .string x.share, .int .u16 x.perm] 46) := ⟨_, rfl⟩
  have KX : Hid (Keep w W1) := Lib.hid (by rw [hW1]; exact K00.out.alloc _)
  have BM : Hid (Box W1 w.heap.size #[vc, vi, vs, .slice (some ⟨bq, off, none⟩) m.grns.length cap, .string m.start.comp, .string m.start.from_, .string m.start.name]) := Lib.hid (by rw [hW1]; exact (Box.new _ _ _).alloc _)
  have BX : Hid (Box W1 (w.heap.size + 1) #[.string x.comp, .string x.share, .int .u16 x.perm]) := Lib.hid (by rw [hW1]; exact Box.new1 _ _ _ _)
  go_enter Tryz.func51, Tryz.ntmps51
  go_wp2_with fail
  rw [← hW1]
  clear hW1 n0 n1 n2
  refine (CI.out _ KX.out).mono ?_
  rintro e w1 ⟨rfl, hk1⟩
  have K1 := Lib.hid (KX.out.trans hk1)
  have BM1 := Lib.hid (BM.out.keep hk1)
  have BX1 := Lib.hid (BX.out.keep hk1)
  clear hk1 BM BX
  have cm := BM1.out.cells
  have cx := BX1.out.cells
  cases hc with
  | false =>
    have E1 : decide (ix < 0) = true := EN
    clear EN
    obtain rfl : r = 12 := HR.out.trans (if_pos rfl)
    go_wp2_with fail
    go_ret
    exact ⟨rfl, K1.out⟩
  | true =>
    have E1 : decide (ix < 0) = false := EN
    clear EN
    go_wp2_with fail
    refine (CC.out _ K1.out).mono ?_
    rintro e w2 ⟨rfl, hk2⟩
    have K2 := Lib.hid (K1.out.trans hk2)
    have BM2 := Lib.hid (BM1.out.keep hk2)
    have BX2 := Lib.hid (BX1.out.keep hk2)
    clear hk2 BM1 BX1 cm cx
    have cm := BM2.out.cells
    have cx := BX2.out.cells
    cases hs with
    | false =>
      have E2 : decide (iy < 0) = true := ES
      clear ES
      obtain rfl : r = 12 := HR.out.trans (if_pos rfl)
      go_wp2_with fail
      go_ret
      exact ⟨rfl, K2.out⟩
    | true =>
      have E2 : decide (iy < 0) = false := ES
      clear ES
      have HR2 := Lib.hid (HR.out.trans (if_neg (show ¬ ((!true || !true) = true) by decide)))
      clear HR
      by_cases hp : x.perm = 0 ∨ 3 < x.perm
      · obtain rfl : r = 3 := HR2.out.trans (if_pos hp)
        rw [permS_none hp] at CP
        clear hp
        go_wp2_with ((with_reducible refine (CP.out _).mono ?_); rintro e w' ⟨rfl, rfl⟩)
        go_ret
        exact ⟨rfl, K2.out⟩
      · have HR3 := Lib.hid (HR2.out.trans (if_neg hp))
        clear HR2
        obtain ⟨p1, p2⟩ := permS_some z3 hp
        obtain ⟨ps, hps⟩ : ∃ ps, permS x.perm = ps := ⟨_, rfl⟩
        rw [hps] at CP p1 p2
        clear hp hps
        go_wp2_with ((with_reducible refine (CP.out _).mono ?_); rintro e w' ⟨rfl, rfl⟩)
        refine (CL.out _ _ K2.out BX2.out).mono ?_
        rintro e w3 ⟨rfl, hk3⟩
        have K3 := Lib.hid (K2.out.trans hk3)
        clear hk3
        cases tw with
        | true =>
          obtain rfl : r = 13 := HR3.out.trans (if_pos rfl)
          go_wp2_with fail
          go_ret
          exact ⟨rfl, K3.out⟩
        | false =>
          obtain rfl : r = 0 := HR3.out.trans (if_neg (by decide))
          go_wp2_with fail
          go_ret
          exact ⟨rfl, K3.out⟩
set_option maxHeartbeats 4000000 in
set_option maxRecDepth 100000 in
theorem mgrnsC_any (m : ManV) (vc vi vs vg : Value) (b i : Nat) (w : World) (hB : Box w b #[vc, vi, vs, vg, .string m.start.comp, .string m.start.from_, .string m.start.name]) (h : ManAt w m vc vi vs vg) (hm : ManMay m) (hi : i < m.grns.length) :
    Calls Tryz.prog 50 #[.int .i64 (i : Int), .pointer (some ⟨b, 0, none⟩)] w fun e w' => e = .returned (.int .i64 (grnE m i)) ∧ Keep w w' := by
  have C := Lib.hid (mgrant_any m vc vi vs vg i w h hm hi)
  unfold manVal at C
  have c0 := hB.cells
  clear h hm hi hB
  go_enter Tryz.func50, Tryz.ntmps50
  go_wp2_with fail
  refine C.out.mono ?_
  rintro e w1 ⟨rfl, hk⟩
  have HK := Lib.hid hk
  clear hk
  go_wp2_with fail
  go_ret
  exact ⟨rfl, HK.out⟩
end Go.Proofs.YteddflbidafebaaGreatDoor
