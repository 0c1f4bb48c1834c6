/- The program's callable, call, grant, slices.Index of imports; what checkComps, checkShares ask of each. -/
import Derived.Test.YtbmjnfnekmeegaaGreatDoorGManA
import Derived.Test.YtbmjnfnekmeegaaGreatDoorGManP
namespace Go.Proofs.YtbmjnfnekmeegaaGreatDoor
set_option linter.unusedVariables false
set_option linter.unusedSimpArgs false
open Go.RowKit
def sameI (y z : ImpV) : Bool := (y.comp.toList == z.comp.toList) && ((y.from_.toList == z.from_.toList) && (y.name.toList == z.name.toList))
theorem sameI_like (y z : ImpV) : sameI y z = likeI y z := by
  unfold sameI likeI
  rw [mstr_beq, mstr_beq, mstr_beq, ← Bool.decide_and, ← Bool.decide_and]
  exact decide_eq_decide.2 ⟨fun ⟨a, b, c⟩ => ⟨a.symm, b.symm, c.symm⟩, fun ⟨a, b, c⟩ => ⟨a.symm, b.symm, c.symm⟩⟩
theorem eqin_imp (s t : ImpV) (w : World) : (Op.equalIn 10000 27 (.agg #[.string s.comp, .string s.from_, .string s.name]) (.agg #[.string t.comp, .string t.from_, .string t.name])).run Tryz.prog w = .ok (likeI s t) w := by
  rw [← sameI_like]
  unfold sameI
  cases h0 : (s.comp.toList == t.comp.toList)
  · go_simp
  cases h1 : (s.from_.toList == t.from_.toList)
  · go_simp
  cases h2 : (s.name.toList == t.name.toList)
  · go_simp
  go_simp
set_option maxHeartbeats 4000000 in
set_option maxRecDepth 100000 in
theorem pidxI_any (l : List ImpV) (p : Option Addr) (cap : Nat) (y : ImpV) (w : World) (few : l.length ≤ 1000000) (hl : SlAt w (.slice p l.length cap) l.length (l.flatMap impRow)) :
    Calls Tryz.prog 164 #[.slice p l.length cap, impVal y] w fun e w' => e = .returned (.int .i64 (idxF (likeI y) l 0)) ∧ Keep w w' := by
  unfold impVal
  obtain ⟨res, hres⟩ : ∃ res, res = idxF (likeI y) l 0 := ⟨_, rfl⟩
  rw [← hres]
  have HR : Hid (res = idxF (likeI y) (l.drop 0) 0) := Lib.hid (by rw [List.drop_zero]; exact hres)
  clear hres
  obtain ⟨W0, hW0⟩ : ∃ W0, W0 = w.alloc (.cells #[.string y.comp, .string y.from_, .string y.name] 27) := ⟨_, rfl⟩
  have K0 : Hid (Keep w W0) := Lib.hid (by rw [hW0]; exact (Keep.refl _).alloc _)
  have B0 : Hid (Box W0 w.heap.size #[.string y.comp, .string y.from_, .string y.name]) := Lib.hid (by rw [hW0]; exact Box.new _ _ _)
  have HL := Lib.hid (hl.keep K0.out)
  clear hl
  go_enter Tryz.func164, Tryz.ntmps164
  go_wp2_with fail
  rw [← hW0]
  clear hW0
  go_loopw [5, 8] (fun _ i wr => ∃ k : Nat, k ≤ l.length ∧ i = .int .i64 (k : Int) ∧ res = idxF (likeI y) (l.drop k) k ∧ Keep W0 wr) (fun _ i _ => l.length - (intOf i).toNat)
  case atStart => exact ⟨0, Nat.zero_le _, rfl, HR.out, Keep.refl _⟩
  case round =>
    obtain ⟨k, hk, rfl, hfi, hK⟩ := hrel
    have HFI := Lib.hid hfi
    have KB := Lib.hid hK
    clear hfi hK
    have k0 : (0 : Int) ≤ (k : Int) := Int.natCast_nonneg _
    by_cases hlt : k < l.length
    · have hki : (k : Int) < (l.length : Int) := by omega
      obtain ⟨x, hx⟩ : ∃ x, l[k]? = some x := ⟨_, List.getElem?_eq_getElem hlt⟩
      have HX := Lib.hid hx
      clear hx
      obtain ⟨b, off, cap', e0, hcap, n0⟩ := SlAt.cellOf impRow_length HL.out HX.out (j := 0) (x := .string x.comp) rfl
      cases e0
      obtain ⟨b1, off1, cap1, e1, _, n1⟩ := SlAt.cellOf impRow_length HL.out HX.out (j := 1) (x := .string x.from_) rfl
      cases e1
      obtain ⟨b2, off2, cap2, e2, _, n2⟩ := SlAt.cellOf impRow_length HL.out HX.out (j := 2) (x := .string x.name) rfl
      cases e2
      rw [Nat.add_zero] at n0
      rw [← Nat.add_assoc] at n1 n2
      have N0 := Lib.hid (KB.out.cellOf n0)
      have N1 := Lib.hid (KB.out.cellOf n1)
      have N2 := Lib.hid (KB.out.cellOf n2)
      have EQ := fun W => eqin_imp y x W
      clear n0 n1 n2
      rcases Bool.eq_false_or_eq_true (likeI y x) with d | d
      · rw [d] at EQ
        have HN := Lib.hid (HFI.out.trans (idxF_hit HX.out d))
        clear d
        · go_wp2_with fail
          refine region_grows (Keep wr) (by kernel_rfl) (by kernel_rfl) (Keep.refl _).drew ?_
          repeat (first
            | (apply text_pass (by rfl); go_simp)
            | (apply text_step (by rfl)
               · intro W hW
                 have d0 := hW.cellOf N0.out
                 have d1 := hW.cellOf N1.out
                 have d2 := hW.cellOf N2.out
                 have cb := (B0.out.keep (KB.out.trans hW)).cells
                 go_simp
                 exact ⟨rfl, hW⟩
               go_simp))
          apply text_end
          intro W hW
          have HW := Lib.hid (KB.out.trans hW)
          clear hW
          go_wp2_with fail
          go_ret
          exact ⟨by rw [HN.out]; rfl, K0.out.trans HW.out⟩
      · rw [d] at EQ
        have HN := Lib.hid (HFI.out.trans (idxF_go HX.out d))
        clear d
        · go_wp2_with fail
          refine region_grows (Keep wr) (by kernel_rfl) (by kernel_rfl) (Keep.refl _).drew ?_
          repeat (first
            | (apply text_pass (by rfl); go_simp)
            | (apply text_step (by rfl)
               · intro W hW
                 have d0 := hW.cellOf N0.out
                 have d1 := hW.cellOf N1.out
                 have d2 := hW.cellOf N2.out
                 have cb := (B0.out.keep (KB.out.trans hW)).cells
                 go_simp
                 exact ⟨rfl, hW⟩
               go_simp))
          apply text_end
          intro W hW
          have HW := Lib.hid (KB.out.trans hW)
          clear hW
          go_wp2_with fail
          refine ⟨⟨k + 1, hlt, by simp, HN.out, HW.out⟩, by simp [intOf]; omega⟩
    · obtain rfl : k = l.length := by omega
      have HN : Hid (res = -1) := Lib.hid (HFI.out.trans (idxF_none (Nat.le_refl _)))
      go_wp2_with fail
      go_ret
      exact ⟨by rw [HN.out]; rfl, K0.out.trans KB.out⟩
set_option maxHeartbeats 4000000 in
set_option maxRecDepth 100000 in
theorem mcallable_any (m : ManV) (vc vi vs vg : Value) (x : ImpV) (w : World) (h : ManAt w m vc vi vs vg) (few : m.comps.length ≤ 1000000) (hn : x.name.size ≤ 140737488355328) :
    Calls Tryz.prog 154 #[manVal m vc vi vs vg, impVal x] w fun e w' => e = .returned (.bool (hasC m.comps x.from_ && goodB x.name)) ∧ Keep w w' := by
  have HM := Lib.hid h
  have EN := idxL_neg m.comps x.from_
  obtain ⟨ix, hix⟩ : ∃ ix, idxL m.comps x.from_ 0 = ix := ⟨_, rfl⟩
  rw [hix] at EN
  obtain ⟨W0, hW0⟩ : ∃ W0, W0 = (w.alloc (.cells #[vc, vi, vs, vg, .string m.start.comp, .string m.start.from_, .string m.start.name] 29)).alloc (.cells #[.string x.comp, .string x.from_, .string x.name] 27) := ⟨_, rfl⟩
  have K0 : Hid (Keep w W0) := Lib.hid (by rw [hW0]; exact ((Keep.refl _).alloc _).alloc _)
  have B1 : Hid (Box W0 (w.heap.size + 1) #[.string x.comp, .string x.from_, .string x.name]) := Lib.hid (by rw [hW0]; exact Box.new1 _ _ _ _)
  have CI := Lib.hid (pindexM_any m vc vi vs vg x.from_ W0 (h.keep K0.out) few)
  rw [hix] at CI
  have CG := Lib.hid (fun W => pname_any x.name hn W)
  unfold manVal at CI ⊢
  unfold impVal
  clear h hix HM hn
  cases hc : hasC m.comps x.from_ with
  | false =>
    rw [hc] at EN
    have E1 : decide (0 ≤ ix) = false := by
      have := of_decide_eq_true (EN.trans rfl)
      exact decide_eq_false (by omega)
    rw [Bool.false_and]
    clear EN hc
    go_enter Tryz.func154, Tryz.ntmps154
    go_wp2_with fail
    rw [← hW0]
    clear hW0
    refine CI.out.mono ?_
    rintro e w1 ⟨rfl, hk⟩
    have K1 := Lib.hid (K0.out.trans hk)
    clear hk
    go_wp2_with fail
    go_ret
    exact ⟨rfl, K1.out⟩
  | true =>
    rw [hc] at EN
    have E1 : decide (0 ≤ ix) = true := by
      have := of_decide_eq_false (EN.trans rfl)
      exact decide_eq_true (by omega)
    rw [Bool.true_and]
    clear EN hc
    obtain ⟨gg, hgg⟩ : ∃ gg, goodB x.name = gg := ⟨_, rfl⟩
    rw [hgg] at CG ⊢
    clear hgg
    go_enter Tryz.func154, Tryz.ntmps154
    go_wp2_with fail
    rw [← hW0]
    clear hW0
    refine CI.out.mono ?_
    rintro e w1 ⟨rfl, hk⟩
    have K1 := Lib.hid (K0.out.trans hk)
    have c1 := (B1.out.keep hk).cells
    clear hk
    go_wp2_with ((with_reducible refine (CG.out _).mono ?_); rintro e w' ⟨rfl, rfl⟩)
    go_ret
    exact ⟨rfl, K1.out⟩
set_option maxHeartbeats 4000000 in
set_option maxRecDepth 100000 in
theorem mcompsC_any (m : ManV) (vc vi vs vg : Value) (b i : Nat) (w : World) (hB : Box w b #[vc, vi, vs, vg, .string m.start.comp, .string m.start.from_, .string m.start.name]) (h : ManAt w m vc vi vs vg) (hm : ManMay m) (hi : i < m.comps.length) :
    Calls Tryz.prog 146 #[.int .i64 (i : Int), .pointer (some ⟨b, 0, none⟩)] w fun e w' => e = .returned (.int .i64 (sizedAt m.comps i)) ∧ Keep w w' := by
  obtain ⟨x, hx⟩ : ∃ x, m.comps[i]? = some x := ⟨_, List.getElem?_eq_getElem hi⟩
  have few := hm.comps
  obtain ⟨z1, z2, z3⟩ := hm.compN x (List.mem_of_getElem? hx)
  rw [sizedAt_at hx]
  have EL := idxL_lt hx
  obtain ⟨tw, htw⟩ : ∃ tw, hasC (m.comps.take i) x.name = tw := ⟨_, rfl⟩
  obtain ⟨ix, hix⟩ : ∃ ix, idxL m.comps x.name 0 = ix := ⟨_, rfl⟩
  rw [htw, hix] at EL
  rw [htw]
  clear htw
  have HM := Lib.hid h
  have CI := Lib.hid (fun W (k : Keep w W) => pindexM_any m vc vi vs vg x.name W (HM.out.keep k) (by omega))
  rw [hix] at CI
  clear hix
  have CR := Lib.hid (fun W => mroom_any x.name tw x.stack (by omega) z2 z3 W)
  unfold manVal at CI
  obtain ⟨bq, off, cap, e0, hcap, n0⟩ := SlAt.cellOf compRow_length h.comps hx (j := 0) (x := .string x.name) rfl
  obtain ⟨bq1, off1, cap1, e1, _, n1⟩ := SlAt.cellOf compRow_length h.comps hx (j := 1) (x := .int .u32 x.stack) rfl
  obtain ⟨rfl, rfl⟩ : bq = bq1 ∧ off = off1 := by rw [e0] at e1; cases e1; exact ⟨rfl, rfl⟩
  rw [Nat.add_zero] at n0
  rw [← Nat.add_assoc] at n1
  have hii : (i : Int) < (m.comps.length : Int) := by omega
  have i0 : (0 : Int) ≤ (i : Int) := Int.natCast_nonneg _
  clear e1 h hx hm
  subst e0
  have c0 := hB.cells
  obtain ⟨W0, hW0⟩ : ∃ W0, W0 = w.alloc (.cells #[.string x.name, .int .u32 x.stack] 86) := ⟨_, rfl⟩
  have K0 : Hid (Keep w W0) := Lib.hid (by rw [hW0]; exact (Keep.refl _).alloc _)
  have BB : Hid (Box W0 b #[.slice (some ⟨bq, off, none⟩) m.comps.length cap, vi, vs, vg, .string m.start.comp, .string m.start.from_, .string m.start.name]) := Lib.hid (by rw [hW0]; exact hB.alloc _)
  have BX : Hid (Box W0 w.heap.size #[.string x.name, .int .u32 x.stack]) := Lib.hid (by rw [hW0]; exact Box.new _ _ _)
  clear hB HM
  go_enter Tryz.func146, Tryz.ntmps146
  go_wp2_with fail
  rw [← hW0]
  clear hW0 c0 n0 n1
  refine region_grows (Keep W0) (by kernel_rfl) (by kernel_rfl) (Keep.refl _).drew ?_
  repeat (first
    | (apply text_pass (by rfl); go_simp)
    | (apply text_step (by rfl)
       · intro W hW
         have c1 := (BB.out.keep hW).cells
         have c2 := (BX.out.keep hW).cells
         go_simp
         first
           | exact ⟨rfl, hW⟩
           | (apply yes_enter; go_at_call 80; refine (CI.out W (K0.out.trans hW)).mono ?_; rintro e w' ⟨rfl, hk⟩; exact ⟨rfl, hW.trans hk⟩)
           | (apply yes_enter; go_at_call 147; refine (CR.out W).mono ?_; rintro e w' ⟨rfl, rfl⟩; exact ⟨rfl, hW⟩)
       go_simp))
  apply text_end
  intro W hW
  have HW := Lib.hid (K0.out.trans hW)
  clear hW
  go_wp2_with fail
  go_ret
  exact ⟨rfl, HW.out⟩
set_option maxHeartbeats 4000000 in
set_option maxRecDepth 100000 in
theorem msharesC_any (m : ManV) (vc vi vs vg : Value) (b i : Nat) (w : World) (hB : Box w b #[vc, vi, vs, vg, .string m.start.comp, .string m.start.from_, .string m.start.name]) (h : ManAt w m vc vi vs vg) (hm : ManMay m) (hi : i < m.shrs.length) :
    Calls Tryz.prog 150 #[.int .i64 (i : Int), .pointer (some ⟨b, 0, none⟩)] w fun e w' => e = .returned (.int .i64 (sizedAt m.shrs i)) ∧ Keep w w' := by
  obtain ⟨x, hx⟩ : ∃ x, m.shrs[i]? = some x := ⟨_, List.getElem?_eq_getElem hi⟩
  have few := hm.shrs
  obtain ⟨z1, z2, z3⟩ := hm.shrN x (List.mem_of_getElem? hx)
  rw [sizedAt_at hx]
  have EL := idxL_lt hx
  obtain ⟨tw, htw⟩ : ∃ tw, hasC (m.shrs.take i) x.name = tw := ⟨_, rfl⟩
  obtain ⟨ix, hix⟩ : ∃ ix, idxL m.shrs x.name 0 = ix := ⟨_, rfl⟩
  rw [htw, hix] at EL
  rw [htw]
  clear htw
  have HM := Lib.hid h
  have CI := Lib.hid (fun W (k : Keep w W) => pshareIdx_any m vc vi vs vg x.name W (HM.out.keep k) (by omega))
  rw [hix] at CI
  clear hix
  have CR := Lib.hid (fun W => mroom_any x.name tw x.stack (by omega) z2 z3 W)
  unfold manVal at CI
  obtain ⟨bq, off, cap, e0, hcap, n0⟩ := SlAt.cellOf compRow_length h.shrs hx (j := 0) (x := .string x.name) rfl
  obtain ⟨bq1, off1, cap1, e1, _, n1⟩ := SlAt.cellOf compRow_length h.shrs hx (j := 1) (x := .int .u32 x.stack) rfl
  obtain ⟨rfl, rfl⟩ : bq = bq1 ∧ off = off1 := by rw [e0] at e1; cases e1; exact ⟨rfl, rfl⟩
  rw [Nat.add_zero] at n0
  rw [← Nat.add_assoc] at n1
  have hii : (i : Int) < (m.shrs.length : Int) := by omega
  have i0 : (0 : Int) ≤ (i : Int) := Int.natCast_nonneg _
  clear e1 h hx hm
  subst e0
  have c0 := hB.cells
  obtain ⟨W0, hW0⟩ : ∃ W0, W0 = w.alloc (.cells #[.string x.name, .int .u32 x.stack] 92) := ⟨_, rfl⟩
  have K0 : Hid (Keep w W0) := Lib.hid (by rw [hW0]; exact (Keep.refl _).alloc _)
  have BB : Hid (Box W0 b #[vc, vi, .slice (some ⟨bq, off, none⟩) m.shrs.length cap, vg, .string m.start.comp, .string m.start.from_, .string m.start.name]) := Lib.hid (by rw [hW0]; exact hB.alloc _)
  have BX : Hid (Box W0 w.heap.size #[.string x.name, .int .u32 x.stack]) := Lib.hid (by rw [hW0]; exact Box.new _ _ _)
  clear hB HM
  go_enter Tryz.func150, Tryz.ntmps150
  go_wp2_with fail
  rw [← hW0]
  clear hW0 c0 n0 n1
  refine region_grows (Keep W0) (by kernel_rfl) (by kernel_rfl) (Keep.refl _).drew ?_
  repeat (first
    | (apply text_pass (by rfl); go_simp)
    | (apply text_step (by rfl)
       · intro W hW
         have c1 := (BB.out.keep hW).cells
         have c2 := (BX.out.keep hW).cells
         go_simp
         first
           | exact ⟨rfl, hW⟩
           | (apply yes_enter; go_at_call 151; refine (CI.out W (K0.out.trans hW)).mono ?_; rintro e w' ⟨rfl, hk⟩; exact ⟨rfl, hW.trans hk⟩)
           | (apply yes_enter; go_at_call 147; refine (CR.out W).mono ?_; rintro e w' ⟨rfl, rfl⟩; exact ⟨rfl, hW⟩)
       go_simp))
  apply text_end
  intro W hW
  have HW := Lib.hid (K0.out.trans hW)
  clear hW
  go_wp2_with fail
  go_ret
  exact ⟨rfl, HW.out⟩
end Go.Proofs.YtbmjnfnekmeegaaGreatDoor
