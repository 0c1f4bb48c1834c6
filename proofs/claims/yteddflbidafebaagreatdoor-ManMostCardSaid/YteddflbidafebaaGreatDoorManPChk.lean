/- The program's list, the five parts, Check. -/
import Derived.Test.YteddflbidafebaaGreatDoorManPGrn
import Derived.Test.YteddflbidafebaaGreatDoorManC
namespace Go.Proofs.YteddflbidafebaaGreatDoor
set_option linter.unusedVariables false
set_option linter.unusedSimpArgs false
open Go.RowKit
/-- What a check answers. -/
def MChk (w : World) (x : WrV) (e : Ending) (w' : World) : Prop := ∃ v, e = .returned v ∧ OErr w' v x ∧ Keep w w'
theorem MChk.nil {w w' : World} (k : Keep w w') : MChk w okW (.returned .nilIface) w' := ⟨_, rfl, .isOk, k⟩
theorem MChk.bad {w w' : World} {part : ByteArray} {a n : Int} {q : Nat} (hn : n ≠ 0) (hB : Box w' q #[.string part, .int .i64 a, .iface 40 (.int .i64 n)]) (k : Keep w w') : MChk w (part, a, n) (.returned (faultP q)) w' := ⟨_, rfl, .inr ⟨q, part, a, n, hn, rfl, rfl, hB⟩, k⟩
/-- Of a list: too long, or the first of it. -/
def lstM (all one : ByteArray) (most n : Nat) (f : Nat → Int) : WrV := if most < n then (all, n, 15) else match firstE f n 0 with
  | some (i, e) => (one, i, e)
  | none => okW
theorem lstM_long {all one : ByteArray} {most n : Nat} {f : Nat → Int} (h : most < n) : lstM all one most n f = ((all, (n : Int), (15 : Int)) : WrV) := if_pos h
theorem lstM_hit {all one : ByteArray} {most n i : Nat} {e : Int} {f : Nat → Int} (h : ¬ most < n) (hf : firstE f n 0 = some (i, e)) : lstM all one most n f = ((one, (i : Int), e) : WrV) := by unfold lstM; rw [if_neg h, hf]
theorem lstM_none {all one : ByteArray} {most n : Nat} {f : Nat → Int} (h : ¬ most < n) (hf : firstE f n 0 = none) : lstM all one most n f = okW := by unfold lstM; rw [if_neg h, hf]
def orM (a b : WrV) : WrV := if a.2.2 = 0 then b else a
theorem orM_zero {a b : WrV} (h : a.2.2 = 0) : orM a b = b := if_pos h
theorem orM_not {a b : WrV} (h : a.2.2 ≠ 0) : orM a b = a := if_neg h
set_option maxHeartbeats 4000000 in
set_option maxRecDepth 100000 in
theorem mlist_any (one all : ByteArray) (most n : Nat) (hall : one ++ ⟨#[115]⟩ = all) (hs : one.size ≤ 100) (few : n ≤ 1000000) (few2 : most ≤ 1000000) (g : FuncId) (cap : Value) (f : Nat → Int) (w : World) (he : ∀ args w, (callFunc g args).run Tryz.prog w = .ok (.enter g args) w)
    (hc : ∀ (i : Nat) (W : World), i < n → Keep w W → Calls Tryz.prog g #[.int .i64 (i : Int), cap] W fun e w' => e = .returned (.int .i64 (f i)) ∧ Keep W w') :
    Calls Tryz.prog 43 #[.string one, .int .i64 (n : Int), .int .i64 (most : Int), .func (.func g) #[] #[cap]] w (MChk w (lstM all one most n f)) := by
  have HC := Lib.hid hc
  clear hc
  by_cases hl : most < n
  · have hli : decide ((most : Int) < (n : Int)) = true := decide_eq_true (by omega)
    rw [lstM_long hl]
    subst hall
    go_enter Tryz.func43, Tryz.ntmps43
    go_wp2_with fail
    refine (mfault_any _ _ _ _).mono ?_
    rintro e w1 ⟨q, rfl, _, hB, hk⟩
    have HB := Lib.hid hB
    have HK := Lib.hid hk
    clear hB hk
    unfold faultP
    go_wp2_with fail
    go_ret
    exact MChk.bad (by decide) HB.out HK.out
  have hli : decide ((most : Int) < (n : Int)) = false := decide_eq_false (by omega)
  have hln : decide (most < n) = false := decide_eq_false hl
  have HL := Lib.hid hl
  clear hl hall
  go_enter Tryz.func43, Tryz.ntmps43
  go_wp2_with fail
  go_loopw [9, 10, 19] (fun _ _ i wr => ∃ k : Nat, k ≤ n ∧ i = .int .i64 (k : Int) ∧ firstE f n 0 = firstE f (n - k) k ∧ Keep w wr) (fun _ _ i _ => n - (intOf i).toNat)
  case atStart => exact ⟨0, Nat.zero_le _, rfl, rfl, Keep.refl _⟩
  case round =>
    obtain ⟨k, hk, rfl, hfi, hK⟩ := hrel
    have HFI := Lib.hid hfi
    have HK := Lib.hid hK
    clear hfi hK
    by_cases hlt : k < n
    · have hki : (k : Int) < (n : Int) := by omega
      have CC := Lib.hid (HC.out k wr hlt HK.out)
      obtain ⟨se, hse⟩ : ∃ se, f k = se := ⟨_, rfl⟩
      rw [hse] at CC
      have HSE := Lib.hid hse
      clear hse
      by_cases z : se = 0
      · subst z
        have HN2 := Lib.hid (HFI.out.trans (first_go hlt HSE.out))
        go_wp2_with fail
        go_at_fn g
        refine CC.out.mono ?_
        rintro e w2 ⟨rfl, hk2⟩
        have HK2 := Lib.hid (HK.out.trans hk2)
        clear hk2
        go_wp2_with fail
        go_roundw
        case rel => exact ⟨k + 1, hlt, by go_num, HN2.out, HK2.out⟩
        case measure => simp [intOf]; omega
      · have Z := Lib.hid z
        have zz : (se != 0) = true := by simpa using z
        have HH := Lib.hid (HFI.out.trans (first_hit hlt (by rw [HSE.out]; exact z)))
        go_wp2_with fail
        go_at_fn g
        refine CC.out.mono ?_
        rintro e w2 ⟨rfl, hk2⟩
        have HK2 := Lib.hid (HK.out.trans hk2)
        clear hk2
        go_wp2_with fail
        refine (mfault_any _ _ _ _).mono ?_
        rintro e w3 ⟨q, rfl, _, hB, hk3⟩
        have HK3 := Lib.hid (HK2.out.trans hk3)
        have HB := Lib.hid hB
        clear hk3 hB
        unfold faultP
        go_wp2_with fail
        go_ret
        rw [lstM_hit HL.out HH.out, HSE.out]
        exact MChk.bad Z.out HB.out HK3.out
    · obtain rfl : k = n := by omega
      have HS0 : Hid (firstE f k 0 = none) := Lib.hid (by rw [HFI.out, Nat.sub_self]; rfl)
      go_wp2_with fail
      go_ret
      rw [lstM_none HL.out HS0.out]
      exact MChk.nil HK.out
/-! ### The five parts -/
def mCompsW (m : ManV) : WrV := if m.comps.length = 0 then (compsT, 0, 16) else lstM compsT compT 8 m.comps.length (sizedAt m.comps)
def mImpsW (m : ManV) : WrV := lstM importsT importT 64 m.imps.length (impE m)
def mShrsW (m : ManV) : WrV := lstM msharesT shareT 8 m.shrs.length (sizedAt m.shrs)
def mGrnsW (m : ManV) : WrV := lstM grantsT grantT 64 m.grns.length (grnE m)
def mStartW (m : ManV) : WrV := if (!(hasC m.comps m.start.from_ && goodB m.start.name)) = true then (mstartT, 0, 12) else if m.start.comp ≠ ⟨#[]⟩ then (mstartT, 0, 17) else okW
/-- The first of them. -/
theorem manW_parts (m : ManV) : manW m = orM (mCompsW m) (orM (mImpsW m) (orM (mShrsW m) (orM (mGrnsW m) (mStartW m)))) := by
  have hlst : ∀ (all one : ByteArray) (most n : Nat) (f : Nat → Int) (rest : WrV), orM (lstM all one most n f) rest = if n > most then ((all, (n : Int), (15 : Int)) : WrV) else match firstE f n 0 with
      | some (i, e) => (one, i, e)
      | none => rest := fun all one most n f rest => by
    unfold orM lstM
    by_cases h : most < n
    · rw [if_pos h, if_pos h]; exact if_neg (show ¬ (15 : Int) = 0 by decide)
    · rw [if_neg h, if_neg h]
      cases hf : firstE f n 0 with
      | none => exact if_pos rfl
      | some x => exact if_neg (first_some _ _ _ _ hf)
  have hc : ∀ rest, orM (mCompsW m) rest = if m.comps.length = 0 then (compsT, 0, 16) else if m.comps.length > 8 then ((compsT, (m.comps.length : Int), (15 : Int)) : WrV) else match firstE (sizedAt m.comps) m.comps.length 0 with
      | some (i, e) => (compT, i, e)
      | none => rest := fun rest => by
    unfold mCompsW
    by_cases h : m.comps.length = 0
    · rw [if_pos h, if_pos h]; exact orM_not (show (16 : Int) ≠ 0 by decide)
    · rw [if_neg h, if_neg h]; exact hlst _ _ _ _ _ rest
  have hst : mStartW m = if (!hasC m.comps m.start.from_ || !goodB m.start.name) = true then (mstartT, 0, 12) else if m.start.comp ≠ ⟨#[]⟩ then (mstartT, 0, 17) else okW := by
    unfold mStartW; rw [Bool.not_and]
  rw [hc]
  unfold mImpsW mShrsW mGrnsW
  rw [hlst, hlst, hlst, hst]
  rfl
section
variable (m : ManV) (vc vi vs vg : Value) (w : World)
set_option maxHeartbeats 4000000 in
set_option maxRecDepth 100000 in
theorem mcheckComps_any (h : ManAt w m vc vi vs vg) (hm : ManMay m) : Calls Tryz.prog 26 #[manVal m vc vi vs vg] w (MChk w (mCompsW m)) := by
  have HO := Lib.hid h
  obtain ⟨pq, cq, rfl, _, _, _⟩ := h.comps
  have few := hm.comps
  unfold manVal mCompsW
  have K0 : Hid (Keep w (w.alloc (.cells #[.slice pq m.comps.length cq, vi, vs, vg, .string m.start.comp, .string m.start.from_, .string m.start.name] 34))) := Lib.hid ((Keep.refl _).alloc _)
  have B1 : Hid (Box (w.alloc (.cells #[.slice pq m.comps.length cq, vi, vs, vg, .string m.start.comp, .string m.start.from_, .string m.start.name] 34)) w.heap.size #[.slice pq m.comps.length cq, vi, vs, vg, .string m.start.comp, .string m.start.from_, .string m.start.name]) := Lib.hid (Box.new _ _ _)
  have CL := Lib.hid (mlist_any compT compsT 8 m.comps.length (by decide +kernel) (by decide +kernel) (by omega) (by decide) 44 (.pointer (some ⟨w.heap.size, 0, none⟩)) (sizedAt m.comps) _ (enters_of Tryz.func44 (by kernel_rfl) rfl) (fun i W hi hk => mcompsC_any m _ _ _ _ w.heap.size i W (B1.out.keep hk) (HO.out.keep (K0.out.trans hk)) hm hi))
  have e1 : compT = ⟨#[99,111,109,112]⟩ := rfl
  rw [e1] at CL
  rw [← e1] at CL
  clear e1
  by_cases h0 : m.comps.length = 0
  · have q0 : ((m.comps.length : Int) == 0) = true := by simp [h0]
    rw [if_pos h0]
    clear h hm CL h0
    go_enter Tryz.func26, Tryz.ntmps26
    go_wp2_with fail
    refine (mfault_any _ _ _ _).mono ?_
    rintro e w1 ⟨q, rfl, _, hB, hk⟩
    have HB := Lib.hid hB
    have HK := Lib.hid (K0.out.trans hk)
    clear hB hk
    unfold faultP
    go_wp2_with fail
    go_ret
    exact MChk.bad (by decide) HB.out HK.out
  have q0 : ((m.comps.length : Int) == 0) = false := beq_eq_false_iff_ne.2 (by omega)
  rw [if_neg h0]
  clear h0
  clear h hm
  go_enter Tryz.func26, Tryz.ntmps26
  go_wp2_with fail
  refine CL.out.mono ?_
  rintro e w1 ⟨v, rfl, hv, hk⟩
  have HV := Lib.hid hv
  have HK := Lib.hid (K0.out.trans hk)
  clear hv hk CL
  go_wp2_with fail
  go_ret
  exact ⟨v, rfl, HV.out, HK.out⟩
set_option maxHeartbeats 4000000 in
set_option maxRecDepth 100000 in
theorem mcheckImports_any (h : ManAt w m vc vi vs vg) (hm : ManMay m) : Calls Tryz.prog 27 #[manVal m vc vi vs vg] w (MChk w (mImpsW m)) := by
  have HO := Lib.hid h
  obtain ⟨pq, cq, rfl, _, _, _⟩ := h.imps
  have few := hm.imps
  unfold manVal mImpsW
  have K0 : Hid (Keep w (w.alloc (.cells #[vc, .slice pq m.imps.length cq, vs, vg, .string m.start.comp, .string m.start.from_, .string m.start.name] 34))) := Lib.hid ((Keep.refl _).alloc _)
  have B1 : Hid (Box (w.alloc (.cells #[vc, .slice pq m.imps.length cq, vs, vg, .string m.start.comp, .string m.start.from_, .string m.start.name] 34)) w.heap.size #[vc, .slice pq m.imps.length cq, vs, vg, .string m.start.comp, .string m.start.from_, .string m.start.name]) := Lib.hid (Box.new _ _ _)
  have CL := Lib.hid (mlist_any importT importsT 64 m.imps.length (by decide +kernel) (by decide +kernel) (by omega) (by decide) 46 (.pointer (some ⟨w.heap.size, 0, none⟩)) (impE m) _ (enters_of Tryz.func46 (by kernel_rfl) rfl) (fun i W hi hk => mimpsC_any m _ _ _ _ w.heap.size i W (B1.out.keep hk) (HO.out.keep (K0.out.trans hk)) hm hi))
  have e1 : importT = ⟨#[105,109,112,111,114,116]⟩ := rfl
  rw [e1] at CL
  clear h hm
  go_enter Tryz.func27, Tryz.ntmps27
  go_wp2_with fail
  refine CL.out.mono ?_
  rintro e w1 ⟨v, rfl, hv, hk⟩
  have HV := Lib.hid hv
  have HK := Lib.hid (K0.out.trans hk)
  clear hv hk CL
  go_wp2_with fail
  go_ret
  exact ⟨v, rfl, HV.out, HK.out⟩
set_option maxHeartbeats 4000000 in
set_option maxRecDepth 100000 in
theorem mcheckShares_any (h : ManAt w m vc vi vs vg) (hm : ManMay m) : Calls Tryz.prog 28 #[manVal m vc vi vs vg] w (MChk w (mShrsW m)) := by
  have HO := Lib.hid h
  obtain ⟨pq, cq, rfl, _, _, _⟩ := h.shrs
  have few := hm.shrs
  unfold manVal mShrsW
  have K0 : Hid (Keep w (w.alloc (.cells #[vc, vi, .slice pq m.shrs.length cq, vg, .string m.start.comp, .string m.start.from_, .string m.start.name] 34))) := Lib.hid ((Keep.refl _).alloc _)
  have B1 : Hid (Box (w.alloc (.cells #[vc, vi, .slice pq m.shrs.length cq, vg, .string m.start.comp, .string m.start.from_, .string m.start.name] 34)) w.heap.size #[vc, vi, .slice pq m.shrs.length cq, vg, .string m.start.comp, .string m.start.from_, .string m.start.name]) := Lib.hid (Box.new _ _ _)
  have CL := Lib.hid (mlist_any shareT msharesT 8 m.shrs.length (by decide +kernel) (by decide +kernel) (by omega) (by decide) 48 (.pointer (some ⟨w.heap.size, 0, none⟩)) (sizedAt m.shrs) _ (enters_of Tryz.func48 (by kernel_rfl) rfl) (fun i W hi hk => msharesC_any m _ _ _ _ w.heap.size i W (B1.out.keep hk) (HO.out.keep (K0.out.trans hk)) hm hi))
  have e1 : shareT = ⟨#[115,104,97,114,101]⟩ := rfl
  rw [e1] at CL
  clear h hm
  go_enter Tryz.func28, Tryz.ntmps28
  go_wp2_with fail
  refine CL.out.mono ?_
  rintro e w1 ⟨v, rfl, hv, hk⟩
  have HV := Lib.hid hv
  have HK := Lib.hid (K0.out.trans hk)
  clear hv hk CL
  go_wp2_with fail
  go_ret
  exact ⟨v, rfl, HV.out, HK.out⟩
set_option maxHeartbeats 4000000 in
set_option maxRecDepth 100000 in
theorem mcheckGrants_any (h : ManAt w m vc vi vs vg) (hm : ManMay m) : Calls Tryz.prog 29 #[manVal m vc vi vs vg] w (MChk w (mGrnsW m)) := by
  have HO := Lib.hid h
  obtain ⟨pq, cq, rfl, _, _, _⟩ := h.grns
  have few := hm.grns
  unfold manVal mGrnsW
  have K0 : Hid (Keep w (w.alloc (.cells #[vc, vi, vs, .slice pq m.grns.length cq, .string m.start.comp, .string m.start.from_, .string m.start.name] 34))) := Lib.hid ((Keep.refl _).alloc _)
  have B1 : Hid (Box (w.alloc (.cells #[vc, vi, vs, .slice pq m.grns.length cq, .string m.start.comp, .string m.start.from_, .string m.start.name] 34)) w.heap.size #[vc, vi, vs, .slice pq m.grns.length cq, .string m.start.comp, .string m.start.from_, .string m.start.name]) := Lib.hid (Box.new _ _ _)
  have CL := Lib.hid (mlist_any grantT grantsT 64 m.grns.length (by decide +kernel) (by decide +kernel) (by omega) (by decide) 50 (.pointer (some ⟨w.heap.size, 0, none⟩)) (grnE m) _ (enters_of Tryz.func50 (by kernel_rfl) rfl) (fun i W hi hk => mgrnsC_any m _ _ _ _ w.heap.size i W (B1.out.keep hk) (HO.out.keep (K0.out.trans hk)) hm hi))
  have e1 : grantT = ⟨#[103,114,97,110,116]⟩ := rfl
  rw [e1] at CL
  clear h hm
  go_enter Tryz.func29, Tryz.ntmps29
  go_wp2_with fail
  refine CL.out.mono ?_
  rintro e w1 ⟨v, rfl, hv, hk⟩
  have HV := Lib.hid hv
  have HK := Lib.hid (K0.out.trans hk)
  clear hv hk CL
  go_wp2_with fail
  go_ret
  exact ⟨v, rfl, HV.out, HK.out⟩
set_option maxHeartbeats 4000000 in
set_option maxRecDepth 100000 in
theorem mcheckStart_any (h : ManAt w m vc vi vs vg) (hm : ManMay m) : Calls Tryz.prog 30 #[manVal m vc vi vs vg] w (MChk w (mStartW m)) := by
  have few := hm.comps
  have hsn := hm.startN
  obtain ⟨cl, hcl⟩ : ∃ cl, (hasC m.comps m.start.from_ && goodB m.start.name) = cl := ⟨_, rfl⟩
  have K0 : Hid (Keep w (w.alloc (.cells #[vc, vi, vs, vg, .string m.start.comp, .string m.start.from_, .string m.start.name] 34))) := Lib.hid ((Keep.refl _).alloc _)
  have B1 : Hid (Box (w.alloc (.cells #[vc, vi, vs, vg, .string m.start.comp, .string m.start.from_, .string m.start.name] 34)) w.heap.size #[vc, vi, vs, vg, .string m.start.comp, .string m.start.from_, .string m.start.name]) := Lib.hid (Box.new _ _ _)
  have CC := Lib.hid (mcallable_any m vc vi vs vg m.start _ (h.keep K0.out) (by omega) (by omega))
  rw [hcl] at CC
  obtain ⟨r, hr⟩ : ∃ r, r = mStartW m := ⟨_, rfl⟩
  rw [← hr]
  unfold mStartW at hr
  rw [hcl] at hr
  have HR := Lib.hid hr
  unfold manVal impVal at CC
  unfold manVal
  clear h hm hcl hr few hsn
  go_enter Tryz.func30, Tryz.ntmps30
  go_wp2_with fail
  refine CC.out.mono ?_
  rintro e w1 ⟨rfl, hk⟩
  have cm := (B1.out.keep hk).cells
  have HK := Lib.hid (K0.out.trans hk)
  clear hk CC
  cases cl with
  | false =>
    obtain rfl : r = (mstartT, 0, 12) := HR.out.trans (if_pos rfl)
    go_wp2_with fail
    refine (mfault_any _ _ _ _).mono ?_
    rintro e w2 ⟨q, rfl, _, hB, hk⟩
    have HB := Lib.hid hB
    have HK2 := Lib.hid (HK.out.trans hk)
    clear hB hk
    unfold faultP
    go_wp2_with fail
    go_ret
    exact MChk.bad (by decide) HB.out HK2.out
  | true =>
    have HR2 := Lib.hid (HR.out.trans (if_neg (show ¬ ((!true) = true) by decide)))
    clear HR
    by_cases ce : m.start.comp.toList = []
    · have e0 : m.start.comp = ⟨#[]⟩ := by
        apply ByteArray.ext
        apply Array.ext'
        rw [← ByteArray.toList_eq]; exact ce
      obtain rfl : r = okW := HR2.out.trans (if_neg (fun x => x e0))
      have ce2 : m.start.comp.toList.isEmpty = true := by rw [ce]; rfl
      clear e0
      go_wp2_with fail
      go_ret
      exact MChk.nil HK.out
    · have ce2 : m.start.comp.toList.isEmpty = false := by
        cases h : m.start.comp.toList with
        | nil => exact absurd h ce
        | cons a l => rfl
      obtain rfl : r = (mstartT, 0, 17) := HR2.out.trans (if_pos (by rintro h; apply ce; rw [h, ByteArray.toList_eq]))
      go_wp2_with fail
      refine (mfault_any _ _ _ _).mono ?_
      rintro e w2 ⟨q, rfl, _, hB, hk⟩
      have HB := Lib.hid hB
      have HK2 := Lib.hid (HK.out.trans hk)
      clear hB hk
      unfold faultP
      go_wp2_with fail
      go_ret
      exact MChk.bad (by decide) HB.out HK2.out
end
theorem mOErr_ok {w : World} {u : Value} {x : WrV} (h : OErr w u x) (hx : x.2.2 = 0) : u = .nilIface := by
  rcases h with ⟨_, h⟩ | ⟨q, p, a, n, hn, he, h, hB⟩
  · exact h
  · exfalso
    apply hn
    unfold wrVal wrongV at he
    simp at he
    rw [← he.2.2]; exact hx
theorem mOErr_box {w : World} {u : Value} {x : WrV} (h : OErr w u x) (hx : x.2.2 ≠ 0) : ∃ q, u = faultP q ∧ Box w q #[.string x.1, .int .i64 x.2.1, .iface 40 (.int .i64 x.2.2)] := by
  rcases h with ⟨h, _⟩ | ⟨q, p, a, n, hn, he, h, hB⟩
  · exfalso
    apply hx
    unfold wrVal okV wrongV at h
    simp at h
    exact h.2.2
  · unfold wrVal wrongV at he
    simp at he
    obtain ⟨rfl, rfl, rfl⟩ := he
    exact ⟨q, h, hB⟩
theorem mStartW_ok {m : ManV} (h : (mStartW m).2.2 = 0) : mStartW m = okW := by
  unfold mStartW at h ⊢
  by_cases h1 : (!(hasC m.comps m.start.from_ && goodB m.start.name)) = true
  · rw [if_pos h1] at h; cases h
  · rw [if_neg h1] at h ⊢
    by_cases h2 : m.start.comp ≠ ⟨#[]⟩
    · rw [if_pos h2] at h; cases h
    · rw [if_neg h2]
set_option maxHeartbeats 4000000 in
set_option maxRecDepth 100000 in
theorem mcheck_any (m : ManV) (vc vi vs vg : Value) (w : World) (h : ManAt w m vc vi vs vg) (hm : ManMay m) :
    Calls Tryz.prog 11 #[manVal m vc vi vs vg] w (MChk w (manW m)) := by
  have HO := Lib.hid h
  have C0 := Lib.hid (fun W (k : Keep w W) => mcheckComps_any m vc vi vs vg W (HO.out.keep k) hm)
  have C1 := Lib.hid (fun W (k : Keep w W) => mcheckImports_any m vc vi vs vg W (HO.out.keep k) hm)
  have C2 := Lib.hid (fun W (k : Keep w W) => mcheckShares_any m vc vi vs vg W (HO.out.keep k) hm)
  have C3 := Lib.hid (fun W (k : Keep w W) => mcheckGrants_any m vc vi vs vg W (HO.out.keep k) hm)
  have C4 := Lib.hid (fun W (k : Keep w W) => mcheckStart_any m vc vi vs vg W (HO.out.keep k) hm)
  have OW := Lib.hid (manW_parts m)
  unfold manVal at C0 C1 C2 C3 C4 ⊢
  obtain ⟨W1, hW1⟩ : ∃ W1, W1 = (w.alloc (.cells #[vc, vi, vs, vg, .string m.start.comp, .string m.start.from_, .string m.start.name] 34)).alloc (.cells #[.func (.func 26) #[] #[], .func (.func 27) #[] #[], .func (.func 28) #[] #[], .func (.func 29) #[] #[], .func (.func 30) #[] #[]] 51) := ⟨_, rfl⟩
  have K0 : Hid (Keep w W1) := Lib.hid (by rw [hW1]; exact ((Keep.refl _).alloc _).alloc _)
  have BO : Hid (Box W1 w.heap.size #[vc, vi, vs, vg, .string m.start.comp, .string m.start.from_, .string m.start.name]) := Lib.hid (by rw [hW1]; exact (Box.new _ _ _).alloc _)
  have BL : Hid (Box W1 (w.heap.size + 1) #[.func (.func 26) #[] #[], .func (.func 27) #[] #[], .func (.func 28) #[] #[], .func (.func 29) #[] #[], .func (.func 30) #[] #[]]) := Lib.hid (by rw [hW1]; exact Box.new1 _ _ _ _)
  have KK : Hid (Keep W1 W1) := Lib.hid (Keep.refl _)
  clear h hm HO
  go_enter Tryz.func11, Tryz.ntmps11
  go_wp2_with fail
  rw [← hW1]
  clear hW1
  have co0 := BO.out.cells
  have cl0 := BL.out.cells
  refine wp_loop_rounds 6 ?_
  rw [rounds_succ]
  go_wp2_with fail
  refine (C0.out _ (K0.out.trans KK.out)).mono ?_
  rintro e w1 ⟨v, rfl, hv, hk⟩
  clear co0 cl0
  by_cases z : (mCompsW m).2.2 = 0
  rotate_left
  · obtain ⟨q, rfl, hB⟩ := mOErr_box hv z
    have EQ : Hid (manW m = mCompsW m) := Lib.hid (by
      rw [OW.out]
      exact orM_not z
      )
    have HV := Lib.hid hv
    have K2 := Lib.hid (K0.out.trans (KK.out.trans hk))
    clear hv hB hk z
    unfold faultP
    go_wp2_with fail
    go_ret
    refine ⟨_, rfl, ?_, K2.out⟩
    rw [EQ.out]
    exact HV.out
  obtain rfl : v = .nilIface := mOErr_ok hv z
  have Z0 := Lib.hid z
  have KK0 := Lib.hid (KK.out.trans hk)
  clear hv hk z KK
  have KK := Lib.hid KK0.out
  have co0 := (BO.out.keep KK.out).cells
  have cl0 := (BL.out.keep KK.out).cells
  clear KK0
  go_wp2_with fail
  rw [rounds_succ]
  go_wp2_with fail
  refine (C1.out _ (K0.out.trans KK.out)).mono ?_
  rintro e w2 ⟨v, rfl, hv, hk⟩
  clear co0 cl0
  by_cases z : (mImpsW m).2.2 = 0
  rotate_left
  · obtain ⟨q, rfl, hB⟩ := mOErr_box hv z
    have EQ : Hid (manW m = mImpsW m) := Lib.hid (by
      rw [OW.out]
      rw [orM_zero Z0.out]
      exact orM_not z
      )
    have HV := Lib.hid hv
    have K2 := Lib.hid (K0.out.trans (KK.out.trans hk))
    clear hv hB hk z
    unfold faultP
    go_wp2_with fail
    go_ret
    refine ⟨_, rfl, ?_, K2.out⟩
    rw [EQ.out]
    exact HV.out
  obtain rfl : v = .nilIface := mOErr_ok hv z
  have Z1 := Lib.hid z
  have KK1 := Lib.hid (KK.out.trans hk)
  clear hv hk z KK
  have KK := Lib.hid KK1.out
  have co0 := (BO.out.keep KK.out).cells
  have cl0 := (BL.out.keep KK.out).cells
  clear KK1
  go_wp2_with fail
  rw [rounds_succ]
  go_wp2_with fail
  refine (C2.out _ (K0.out.trans KK.out)).mono ?_
  rintro e w3 ⟨v, rfl, hv, hk⟩
  clear co0 cl0
  by_cases z : (mShrsW m).2.2 = 0
  rotate_left
  · obtain ⟨q, rfl, hB⟩ := mOErr_box hv z
    have EQ : Hid (manW m = mShrsW m) := Lib.hid (by
      rw [OW.out]
      rw [orM_zero Z0.out]
      rw [orM_zero Z1.out]
      exact orM_not z
      )
    have HV := Lib.hid hv
    have K2 := Lib.hid (K0.out.trans (KK.out.trans hk))
    clear hv hB hk z
    unfold faultP
    go_wp2_with fail
    go_ret
    refine ⟨_, rfl, ?_, K2.out⟩
    rw [EQ.out]
    exact HV.out
  obtain rfl : v = .nilIface := mOErr_ok hv z
  have Z2 := Lib.hid z
  have KK2 := Lib.hid (KK.out.trans hk)
  clear hv hk z KK
  have KK := Lib.hid KK2.out
  have co0 := (BO.out.keep KK.out).cells
  have cl0 := (BL.out.keep KK.out).cells
  clear KK2
  go_wp2_with fail
  rw [rounds_succ]
  go_wp2_with fail
  refine (C3.out _ (K0.out.trans KK.out)).mono ?_
  rintro e w4 ⟨v, rfl, hv, hk⟩
  clear co0 cl0
  by_cases z : (mGrnsW m).2.2 = 0
  rotate_left
  · obtain ⟨q, rfl, hB⟩ := mOErr_box hv z
    have EQ : Hid (manW m = mGrnsW m) := Lib.hid (by
      rw [OW.out]
      rw [orM_zero Z0.out]
      rw [orM_zero Z1.out]
      rw [orM_zero Z2.out]
      exact orM_not z
      )
    have HV := Lib.hid hv
    have K2 := Lib.hid (K0.out.trans (KK.out.trans hk))
    clear hv hB hk z
    unfold faultP
    go_wp2_with fail
    go_ret
    refine ⟨_, rfl, ?_, K2.out⟩
    rw [EQ.out]
    exact HV.out
  obtain rfl : v = .nilIface := mOErr_ok hv z
  have Z3 := Lib.hid z
  have KK3 := Lib.hid (KK.out.trans hk)
  clear hv hk z KK
  have KK := Lib.hid KK3.out
  have co0 := (BO.out.keep KK.out).cells
  have cl0 := (BL.out.keep KK.out).cells
  clear KK3
  go_wp2_with fail
  rw [rounds_succ]
  go_wp2_with fail
  refine (C4.out _ (K0.out.trans KK.out)).mono ?_
  rintro e w5 ⟨v, rfl, hv, hk⟩
  clear co0 cl0
  by_cases z : (mStartW m).2.2 = 0
  rotate_left
  · obtain ⟨q, rfl, hB⟩ := mOErr_box hv z
    have EQ : Hid (manW m = mStartW m) := Lib.hid (by
      rw [OW.out]
      rw [orM_zero Z0.out]
      rw [orM_zero Z1.out]
      rw [orM_zero Z2.out]
      rw [orM_zero Z3.out]
      )
    have HV := Lib.hid hv
    have K2 := Lib.hid (K0.out.trans (KK.out.trans hk))
    clear hv hB hk z
    unfold faultP
    go_wp2_with fail
    go_ret
    refine ⟨_, rfl, ?_, K2.out⟩
    rw [EQ.out]
    exact HV.out
  obtain rfl : v = .nilIface := mOErr_ok hv z
  have Z4 := Lib.hid z
  have KK4 := Lib.hid (KK.out.trans hk)
  clear hv hk z KK
  have KK := Lib.hid KK4.out
  have co0 := (BO.out.keep KK.out).cells
  have cl0 := (BL.out.keep KK.out).cells
  clear KK4
  go_wp2_with fail
  rw [rounds_succ]
  go_wp2_with fail
  go_ret
  refine ⟨_, rfl, ?_, K0.out.trans KK.out⟩
  rw [OW.out, orM_zero Z0.out, orM_zero Z1.out, orM_zero Z2.out, orM_zero Z3.out, mStartW_ok Z4.out]
  exact .isOk
theorem mCheck {Pre : World → Prop} : PManCheck Pre := fun m vc vi vs vg w h hm _ => (mcheck_any m vc vi vs vg w h hm).mono fun _ _ ⟨v, h1, h2, h3⟩ => ⟨h3, v, h1, h2⟩
theorem mIndex : PManIndex := fun m vc vi vs vg n w h hm _ => pindexM_any m vc vi vs vg n w h (by have := hm.comps; omega)
end Go.Proofs.YteddflbidafebaaGreatDoor
