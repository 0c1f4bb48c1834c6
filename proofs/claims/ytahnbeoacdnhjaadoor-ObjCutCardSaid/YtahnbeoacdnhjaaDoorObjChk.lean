/- The reference's CheckObject: the first that is wrong of an object. -/
import Derived.Test.YtahnbeoacdnhjaaDoorObjSym
import Derived.Test.YtahnbeoacdnhjaaDoorObjRel
namespace Go.Proofs.YtahnbeoacdnhjaaDoor
set_option linter.unusedVariables false
set_option linter.unusedSimpArgs false
open Go.RowKit
theorem rwrong_any (p : ByteArray) (a e : Int) (w : World) : Calls Tryd.prog 16 #[.string p, .int .i64 a, .int .i64 e] w fun x w' => x = .returned (.agg #[.string p, .int .i64 a, .int .i64 e]) ∧ Keep w w' := by
  go_enter Tryd.func16, Tryd.ntmps16
  go_wp2_with fail
  have B := Box.new w #[.string p, .int .i64 a, .int .i64 e] 31
  first
    | (go_ret; exact ⟨rfl, Keep.refl _⟩)
    | (refine bodyPost_ret (v := .agg #[.string p, .int .i64 a, .int .i64 e]) (by simp [results, Tryd.results16, go_sem]; done) rfl ⟨rfl, ?_⟩
       repeat (with_reducible refine Keep.setAt ?_ ?_ _; · first | omega | (simp; done) | (simp; omega))
       first | exact (Keep.refl _).alloc _ | exact Keep.refl _)
theorem objW_few {o : ObjV} (hf : ObjFew o) : objW o = if goodB o.name = false then ((nameT, 0, 12) : WrV) else if o.code.length % 4 ≠ 0 then (codeT, o.code.length, 5) else if o.data.length % 16 ≠ 0 then (dataT, o.data.length, 5) else
    match firstE (symE o) o.syms.length 0 with
    | some (i, e) => (symT, i, e)
    | none => match firstE (relE o) o.rels.length 0 with
      | some (i, e) => (relT, i, e)
      | none => okW := by
  have h1 := hf.code
  have h2 := hf.data
  have h3 := hf.syms
  have h4 := hf.rels
  unfold objW
  rw [if_neg (show ¬ o.code.length > 16384 by omega), if_neg (show ¬ o.data.length > 16384 by omega), if_neg (show ¬ o.syms.length > 256 by omega), if_neg (show ¬ o.rels.length > 256 by omega)]
  rfl
set_option maxHeartbeats 4000000 in
set_option maxRecDepth 100000 in
theorem rcheck_any (o : ObjV) (vc vd vs vr : Value) (w : World) (h : ObjAt w o vc vd vs vr) (hf : ObjFew o) (ho : ObjNum o) :
    Calls Tryd.prog 6 #[objVal o vc vd vs vr] w fun e w' => e = .returned (wrVal (objW o)) ∧ Keep w w' := by
  have HO := Lib.hid h
  have HF := Lib.hid hf
  have HN := Lib.hid ho
  have HE := Lib.hid (objW_few hf)
  have fc := hf.code
  have fd := hf.data
  have fs := hf.syms
  have fr := hf.rels
  have CG := Lib.hid (fun W => rgood_any o.name (by have := hf.name; omega) W)
  have CW := Lib.hid (fun p a e W => rwrong_any p a e W)
  obtain ⟨pc, cc, rfl, hcc, _, _⟩ := h.code
  obtain ⟨pd, cd, rfl, hcd, _, _⟩ := h.data
  obtain ⟨ps, cs, rfl, hcs, _, _⟩ := h.syms
  obtain ⟨pr, cr, rfl, hcr, _, _⟩ := h.rels
  unfold objVal
  clear h hf ho hcc hcd hcs hcr
  have K0 : Hid (Keep w ((w.alloc (.cells #[.string o.name, .slice pc o.code.length cc, .slice pd o.data.length cd, .slice ps o.syms.length cs, .slice pr o.rels.length cr] 36)).alloc (.cells #[.string ⟨#[]⟩, .int .i64 0, .int .i64 0] 31))) := Lib.hid (((Keep.refl _).alloc _).alloc _)
  have B0 : Hid (Box ((w.alloc (.cells #[.string o.name, .slice pc o.code.length cc, .slice pd o.data.length cd, .slice ps o.syms.length cs, .slice pr o.rels.length cr] 36)).alloc (.cells #[.string ⟨#[]⟩, .int .i64 0, .int .i64 0] 31)) w.heap.size #[.string o.name, .slice pc o.code.length cc, .slice pd o.data.length cd, .slice ps o.syms.length cs, .slice pr o.rels.length cr]) := Lib.hid ((Box.new _ _ _).alloc _)
  have R0 : Hid (Box ((w.alloc (.cells #[.string o.name, .slice pc o.code.length cc, .slice pd o.data.length cd, .slice ps o.syms.length cs, .slice pr o.rels.length cr] 36)).alloc (.cells #[.string ⟨#[]⟩, .int .i64 0, .int .i64 0] 31)) (w.heap.size + 1) #[.string ⟨#[]⟩, .int .i64 0, .int .i64 0]) := Lib.hid (Box.new1 _ _ _ _)
  have r0 := R0.out.cells
  have rf := R0.out.thawed
  cases g : goodB o.name with
  | false =>
    rw [g] at CG
    go_enter Tryd.func6, Tryd.ntmps6
    go_wp2_with ((with_reducible refine (CG.out _).mono ?_); rintro e w' ⟨rfl, rfl⟩)
    refine (CW.out _ _ _ _).mono ?_
    rintro e w2 ⟨rfl, hk⟩
    have K2 := Lib.hid (K0.out.trans hk)
    have R2 := R0.out.keep hk
    clear r0 rf hk
    have r0 := R2.cells
    have rf := R2.thawed
    go_wp2_with fail
    refine bodyPost_ret (v := wrVal (nameT, 0, 12)) (by simp [results, Tryd.results6, go_sem, r0, wrVal, nameT, codeT, dataT, symT, relT, okW]; done) rfl ⟨?_, ?_⟩
    rotate_left
    · repeat (with_reducible refine Keep.setAt ?_ ?_ _; · first | omega | (simp; done) | (simp; omega))
      exact K2.out
    rw [HE.out, if_pos g]
  | true =>
    rw [g] at CG
    rcases Bool.eq_false_or_eq_true (((o.code.length : Int) % 4) == 0) with c1 | c1
    rotate_left
    · have c2 : (((o.code.length : Int) % 4) != 0) = true := by rw [bne, c1]; rfl
      have c3 : o.code.length % 4 ≠ 0 := by have := beq_eq_false_iff_ne.1 c1; omega
      have C3 := Lib.hid c3
      clear c3
      go_enter Tryd.func6, Tryd.ntmps6
      go_wp2_with ((with_reducible refine (CG.out _).mono ?_); rintro e w' ⟨rfl, rfl⟩)
      refine (CW.out _ _ _ _).mono ?_
      rintro e w2 ⟨rfl, hk⟩
      have K2 := Lib.hid (K0.out.trans hk)
      have R2 := R0.out.keep hk
      clear r0 rf hk
      have r0 := R2.cells
      have rf := R2.thawed
      go_wp2_with fail
      refine bodyPost_ret (v := wrVal (codeT, o.code.length, 5)) (by simp [results, Tryd.results6, go_sem, r0, wrVal, nameT, codeT, dataT, symT, relT, okW]; done) rfl ⟨?_, ?_⟩
      rotate_left
      · repeat (with_reducible refine Keep.setAt ?_ ?_ _; · first | omega | (simp; done) | (simp; omega))
        exact K2.out
      rw [HE.out, if_neg (by rw [g]; decide), if_pos C3.out]
    have c2 : (((o.code.length : Int) % 4) != 0) = false := by rw [bne, c1]; rfl
    have C3 := Lib.hid (show ¬ o.code.length % 4 ≠ 0 by have := beq_iff_eq.1 c1; omega)
    rcases Bool.eq_false_or_eq_true (((o.data.length : Int) % 16) == 0) with d1 | d1
    rotate_left
    · have d2 : (((o.data.length : Int) % 16) != 0) = true := by rw [bne, d1]; rfl
      have D3 := Lib.hid (show o.data.length % 16 ≠ 0 by have := beq_eq_false_iff_ne.1 d1; omega)
      go_enter Tryd.func6, Tryd.ntmps6
      go_wp2_with ((with_reducible refine (CG.out _).mono ?_); rintro e w' ⟨rfl, rfl⟩)
      refine (CW.out _ _ _ _).mono ?_
      rintro e w2 ⟨rfl, hk⟩
      have K2 := Lib.hid (K0.out.trans hk)
      have R2 := R0.out.keep hk
      clear r0 rf hk
      have r0 := R2.cells
      have rf := R2.thawed
      go_wp2_with fail
      refine bodyPost_ret (v := wrVal (dataT, o.data.length, 5)) (by simp [results, Tryd.results6, go_sem, r0, wrVal, nameT, codeT, dataT, symT, relT, okW]; done) rfl ⟨?_, ?_⟩
      rotate_left
      · repeat (with_reducible refine Keep.setAt ?_ ?_ _; · first | omega | (simp; done) | (simp; omega))
        exact K2.out
      rw [HE.out, if_neg (by rw [g]; decide), if_neg C3.out, if_pos D3.out]
    have d2 : (((o.data.length : Int) % 16) != 0) = false := by rw [bne, d1]; rfl
    have D3 := Lib.hid (show ¬ o.data.length % 16 ≠ 0 by have := beq_iff_eq.1 d1; omega)
    have HE2 := Lib.hid (show objW o = _ by rw [HE.out, if_neg (by rw [g]; decide), if_neg C3.out, if_neg D3.out])
    go_enter Tryd.func6, Tryd.ntmps6
    go_wp2_with ((with_reducible refine (CG.out _).mono ?_); rintro e w' ⟨rfl, rfl⟩)
    clear r0 rf
    have AS := Lib.hid (Keep.refl ((w.alloc (.cells #[.string o.name, .slice pc o.code.length cc, .slice pd o.data.length cd, .slice ps o.syms.length cs, .slice pr o.rels.length cr] 36)).alloc (.cells #[.string ⟨#[]⟩, .int .i64 0, .int .i64 0] 31)))
    go_loopw [3] (fun i wr => ∃ k : Nat, k ≤ o.syms.length ∧ i = .int .i64 (k : Int) ∧ firstE (symE o) o.syms.length 0 = firstE (symE o) (o.syms.length - k) k ∧ Keep ((w.alloc (.cells #[.string o.name, .slice pc o.code.length cc, .slice pd o.data.length cd, .slice ps o.syms.length cs, .slice pr o.rels.length cr] 36)).alloc (.cells #[.string ⟨#[]⟩, .int .i64 0, .int .i64 0] 31)) wr) (fun i _ => o.syms.length - (intOf i).toNat)
    case atStart => exact ⟨0, Nat.zero_le _, rfl, rfl, AS.out⟩
    case round =>
      obtain ⟨k, hk, rfl, hfi, hK⟩ := hrel
      have HFI := Lib.hid hfi
      have HK := Lib.hid hK
      have c0 := (B0.out.keep hK).cells
      clear hfi hK
      by_cases hlt : k < o.syms.length
      · have hki : (k : Int) < (o.syms.length : Int) := by omega
        have CS := Lib.hid (rsym_any o _ _ _ _ k wr (HO.out.keep (K0.out.trans HK.out)) HF.out HN.out hlt)
        unfold objVal at CS
        obtain ⟨se, hse⟩ : ∃ se, symE o k = se := ⟨_, rfl⟩
        rw [hse] at CS
        have HSE := Lib.hid hse
        clear hse
        rcases Bool.eq_false_or_eq_true (se == 0) with z | z
        · have z2 : (se != 0) = false := by rw [bne, z]; rfl
          have HN2 := Lib.hid (HFI.out.trans (first_go hlt (by rw [HSE.out]; exact beq_iff_eq.1 z)))
          go_wp2_with fail
          refine CS.out.mono ?_
          rintro e w2 ⟨rfl, hk2⟩
          have HK2 := Lib.hid (HK.out.trans hk2)
          clear hk2
          go_wp2_with fail
          go_roundw
          case rel => exact ⟨k + 1, hlt, by go_num, HN2.out, HK2.out⟩
          case measure => simp [intOf]; omega
        · have z2 : (se != 0) = true := by rw [bne, z]; rfl
          have HH := Lib.hid (HFI.out.trans (first_hit hlt (by rw [HSE.out]; exact beq_eq_false_iff_ne.1 z)))
          go_wp2_with fail
          refine CS.out.mono ?_
          rintro e w2 ⟨rfl, hk2⟩
          have HK2 := Lib.hid (HK.out.trans hk2)
          clear hk2
          go_wp2_with fail
          refine (CW.out _ _ _ _).mono ?_
          rintro e w3 ⟨rfl, hk3⟩
          have K3 := Lib.hid (K0.out.trans (HK2.out.trans hk3))
          have R3 := R0.out.keep (HK2.out.trans hk3)
          clear hk3
          have r0 := R3.cells
          have rf := R3.thawed
          go_wp2_with fail
          refine bodyPost_ret (v := wrVal (symT, k, se)) (by simp [results, Tryd.results6, go_sem, r0, wrVal, nameT, codeT, dataT, symT, relT, okW]; done) rfl ⟨?_, ?_⟩
          rotate_left
          · repeat (with_reducible refine Keep.setAt ?_ ?_ _; · first | omega | (simp; done) | (simp; omega))
            exact K3.out
          rw [HE2.out, HH.out, HSE.out]
      · obtain rfl : k = o.syms.length := by omega
        have HS0 : Hid (firstE (symE o) o.syms.length 0 = none) := Lib.hid (by rw [HFI.out, Nat.sub_self]; rfl)
        have AS := Lib.hid HK.out
        go_wp2_with fail
        go_loopw [5] (fun i wr => ∃ k : Nat, k ≤ o.rels.length ∧ i = .int .i64 (k : Int) ∧ firstE (relE o) o.rels.length 0 = firstE (relE o) (o.rels.length - k) k ∧ Keep ((w.alloc (.cells #[.string o.name, .slice pc o.code.length cc, .slice pd o.data.length cd, .slice ps o.syms.length cs, .slice pr o.rels.length cr] 36)).alloc (.cells #[.string ⟨#[]⟩, .int .i64 0, .int .i64 0] 31)) wr) (fun i _ => o.rels.length - (intOf i).toNat)
        case atStart => exact ⟨0, Nat.zero_le _, rfl, rfl, AS.out⟩
        case round =>
          obtain ⟨k, hk, rfl, hfi, hK⟩ := hrel
          have HFI := Lib.hid hfi
          have HK := Lib.hid hK
          have c0 := (B0.out.keep hK).cells
          clear hfi hK
          by_cases hlt : k < o.rels.length
          · have hki : (k : Int) < (o.rels.length : Int) := by omega
            have CS := Lib.hid (rrel_any o _ _ _ _ k wr (HO.out.keep (K0.out.trans HK.out)) HF.out HN.out hlt)
            unfold objVal at CS
            obtain ⟨se, hse⟩ : ∃ se, relE o k = se := ⟨_, rfl⟩
            rw [hse] at CS
            have HSE := Lib.hid hse
            clear hse
            rcases Bool.eq_false_or_eq_true (se == 0) with z | z
            · have z2 : (se != 0) = false := by rw [bne, z]; rfl
              have HN2 := Lib.hid (HFI.out.trans (first_go hlt (by rw [HSE.out]; exact beq_iff_eq.1 z)))
              go_wp2_with fail
              refine CS.out.mono ?_
              rintro e w2 ⟨rfl, hk2⟩
              have HK2 := Lib.hid (HK.out.trans hk2)
              clear hk2
              go_wp2_with fail
              go_roundw
              case rel => exact ⟨k + 1, hlt, by go_num, HN2.out, HK2.out⟩
              case measure => simp [intOf]; omega
            · have z2 : (se != 0) = true := by rw [bne, z]; rfl
              have HH := Lib.hid (HFI.out.trans (first_hit hlt (by rw [HSE.out]; exact beq_eq_false_iff_ne.1 z)))
              go_wp2_with fail
              refine CS.out.mono ?_
              rintro e w2 ⟨rfl, hk2⟩
              have HK2 := Lib.hid (HK.out.trans hk2)
              clear hk2
              go_wp2_with fail
              refine (CW.out _ _ _ _).mono ?_
              rintro e w3 ⟨rfl, hk3⟩
              have K3 := Lib.hid (K0.out.trans (HK2.out.trans hk3))
              have R3 := R0.out.keep (HK2.out.trans hk3)
              clear hk3
              have r0 := R3.cells
              have rf := R3.thawed
              go_wp2_with fail
              refine bodyPost_ret (v := wrVal (relT, k, se)) (by simp [results, Tryd.results6, go_sem, r0, wrVal, nameT, codeT, dataT, symT, relT, okW]; done) rfl ⟨?_, ?_⟩
              rotate_left
              · repeat (with_reducible refine Keep.setAt ?_ ?_ _; · first | omega | (simp; done) | (simp; omega))
                exact K3.out
              rw [HE2.out, HS0.out, HH.out, HSE.out]
          · obtain rfl : k = o.rels.length := by omega
            have HR0 : Hid (firstE (relE o) o.rels.length 0 = none) := Lib.hid (by rw [HFI.out, Nat.sub_self]; rfl)
            have KE := Lib.hid (K0.out.trans HK.out)
            have RE := R0.out.keep HK.out
            have r0 := RE.cells
            have rf := RE.thawed
            go_wp2_with fail
            refine bodyPost_ret (v := wrVal okW) (by simp [results, Tryd.results6, go_sem, r0, wrVal, nameT, codeT, dataT, symT, relT, okW]; done) rfl ⟨?_, ?_⟩
            rotate_left
            · repeat (with_reducible refine Keep.setAt ?_ ?_ _; · first | omega | (simp; done) | (simp; omega))
              exact KE.out
            rw [HE2.out, HS0.out, HR0.out]
end Go.Proofs.YtahnbeoacdnhjaaDoor
