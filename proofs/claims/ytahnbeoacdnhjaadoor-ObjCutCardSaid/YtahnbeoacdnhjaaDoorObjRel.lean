/- The reference's rel: what is wrong of a relocation. -/
import Derived.Test.YtahnbeoacdnhjaaDoorObjFind
import Derived.Test.YtahnbeoacdnhjaaDoorGBase
import Derived.IntWalk
namespace Go.Proofs.YtahnbeoacdnhjaaDoor
set_option linter.unusedVariables false
set_option linter.unusedSimpArgs false
open Go.RowKit
def prevR (o : ObjV) (i : Nat) (of : Int) : Bool := match i with
  | 0 => false
  | j + 1 => match o.rels[j]? with
    | none => false
    | some p => decide (of ≤ p.off)
/-- What is asked of each kind. -/
def relK (o : ObjV) (kd : Int) (cp nm : ByteArray) (pm : Int) : Int :=
  if kd = 1 then
    match findS o.syms nm with
    | none => 12
    | some s => if cp ≠ ⟨#[]⟩ then 17 else if bits .andNot .u16 pm (mostP s.data) ≠ 0 then 3 else 0
  else if kd = 2 then (if (!goodB cp || !goodB nm) = true then 12 else if pm ≠ 0 then 17 else 0)
  else (if goodB nm = false then 12 else if cp ≠ ⟨#[]⟩ ∨ pm ≠ 0 then 17 else 0)
theorem relE_F {o : ObjV} {i : Nat} {kd of : Int} {cp nm : ByteArray} {pm : Int} (hs : o.rels[i]? = some ⟨kd, of, cp, nm, pm⟩) : relE o i =
    if kd < 1 ∨ 3 < kd then 17 else if prevR o i of = true then 13 else if of % 16 ≠ 0 then 5 else if of + 16 > o.data.length then 6 else relK o kd cp nm pm := by
  unfold relE prevR relK
  rw [hs]
  cases i <;> rfl
theorem ostr_no (s : ByteArray) (l : List UInt8) (h : ¬ s = ⟨l.toArray⟩) : (s.toList == l) = false := by
  rw [beq_eq_false_iff_ne]
  intro e
  apply h
  apply ByteArray.ext
  rw [← e, ByteArray.toList_eq]
set_option maxHeartbeats 4000000 in
set_option maxRecDepth 100000 in
theorem rrel_0 (o : ObjV) (vc vd vs vr : Value) (r : RelV) (hs : o.rels[0]? = some r) (w : World) (h : ObjAt w o vc vd vs vr) (hf : ObjFew o) (ho : ObjNum o) :
    Calls Tryd.prog 18 #[objVal o vc vd vs vr, .int .i64 0] w fun e w' => e = .returned (.int .i64 (relE o 0)) ∧ Keep w w' := by
  have HO := Lib.hid h
  obtain ⟨u0, u1, u2, u3⟩ := ho.rels r (List.mem_of_getElem? hs)
  obtain ⟨u4, u5⟩ := ho.kinds r (List.mem_of_getElem? hs)
  have sc := hf.relC r (List.mem_of_getElem? hs)
  have sn := hf.relN r (List.mem_of_getElem? hs)
  obtain ⟨pd, cd, rfl, hcd, _, _⟩ := h.data
  obtain ⟨ps, cs, rfl, hcs, _, _⟩ := h.syms
  obtain ⟨b, off, cap, rfl, hcap, hlt, n0, n1, n2, n3, n4⟩ := h.rel hs
  have hi := (List.getElem?_eq_some_iff.1 hs).1
  have few := hf.rels
  have fewS := hf.syms
  have fd := hf.data
  have hii : (0 : Int) < (o.rels.length : Int) := by omega
  simp only [Nat.zero_mul, Nat.add_zero] at n0 n1 n2 n3 n4
  obtain ⟨kd, of, cp, nm, pm⟩ := r
  dsimp only at u0 u1 u2 u3 u4 u5 sc sn n0 n1 n2 n3 n4
  have HE := Lib.hid (relE_F hs)
  have CGc := Lib.hid (fun W => rgood_any cp (by omega) W)
  have CGn := Lib.hid (fun W => rgood_any nm (by omega) W)
  have CF := Lib.hid (fun W hW => rfind_any o vc _ _ _ nm W (ObjAt.keep HO.out hW) (by omega))
  unfold objVal at CF ⊢
  have ep : prevR o 0 of = false := rfl
  rw [ep] at HE
  clear ep
  have K0 : Hid (Keep w ((w.alloc (.cells #[.string o.name, vc, .slice pd o.data.length cd, .slice ps o.syms.length cs, .slice (some ⟨b, off, none⟩) o.rels.length cap] 36)).alloc (.cells #[.int .i64 kd, .int .u32 of, .string cp, .string nm, .int .u16 pm] 59))) := Lib.hid (((Keep.refl _).alloc _).alloc _)
  have B1 : Hid (Box ((w.alloc (.cells #[.string o.name, vc, .slice pd o.data.length cd, .slice ps o.syms.length cs, .slice (some ⟨b, off, none⟩) o.rels.length cap] 36)).alloc (.cells #[.int .i64 kd, .int .u32 of, .string cp, .string nm, .int .u16 pm] 59)) w.heap.size #[.string o.name, vc, .slice pd o.data.length cd, .slice ps o.syms.length cs, .slice (some ⟨b, off, none⟩) o.rels.length cap]) := Lib.hid ((Box.new _ _ _).alloc _)
  have B2 : Hid (Box ((w.alloc (.cells #[.string o.name, vc, .slice pd o.data.length cd, .slice ps o.syms.length cs, .slice (some ⟨b, off, none⟩) o.rels.length cap] 36)).alloc (.cells #[.int .i64 kd, .int .u32 of, .string cp, .string nm, .int .u16 pm] 59)) (w.heap.size + 1) #[.int .i64 kd, .int .u32 of, .string cp, .string nm, .int .u16 pm]) := Lib.hid (Box.new1 _ _ _ _)
  clear h hf ho hs hcd hcs hcap
  by_cases lo : kd < 1
  · go_enter Tryd.func18, Tryd.ntmps18
    go_wp2_with fail
    go_ret
    refine ⟨?_, K0.out⟩
    rw [HE.out, if_pos (.inl lo)] <;> rfl
  have lo' : decide (kd < 1) = false := decide_eq_false lo
  by_cases hi3 : 3 < kd
  · go_enter Tryd.func18, Tryd.ntmps18
    go_wp2_with fail
    go_ret
    refine ⟨?_, K0.out⟩
    rw [HE.out, if_pos (.inr hi3)] <;> rfl
  have hi3' : decide (3 < kd) = false := decide_eq_false hi3
  have KR := Lib.hid (show ¬ (kd < 1 ∨ 3 < kd) by omega)
  go_enter Tryd.func18, Tryd.ntmps18
  go_wp2_with fail
  refine region_grows (Keep _) (by kernel_rfl) (by kernel_rfl) (Keep.refl _).drew ?_
  repeat (first
    | (apply text_pass (by rfl); go_simp)
    | (apply text_step (by rfl)
       · intro W hW
         have c1 := (B1.out.keep hW).cells
         have c2 := (B2.out.keep hW).cells

         go_simp
         exact ⟨rfl, hW⟩
       go_simp))
  apply text_end
  intro W hW
  have KW := Lib.hid (K0.out.trans hW)
  have B1W := Lib.hid (B1.out.keep hW)
  have B2W := Lib.hid (B2.out.keep hW)
  have c1 := B1W.out.cells
  have c2 := B2W.out.cells
  clear hW n0 n1 n2 n3 n4
  have VR : Hid (¬ false = true) := Lib.hid (by decide)
  rcases Bool.eq_false_or_eq_true (of % 16 == 0) with a1 | a1
  rotate_left
  · have a2 : (of % 16 != 0) = true := by rw [bne, a1]; rfl
    go_wp2_with fail
    go_ret
    refine ⟨?_, KW.out⟩
    rw [HE.out, if_neg KR.out, if_neg VR.out, if_pos (beq_eq_false_iff_ne.1 a1)] <;> rfl
  have a2 : (of % 16 != 0) = false := by rw [bne, a1]; rfl
  have AR := Lib.hid (show ¬ of % 16 ≠ 0 from fun h => h (beq_iff_eq.1 a1))
  by_cases hl : (o.data.length : Int) < of + 16
  · have l1 : decide ((o.data.length : Int) < of + 16) = true := decide_eq_true hl
    go_wp2_with fail
    go_ret
    refine ⟨?_, KW.out⟩
    rw [HE.out, if_neg KR.out, if_neg VR.out, if_neg AR.out, if_pos hl] <;> rfl
  have l1 : decide ((o.data.length : Int) < of + 16) = false := decide_eq_false hl
  have LR := Lib.hid (show ¬ of + 16 > (o.data.length : Int) from hl)
  have HE2 : Hid (relE o 0 = relK o kd cp nm pm) := Lib.hid (by rw [HE.out, if_neg KR.out, if_neg VR.out, if_neg AR.out, if_neg LR.out])
  rcases (by omega : kd = 1 ∨ kd = 2 ∨ kd = 3) with rfl | rfl | rfl
  · have FS : ∃ fs, findS o.syms nm = fs := ⟨_, rfl⟩
    obtain ⟨fs, hfs⟩ := FS
    have CFW := Lib.hid (CF.out W KW.out)
    unfold FindR at CFW
    rw [hfs] at CFW
    have HF := Lib.hid hfs
    clear hfs CF
    cases fs with
    | none =>
      simp only [symVal, noSym] at CFW
      go_wp2_with fail
      refine CFW.out.mono ?_
      rintro e W2 ⟨rfl, hk2⟩
      have KW2 := Lib.hid (KW.out.trans hk2)
      clear hk2 CFW c1 c2
      go_wp2_with fail
      go_ret
      refine ⟨?_, KW2.out.alloc _⟩
      rw [HE2.out, show relK o 1 cp nm pm = 12 by unfold relK; rw [if_pos rfl, HF.out]] <;> rfl
    | some s =>
      obtain ⟨sn1, sd, so, sx⟩ := s
      simp only [symVal] at CFW
      by_cases ce : cp.toList = []
      rotate_left
      · have ce2 : cp.toList.isEmpty = false := by
          cases h : cp.toList with
          | nil => exact absurd h ce
          | cons a l => rfl
        go_wp2_with fail
        refine CFW.out.mono ?_
        rintro e W2 ⟨rfl, hk2⟩
        have KW2 := Lib.hid (KW.out.trans hk2)
        have d2 := fun o => (Box.alloc (B2W.out.keep hk2) o).cells
        clear hk2 CFW c1 c2
        go_wp2_with fail
        go_ret
        refine ⟨?_, KW2.out.alloc _⟩
        rw [HE2.out, show relK o 1 cp nm pm = 17 by unfold relK; rw [if_pos rfl, HF.out]; exact if_pos (by rintro rfl; exact ce (by rw [ByteArray.toList_eq]))] <;> rfl
      have ce1 : cp = ⟨#[]⟩ := by
        apply ByteArray.ext
        apply Array.ext'
        rw [← ByteArray.toList_eq]; exact ce
      have CE := Lib.hid ce1
      clear ce1
      have CM := Lib.hid (fun W => rmost_any sd W)
      have MV : ∃ mv, mostP sd = mv ∧ (mv = 27 ∨ mv = 13) := ⟨_, rfl, by cases sd <;> simp [mostP]⟩
      obtain ⟨mv, hmv, hm2⟩ := MV
      rw [hmv] at CM
      go_wp2_with fail
      refine CFW.out.mono ?_
      rintro e W2 ⟨rfl, hk2⟩
      have KW2 := Lib.hid (KW.out.trans hk2)
      have D2 := Lib.hid (fun o => Box.alloc (B2W.out.keep hk2) o)
      have d2 := fun o => (D2.out o).cells
      have D3 := Lib.hid (fun T => Box.new W2 #[.string sn1, .bool sd, .int .u32 so, .bool sx] T)
      clear hk2 CFW c1 c2
      go_wp2_with fail
      refine region_grows (Keep _) (by kernel_rfl) (by kernel_rfl) (Keep.refl _).drew ?_
      repeat (first
        | (apply text_pass (by rfl); go_simp)
        | (apply text_step (by rfl)
           · intro W hW
             have e2 := ((D2.out _).keep hW).cells
             have e3 := ((D3.out _).keep hW).cells
             go_simp
             first
               | exact ⟨rfl, hW⟩
               | (apply yes_enter; go_at_call 40; refine (CM.out _).mono ?_; rintro e w' ⟨rfl, rfl⟩; exact ⟨rfl, hW⟩)
           go_simp))
      apply text_end
      intro W3 hW3
      have KW3 := Lib.hid ((KW2.out.alloc _).trans hW3)
      clear hW3 d2
      rcases Bool.eq_false_or_eq_true (bits .andNot .u16 pm mv != 0) with mz | mz
      · go_wp2_with fail
        go_ret
        refine ⟨?_, KW3.out⟩
        rw [HE2.out, show relK o 1 cp nm pm = 3 by unfold relK; rw [if_pos rfl, HF.out]; simp only; rw [if_neg (fun h => h CE.out), hmv, if_pos (by simpa using mz)]] <;> rfl
      · go_wp2_with fail
        go_ret
        refine ⟨?_, KW3.out⟩
        rw [HE2.out, show relK o 1 cp nm pm = 0 by unfold relK; rw [if_pos rfl, HF.out]; simp only; rw [if_neg (fun h => h CE.out), hmv, if_neg (by simpa using mz)]] <;> rfl
  · cases g : goodB cp with
    | false =>
      rw [g] at CGc
      go_wp2_with ((with_reducible refine (CGc.out _).mono ?_); rintro e w' ⟨rfl, rfl⟩)
      go_ret
      refine ⟨?_, KW.out⟩
      rw [HE2.out, show relK o 2 cp nm pm = 12 by unfold relK; rw [if_neg (by decide), if_pos rfl, g]; rfl] <;> rfl
    | true =>
      rw [g] at CGc
      cases g2 : goodB nm with
      | false =>
        rw [g2] at CGn
        go_wp2_with (first | ((with_reducible refine (CGc.out _).mono ?_); rintro e w' ⟨rfl, rfl⟩) | ((with_reducible refine (CGn.out _).mono ?_); rintro e w' ⟨rfl, rfl⟩))
        go_ret
        refine ⟨?_, KW.out⟩
        rw [HE2.out, show relK o 2 cp nm pm = 12 by unfold relK; rw [if_neg (by decide), if_pos rfl, g, g2]; rfl] <;> rfl
      | true =>
        rw [g2] at CGn
        rcases Bool.eq_false_or_eq_true (pm != 0) with pz | pz
        · go_wp2_with (first | ((with_reducible refine (CGc.out _).mono ?_); rintro e w' ⟨rfl, rfl⟩) | ((with_reducible refine (CGn.out _).mono ?_); rintro e w' ⟨rfl, rfl⟩))
          go_ret
          refine ⟨?_, KW.out⟩
          rw [HE2.out, show relK o 2 cp nm pm = 17 by unfold relK; rw [if_neg (by decide), if_pos rfl, g, g2, if_neg (by decide), if_pos (by simpa using pz)]] <;> rfl
        · go_wp2_with (first | ((with_reducible refine (CGc.out _).mono ?_); rintro e w' ⟨rfl, rfl⟩) | ((with_reducible refine (CGn.out _).mono ?_); rintro e w' ⟨rfl, rfl⟩))
          go_ret
          refine ⟨?_, KW.out⟩
          rw [HE2.out, show relK o 2 cp nm pm = 0 by unfold relK; rw [if_neg (by decide), if_pos rfl, g, g2, if_neg (by decide), if_neg (by simpa using pz)]] <;> rfl
  · cases g : goodB nm with
    | false =>
      rw [g] at CGn
      go_wp2_with ((with_reducible refine (CGn.out _).mono ?_); rintro e w' ⟨rfl, rfl⟩)
      go_ret
      refine ⟨?_, KW.out⟩
      rw [HE2.out, show relK o 3 cp nm pm = 12 by unfold relK; rw [if_neg (by decide), if_neg (by decide), if_pos g]] <;> rfl
    | true =>
      rw [g] at CGn
      by_cases ce : cp.toList = []
      rotate_left
      · go_wp2_with ((with_reducible refine (CGn.out _).mono ?_); rintro e w' ⟨rfl, rfl⟩)
        go_ret
        refine ⟨?_, KW.out⟩
        rw [HE2.out, show relK o 3 cp nm pm = 17 by unfold relK; rw [if_neg (by decide), if_neg (by decide), if_neg (by rw [g]; decide), if_pos (.inl (by rintro rfl; exact ce (by rw [ByteArray.toList_eq])))]] <;> rfl
      have ce1 : cp = ⟨#[]⟩ := by
        apply ByteArray.ext
        apply Array.ext'
        rw [← ByteArray.toList_eq]; exact ce
      have CE := Lib.hid ce1
      clear ce1
      rcases Bool.eq_false_or_eq_true (pm != 0) with pz | pz
      · go_wp2_with ((with_reducible refine (CGn.out _).mono ?_); rintro e w' ⟨rfl, rfl⟩)
        go_ret
        refine ⟨?_, KW.out⟩
        rw [HE2.out, show relK o 3 cp nm pm = 17 by unfold relK; rw [if_neg (by decide), if_neg (by decide), if_neg (by rw [g]; decide), if_pos (.inr (by simpa using pz))]] <;> rfl
      · go_wp2_with ((with_reducible refine (CGn.out _).mono ?_); rintro e w' ⟨rfl, rfl⟩)
        go_ret
        refine ⟨?_, KW.out⟩
        rw [HE2.out, show relK o 3 cp nm pm = 0 by unfold relK; rw [if_neg (by decide), if_neg (by decide), if_neg (by rw [g]; decide), if_neg (by rintro (h | h); exact h CE.out; exact h (by simpa using pz))]] <;> rfl
set_option maxHeartbeats 4000000 in
set_option maxRecDepth 100000 in
theorem rrel_j (o : ObjV) (vc vd vs vr : Value) (j : Nat) (r p : RelV) (hs : o.rels[j + 1]? = some r) (hp : o.rels[j]? = some p) (w : World) (h : ObjAt w o vc vd vs vr) (hf : ObjFew o) (ho : ObjNum o) :
    Calls Tryd.prog 18 #[objVal o vc vd vs vr, .int .i64 ((j : Int) + 1)] w fun e w' => e = .returned (.int .i64 (relE o (j + 1))) ∧ Keep w w' := by
  have HO := Lib.hid h
  obtain ⟨u0, u1, u2, u3⟩ := ho.rels r (List.mem_of_getElem? hs)
  obtain ⟨u4, u5⟩ := ho.kinds r (List.mem_of_getElem? hs)
  have sc := hf.relC r (List.mem_of_getElem? hs)
  have sn := hf.relN r (List.mem_of_getElem? hs)
  obtain ⟨pd, cd, rfl, hcd, _, _⟩ := h.data
  obtain ⟨ps, cs, rfl, hcs, _, _⟩ := h.syms
  obtain ⟨b, off, cap, rfl, hcap, hlt, n0, n1, n2, n3, n4⟩ := h.rel hs
  obtain ⟨b', off', cap', h1', _, _, p0, p1, p2, p3, p4⟩ := h.rel hp
  simp only [Value.slice.injEq, Option.some.injEq, Addr.mk.injEq, and_true, true_and] at h1'
  obtain ⟨⟨rfl, rfl⟩, rfl⟩ := h1'
  have P1 := Lib.hid p1
  clear p0 p1 p2 p3 p4
  have wi : IntKind.i64.wrap (j : Int) = (j : Int) := by
    have := (List.getElem?_eq_some_iff.1 hs).1
    have := hf.rels
    rw [IntKind.wrap_i64]; omega
  have hi := (List.getElem?_eq_some_iff.1 hs).1
  have few := hf.rels
  have fewS := hf.syms
  have fd := hf.data
  have hii : (j : Int) + 1 < (o.rels.length : Int) := by omega
  have hi1 : (j : Int) < (o.rels.length : Int) := by omega
  obtain ⟨kd, of, cp, nm, pm⟩ := r
  dsimp only at u0 u1 u2 u3 u4 u5 sc sn n0 n1 n2 n3 n4
  have HE := Lib.hid (relE_F hs)
  have CGc := Lib.hid (fun W => rgood_any cp (by omega) W)
  have CGn := Lib.hid (fun W => rgood_any nm (by omega) W)
  have CF := Lib.hid (fun W hW => rfind_any o vc _ _ _ nm W (ObjAt.keep HO.out hW) (by omega))
  unfold objVal at CF ⊢
  have ep : prevR o (j + 1) of = decide (of ≤ p.off) := by unfold prevR; simp only [hp]
  rw [ep] at HE
  clear ep hp
  have K0 : Hid (Keep w ((w.alloc (.cells #[.string o.name, vc, .slice pd o.data.length cd, .slice ps o.syms.length cs, .slice (some ⟨b, off, none⟩) o.rels.length cap] 36)).alloc (.cells #[.int .i64 kd, .int .u32 of, .string cp, .string nm, .int .u16 pm] 59))) := Lib.hid (((Keep.refl _).alloc _).alloc _)
  have B1 : Hid (Box ((w.alloc (.cells #[.string o.name, vc, .slice pd o.data.length cd, .slice ps o.syms.length cs, .slice (some ⟨b, off, none⟩) o.rels.length cap] 36)).alloc (.cells #[.int .i64 kd, .int .u32 of, .string cp, .string nm, .int .u16 pm] 59)) w.heap.size #[.string o.name, vc, .slice pd o.data.length cd, .slice ps o.syms.length cs, .slice (some ⟨b, off, none⟩) o.rels.length cap]) := Lib.hid ((Box.new _ _ _).alloc _)
  have B2 : Hid (Box ((w.alloc (.cells #[.string o.name, vc, .slice pd o.data.length cd, .slice ps o.syms.length cs, .slice (some ⟨b, off, none⟩) o.rels.length cap] 36)).alloc (.cells #[.int .i64 kd, .int .u32 of, .string cp, .string nm, .int .u16 pm] 59)) (w.heap.size + 1) #[.int .i64 kd, .int .u32 of, .string cp, .string nm, .int .u16 pm]) := Lib.hid (Box.new1 _ _ _ _)
  clear h hf ho hs hcd hcs hcap
  by_cases lo : kd < 1
  · go_enter Tryd.func18, Tryd.ntmps18
    go_wp2_with fail
    go_ret
    refine ⟨?_, K0.out⟩
    rw [HE.out, if_pos (.inl lo)] <;> rfl
  have lo' : decide (kd < 1) = false := decide_eq_false lo
  by_cases hi3 : 3 < kd
  · go_enter Tryd.func18, Tryd.ntmps18
    go_wp2_with fail
    go_ret
    refine ⟨?_, K0.out⟩
    rw [HE.out, if_pos (.inr hi3)] <;> rfl
  have hi3' : decide (3 < kd) = false := decide_eq_false hi3
  have KR := Lib.hid (show ¬ (kd < 1 ∨ 3 < kd) by omega)
  go_enter Tryd.func18, Tryd.ntmps18
  go_wp2_with fail
  refine region_grows (Keep _) (by kernel_rfl) (by kernel_rfl) (Keep.refl _).drew ?_
  repeat (first
    | (apply text_pass (by rfl); go_simp)
    | (apply text_step (by rfl)
       · intro W hW
         have c1 := (B1.out.keep hW).cells
         have c2 := (B2.out.keep hW).cells
         have c3 := (K0.out.trans hW).cellOf P1.out
         go_simp
         exact ⟨rfl, hW⟩
       go_simp))
  apply text_end
  intro W hW
  have KW := Lib.hid (K0.out.trans hW)
  have B1W := Lib.hid (B1.out.keep hW)
  have B2W := Lib.hid (B2.out.keep hW)
  have c1 := B1W.out.cells
  have c2 := B2W.out.cells
  clear hW n0 n1 n2 n3 n4
  by_cases hv : of ≤ p.off
  · have v1 : decide (of ≤ p.off) = true := decide_eq_true hv
    go_wp2_with fail
    go_ret
    refine ⟨?_, KW.out⟩
    rw [HE.out, if_neg KR.out, if_pos v1] <;> rfl
  have v1 : decide (of ≤ p.off) = false := decide_eq_false hv
  have VR : Hid (¬ decide (of ≤ p.off) = true) := Lib.hid (by rw [v1]; decide)
  rcases Bool.eq_false_or_eq_true (of % 16 == 0) with a1 | a1
  rotate_left
  · have a2 : (of % 16 != 0) = true := by rw [bne, a1]; rfl
    go_wp2_with fail
    go_ret
    refine ⟨?_, KW.out⟩
    rw [HE.out, if_neg KR.out, if_neg VR.out, if_pos (beq_eq_false_iff_ne.1 a1)] <;> rfl
  have a2 : (of % 16 != 0) = false := by rw [bne, a1]; rfl
  have AR := Lib.hid (show ¬ of % 16 ≠ 0 from fun h => h (beq_iff_eq.1 a1))
  by_cases hl : (o.data.length : Int) < of + 16
  · have l1 : decide ((o.data.length : Int) < of + 16) = true := decide_eq_true hl
    go_wp2_with fail
    go_ret
    refine ⟨?_, KW.out⟩
    rw [HE.out, if_neg KR.out, if_neg VR.out, if_neg AR.out, if_pos hl] <;> rfl
  have l1 : decide ((o.data.length : Int) < of + 16) = false := decide_eq_false hl
  have LR := Lib.hid (show ¬ of + 16 > (o.data.length : Int) from hl)
  have HE2 : Hid (relE o (j + 1) = relK o kd cp nm pm) := Lib.hid (by rw [HE.out, if_neg KR.out, if_neg VR.out, if_neg AR.out, if_neg LR.out])
  rcases (by omega : kd = 1 ∨ kd = 2 ∨ kd = 3) with rfl | rfl | rfl
  · have FS : ∃ fs, findS o.syms nm = fs := ⟨_, rfl⟩
    obtain ⟨fs, hfs⟩ := FS
    have CFW := Lib.hid (CF.out W KW.out)
    unfold FindR at CFW
    rw [hfs] at CFW
    have HF := Lib.hid hfs
    clear hfs CF
    cases fs with
    | none =>
      simp only [symVal, noSym] at CFW
      go_wp2_with fail
      refine CFW.out.mono ?_
      rintro e W2 ⟨rfl, hk2⟩
      have KW2 := Lib.hid (KW.out.trans hk2)
      clear hk2 CFW c1 c2
      go_wp2_with fail
      go_ret
      refine ⟨?_, KW2.out.alloc _⟩
      rw [HE2.out, show relK o 1 cp nm pm = 12 by unfold relK; rw [if_pos rfl, HF.out]] <;> rfl
    | some s =>
      obtain ⟨sn1, sd, so, sx⟩ := s
      simp only [symVal] at CFW
      by_cases ce : cp.toList = []
      rotate_left
      · have ce2 : cp.toList.isEmpty = false := by
          cases h : cp.toList with
          | nil => exact absurd h ce
          | cons a l => rfl
        go_wp2_with fail
        refine CFW.out.mono ?_
        rintro e W2 ⟨rfl, hk2⟩
        have KW2 := Lib.hid (KW.out.trans hk2)
        have d2 := fun o => (Box.alloc (B2W.out.keep hk2) o).cells
        clear hk2 CFW c1 c2
        go_wp2_with fail
        go_ret
        refine ⟨?_, KW2.out.alloc _⟩
        rw [HE2.out, show relK o 1 cp nm pm = 17 by unfold relK; rw [if_pos rfl, HF.out]; exact if_pos (by rintro rfl; exact ce (by rw [ByteArray.toList_eq]))] <;> rfl
      have ce1 : cp = ⟨#[]⟩ := by
        apply ByteArray.ext
        apply Array.ext'
        rw [← ByteArray.toList_eq]; exact ce
      have CE := Lib.hid ce1
      clear ce1
      have CM := Lib.hid (fun W => rmost_any sd W)
      have MV : ∃ mv, mostP sd = mv ∧ (mv = 27 ∨ mv = 13) := ⟨_, rfl, by cases sd <;> simp [mostP]⟩
      obtain ⟨mv, hmv, hm2⟩ := MV
      rw [hmv] at CM
      go_wp2_with fail
      refine CFW.out.mono ?_
      rintro e W2 ⟨rfl, hk2⟩
      have KW2 := Lib.hid (KW.out.trans hk2)
      have D2 := Lib.hid (fun o => Box.alloc (B2W.out.keep hk2) o)
      have d2 := fun o => (D2.out o).cells
      have D3 := Lib.hid (fun T => Box.new W2 #[.string sn1, .bool sd, .int .u32 so, .bool sx] T)
      clear hk2 CFW c1 c2
      go_wp2_with fail
      refine region_grows (Keep _) (by kernel_rfl) (by kernel_rfl) (Keep.refl _).drew ?_
      repeat (first
        | (apply text_pass (by rfl); go_simp)
        | (apply text_step (by rfl)
           · intro W hW
             have e2 := ((D2.out _).keep hW).cells
             have e3 := ((D3.out _).keep hW).cells
             go_simp
             first
               | exact ⟨rfl, hW⟩
               | (apply yes_enter; go_at_call 40; refine (CM.out _).mono ?_; rintro e w' ⟨rfl, rfl⟩; exact ⟨rfl, hW⟩)
           go_simp))
      apply text_end
      intro W3 hW3
      have KW3 := Lib.hid ((KW2.out.alloc _).trans hW3)
      clear hW3 d2
      rcases Bool.eq_false_or_eq_true (bits .andNot .u16 pm mv != 0) with mz | mz
      · go_wp2_with fail
        go_ret
        refine ⟨?_, KW3.out⟩
        rw [HE2.out, show relK o 1 cp nm pm = 3 by unfold relK; rw [if_pos rfl, HF.out]; simp only; rw [if_neg (fun h => h CE.out), hmv, if_pos (by simpa using mz)]] <;> rfl
      · go_wp2_with fail
        go_ret
        refine ⟨?_, KW3.out⟩
        rw [HE2.out, show relK o 1 cp nm pm = 0 by unfold relK; rw [if_pos rfl, HF.out]; simp only; rw [if_neg (fun h => h CE.out), hmv, if_neg (by simpa using mz)]] <;> rfl
  · cases g : goodB cp with
    | false =>
      rw [g] at CGc
      go_wp2_with ((with_reducible refine (CGc.out _).mono ?_); rintro e w' ⟨rfl, rfl⟩)
      go_ret
      refine ⟨?_, KW.out⟩
      rw [HE2.out, show relK o 2 cp nm pm = 12 by unfold relK; rw [if_neg (by decide), if_pos rfl, g]; rfl] <;> rfl
    | true =>
      rw [g] at CGc
      cases g2 : goodB nm with
      | false =>
        rw [g2] at CGn
        go_wp2_with (first | ((with_reducible refine (CGc.out _).mono ?_); rintro e w' ⟨rfl, rfl⟩) | ((with_reducible refine (CGn.out _).mono ?_); rintro e w' ⟨rfl, rfl⟩))
        go_ret
        refine ⟨?_, KW.out⟩
        rw [HE2.out, show relK o 2 cp nm pm = 12 by unfold relK; rw [if_neg (by decide), if_pos rfl, g, g2]; rfl] <;> rfl
      | true =>
        rw [g2] at CGn
        rcases Bool.eq_false_or_eq_true (pm != 0) with pz | pz
        · go_wp2_with (first | ((with_reducible refine (CGc.out _).mono ?_); rintro e w' ⟨rfl, rfl⟩) | ((with_reducible refine (CGn.out _).mono ?_); rintro e w' ⟨rfl, rfl⟩))
          go_ret
          refine ⟨?_, KW.out⟩
          rw [HE2.out, show relK o 2 cp nm pm = 17 by unfold relK; rw [if_neg (by decide), if_pos rfl, g, g2, if_neg (by decide), if_pos (by simpa using pz)]] <;> rfl
        · go_wp2_with (first | ((with_reducible refine (CGc.out _).mono ?_); rintro e w' ⟨rfl, rfl⟩) | ((with_reducible refine (CGn.out _).mono ?_); rintro e w' ⟨rfl, rfl⟩))
          go_ret
          refine ⟨?_, KW.out⟩
          rw [HE2.out, show relK o 2 cp nm pm = 0 by unfold relK; rw [if_neg (by decide), if_pos rfl, g, g2, if_neg (by decide), if_neg (by simpa using pz)]] <;> rfl
  · cases g : goodB nm with
    | false =>
      rw [g] at CGn
      go_wp2_with ((with_reducible refine (CGn.out _).mono ?_); rintro e w' ⟨rfl, rfl⟩)
      go_ret
      refine ⟨?_, KW.out⟩
      rw [HE2.out, show relK o 3 cp nm pm = 12 by unfold relK; rw [if_neg (by decide), if_neg (by decide), if_pos g]] <;> rfl
    | true =>
      rw [g] at CGn
      by_cases ce : cp.toList = []
      rotate_left
      · go_wp2_with ((with_reducible refine (CGn.out _).mono ?_); rintro e w' ⟨rfl, rfl⟩)
        go_ret
        refine ⟨?_, KW.out⟩
        rw [HE2.out, show relK o 3 cp nm pm = 17 by unfold relK; rw [if_neg (by decide), if_neg (by decide), if_neg (by rw [g]; decide), if_pos (.inl (by rintro rfl; exact ce (by rw [ByteArray.toList_eq])))]] <;> rfl
      have ce1 : cp = ⟨#[]⟩ := by
        apply ByteArray.ext
        apply Array.ext'
        rw [← ByteArray.toList_eq]; exact ce
      have CE := Lib.hid ce1
      clear ce1
      rcases Bool.eq_false_or_eq_true (pm != 0) with pz | pz
      · go_wp2_with ((with_reducible refine (CGn.out _).mono ?_); rintro e w' ⟨rfl, rfl⟩)
        go_ret
        refine ⟨?_, KW.out⟩
        rw [HE2.out, show relK o 3 cp nm pm = 17 by unfold relK; rw [if_neg (by decide), if_neg (by decide), if_neg (by rw [g]; decide), if_pos (.inr (by simpa using pz))]] <;> rfl
      · go_wp2_with ((with_reducible refine (CGn.out _).mono ?_); rintro e w' ⟨rfl, rfl⟩)
        go_ret
        refine ⟨?_, KW.out⟩
        rw [HE2.out, show relK o 3 cp nm pm = 0 by unfold relK; rw [if_neg (by decide), if_neg (by decide), if_neg (by rw [g]; decide), if_neg (by rintro (h | h); exact h CE.out; exact h (by simpa using pz))]] <;> rfl
/-- Any relocation. -/
theorem rrel_any (o : ObjV) (vc vd vs vr : Value) (i : Nat) (w : World) (h : ObjAt w o vc vd vs vr) (hf : ObjFew o) (ho : ObjNum o) (hi : i < o.rels.length) :
    Calls Tryd.prog 18 #[objVal o vc vd vs vr, .int .i64 (i : Int)] w fun e w' => e = .returned (.int .i64 (relE o i)) ∧ Keep w w' := by
  match i, hi with
  | 0, hi => exact rrel_0 o vc vd vs vr _ (List.getElem?_eq_getElem hi) w h hf ho
  | j + 1, hi =>
    have := rrel_j o vc vd vs vr j _ _ (List.getElem?_eq_getElem hi) (List.getElem?_eq_getElem (by omega)) w h hf ho
    simpa using this
end Go.Proofs.YtahnbeoacdnhjaaDoor
