/- The reference's sym: what is wrong of a symbol. -/
import Derived.Test.YtahnbeoacdnhjaaDoorObjFind
import Derived.Test.YtahnbeoacdnhjaaDoorGBase
import Derived.IntWalk
namespace Go.Proofs.YtahnbeoacdnhjaaDoor
set_option linter.unusedVariables false
set_option linter.unusedSimpArgs false
open Go.RowKit
/-- symE by its tests. -/
def symF (g t v x d a q : Bool) : Int := if g = false then 12 else if t = true then 13 else if v = true then 6 else if (x && d) = true then 17 else if (x && a) = true then 5 else if (x && q) = true then 6 else 0
def prevS (o : ObjV) (i : Nat) (s : SymV) : Bool := match i with
  | 0 => false
  | j + 1 => match o.syms[j]? with
    | none => false
    | some p => !bytesLt p.name s.name
theorem symE_F {o : ObjV} {i : Nat} {s : SymV} (hs : o.syms[i]? = some s) : symE o i = symF (goodB s.name) (prevS o i s) (decide ((secL o s.data : Int) < s.off)) s.exp s.data (s.off % 4 != 0) (s.off == (secL o s.data : Int)) := by
  unfold symE symF prevS
  rw [hs]
  simp only [gt_iff_lt, decide_eq_true_eq, ne_eq]
  have e1 : ∀ x : Int, decide (¬ x = 0) = (x != 0) := fun x => by
    by_cases h : x = 0 <;> simp [h]
  have e2 : ∀ x y : Int, decide (x = y) = (x == y) := fun x y => by
    by_cases h : x = y <;> simp [h]
  rw [e1, e2]
  cases i <;> rfl
set_option maxHeartbeats 2000000 in
set_option maxRecDepth 100000 in
theorem rsym_c0 (o : ObjV) (vc vd vs vr : Value) (s : SymV) (hs : o.syms[0]? = some s) (w : World) (h : ObjAt w o vc vd vs vr) (hf : ObjFew o) (ho : SymOk s) (hd : s.data = false) :
    Calls Tryd.prog 17 #[objVal o vc vd vs vr, .int .i64 0] w fun e w' => e = .returned (.int .i64 (symE o 0)) ∧ Keep w w' := by
  have E := symE_F hs
  have sec : secL o s.data = o.code.length := by rw [hd]; rfl
  rw [sec, hd] at E
  clear sec
  obtain ⟨pc, cc, rfl, hcc, _, _⟩ := h.code
  obtain ⟨pd, cd, rfl, hcd, _, _⟩ := h.data
  obtain ⟨b, off, cap, rfl, hcap, hlt, n0, n1, n2, n3⟩ := h.sym hs
  have ep : prevS o 0 s = false := rfl
  rw [ep] at E
  clear ep
  have CG := Lib.hid (fun W => rgood_any s.name (by have := hf.symN s (List.mem_of_getElem? hs); omega) W)
  have hi := (List.getElem?_eq_some_iff.1 hs).1
  have few := hf.syms
  have fc := hf.code
  have fd := hf.data
  obtain ⟨o0, o1⟩ := ho
  rw [hd] at n1
  have hii : (0 : Int) < (o.syms.length : Int) := by omega
  simp only [Nat.zero_mul, Nat.add_zero] at n0 n1 n2 n3
  unfold objVal
  rw [E]
  obtain ⟨x, hx⟩ : ∃ x, s.exp = x := ⟨_, rfl⟩
  obtain ⟨v, hv⟩ : ∃ v, decide ((o.code.length : Int) < s.off) = v := ⟨_, rfl⟩
  obtain ⟨a, ha⟩ : ∃ a, (s.off % 4 != 0) = a := ⟨_, rfl⟩
  obtain ⟨q, hq⟩ : ∃ q, (s.off == (o.code.length : Int)) = q := ⟨_, rfl⟩
  rw [hx] at n3
  rw [hx, hv, ha, hq]
  clear hx
  have K0 : Hid (Keep w ((w.alloc (.cells #[.string o.name, .slice pc o.code.length cc, .slice pd o.data.length cd, .slice (some ⟨b, off, none⟩) o.syms.length cap, vr] 36)).alloc (.cells #[.string s.name, .bool false, .int .u32 s.off, .bool x] 58))) := Lib.hid (((Keep.refl _).alloc _).alloc _)
  have B1 : Hid (Box ((w.alloc (.cells #[.string o.name, .slice pc o.code.length cc, .slice pd o.data.length cd, .slice (some ⟨b, off, none⟩) o.syms.length cap, vr] 36)).alloc (.cells #[.string s.name, .bool false, .int .u32 s.off, .bool x] 58)) w.heap.size #[.string o.name, .slice pc o.code.length cc, .slice pd o.data.length cd, .slice (some ⟨b, off, none⟩) o.syms.length cap, vr]) := Lib.hid ((Box.new _ _ _).alloc _)
  have B2 : Hid (Box ((w.alloc (.cells #[.string o.name, .slice pc o.code.length cc, .slice pd o.data.length cd, .slice (some ⟨b, off, none⟩) o.syms.length cap, vr] 36)).alloc (.cells #[.string s.name, .bool false, .int .u32 s.off, .bool x] 58)) (w.heap.size + 1) #[.string s.name, .bool false, .int .u32 s.off, .bool x]) := Lib.hid (Box.new1 _ _ _ _)
  clear h hf hs E hcc hcd hcap hd
  generalize goodB s.name = g at CG ⊢
  cases g with
  | false =>
    go_enter Tryd.func17, Tryd.ntmps17
    go_wp2_with ((with_reducible refine (CG.out _).mono ?_); rintro e w' ⟨rfl, rfl⟩)
    go_ret
    exact ⟨rfl, K0.out⟩
  | true =>
    go_enter Tryd.func17, Tryd.ntmps17
    go_wp2_with ((with_reducible refine (CG.out _).mono ?_); rintro e w' ⟨rfl, rfl⟩)
    refine region_grows (Keep _) (by kernel_rfl) (by kernel_rfl) (Keep.refl _).drew ?_
    repeat (first
      | (apply text_pass (by rfl); go_simp)
      | (apply text_step (by rfl)
         · intro W hW
           have c1 := (B1.out.keep hW).cells
           have c2 := (B2.out.keep hW).cells

           go_simp
           exact ⟨rfl, hW⟩
         go_simp))
    apply text_end
    intro W hW
    have KW := Lib.hid (K0.out.trans hW)
    have c1 := (B1.out.keep hW).cells
    have c2 := (B2.out.keep hW).cells
    clear hW n0 n1 n2 n3
    cases v
    rotate_left
    · have hv1 := of_decide_eq_true hv
      go_wp2_with fail
      go_ret
      exact ⟨rfl, KW.out⟩
    have hv1 := of_decide_eq_false hv
    cases x
    · go_wp2_with fail
      go_ret
      exact ⟨rfl, KW.out⟩
    cases a
    rotate_left
    · go_wp2_with fail
      go_ret
      exact ⟨rfl, KW.out⟩
    have ha1 : (s.off % 4 == 0) = true := by cases h : (s.off % 4 == 0) with | true => rfl | false => rw [bne, h] at ha; cases ha
    cases q
    · go_wp2_with fail
      go_ret
      exact ⟨rfl, KW.out⟩
    · go_wp2_with fail
      go_ret
      exact ⟨rfl, KW.out⟩
set_option maxHeartbeats 2000000 in
set_option maxRecDepth 100000 in
theorem rsym_cj (o : ObjV) (vc vd vs vr : Value) (j : Nat) (s p : SymV) (hs : o.syms[j + 1]? = some s) (hp : o.syms[j]? = some p) (w : World) (h : ObjAt w o vc vd vs vr) (hf : ObjFew o) (ho : SymOk s) (hd : s.data = false) :
    Calls Tryd.prog 17 #[objVal o vc vd vs vr, .int .i64 ((j : Int) + 1)] w fun e w' => e = .returned (.int .i64 (symE o (j + 1))) ∧ Keep w w' := by
  have E := symE_F hs
  have sec : secL o s.data = o.code.length := by rw [hd]; rfl
  rw [sec, hd] at E
  clear sec
  obtain ⟨pc, cc, rfl, hcc, _, _⟩ := h.code
  obtain ⟨pd, cd, rfl, hcd, _, _⟩ := h.data
  obtain ⟨b, off, cap, rfl, hcap, hlt, n0, n1, n2, n3⟩ := h.sym hs
  obtain ⟨b', off', cap', h1', _, _, p0, p1, p2, p3⟩ := h.sym hp
  simp only [Value.slice.injEq, Option.some.injEq, Addr.mk.injEq, and_true, true_and] at h1'
  obtain ⟨⟨rfl, rfl⟩, rfl⟩ := h1'
  have P0 := Lib.hid p0
  clear p0 p1 p2 p3
  have wi : IntKind.i64.wrap (j : Int) = (j : Int) := by
    have := (List.getElem?_eq_some_iff.1 hs).1
    have := hf.syms
    rw [IntKind.wrap_i64]; omega
  have ep : prevS o (j + 1) s = !Op.bytesLess p.name.toList s.name.toList := by unfold prevS; simp only [hp]; rfl
  rw [ep] at E
  clear ep
  have CG := Lib.hid (fun W => rgood_any s.name (by have := hf.symN s (List.mem_of_getElem? hs); omega) W)
  have hi := (List.getElem?_eq_some_iff.1 hs).1
  have few := hf.syms
  have fc := hf.code
  have fd := hf.data
  obtain ⟨o0, o1⟩ := ho
  rw [hd] at n1
  have hii : (j : Int) + 1 < (o.syms.length : Int) := by omega
  have hi1 : (j : Int) < (o.syms.length : Int) := by omega
  unfold objVal
  rw [E]
  obtain ⟨x, hx⟩ : ∃ x, s.exp = x := ⟨_, rfl⟩
  obtain ⟨v, hv⟩ : ∃ v, decide ((o.code.length : Int) < s.off) = v := ⟨_, rfl⟩
  obtain ⟨a, ha⟩ : ∃ a, (s.off % 4 != 0) = a := ⟨_, rfl⟩
  obtain ⟨q, hq⟩ : ∃ q, (s.off == (o.code.length : Int)) = q := ⟨_, rfl⟩
  obtain ⟨tb, htb⟩ : ∃ tb, Op.bytesLess p.name.toList s.name.toList = tb := ⟨_, rfl⟩
  rw [htb]
  rw [hx] at n3
  rw [hx, hv, ha, hq]
  clear hx
  have K0 : Hid (Keep w ((w.alloc (.cells #[.string o.name, .slice pc o.code.length cc, .slice pd o.data.length cd, .slice (some ⟨b, off, none⟩) o.syms.length cap, vr] 36)).alloc (.cells #[.string s.name, .bool false, .int .u32 s.off, .bool x] 58))) := Lib.hid (((Keep.refl _).alloc _).alloc _)
  have B1 : Hid (Box ((w.alloc (.cells #[.string o.name, .slice pc o.code.length cc, .slice pd o.data.length cd, .slice (some ⟨b, off, none⟩) o.syms.length cap, vr] 36)).alloc (.cells #[.string s.name, .bool false, .int .u32 s.off, .bool x] 58)) w.heap.size #[.string o.name, .slice pc o.code.length cc, .slice pd o.data.length cd, .slice (some ⟨b, off, none⟩) o.syms.length cap, vr]) := Lib.hid ((Box.new _ _ _).alloc _)
  have B2 : Hid (Box ((w.alloc (.cells #[.string o.name, .slice pc o.code.length cc, .slice pd o.data.length cd, .slice (some ⟨b, off, none⟩) o.syms.length cap, vr] 36)).alloc (.cells #[.string s.name, .bool false, .int .u32 s.off, .bool x] 58)) (w.heap.size + 1) #[.string s.name, .bool false, .int .u32 s.off, .bool x]) := Lib.hid (Box.new1 _ _ _ _)
  clear h hf hs E hcc hcd hcap hd
  generalize goodB s.name = g at CG ⊢
  cases g with
  | false =>
    go_enter Tryd.func17, Tryd.ntmps17
    go_wp2_with ((with_reducible refine (CG.out _).mono ?_); rintro e w' ⟨rfl, rfl⟩)
    go_ret
    exact ⟨rfl, K0.out⟩
  | true =>
    go_enter Tryd.func17, Tryd.ntmps17
    go_wp2_with ((with_reducible refine (CG.out _).mono ?_); rintro e w' ⟨rfl, rfl⟩)
    refine region_grows (Keep _) (by kernel_rfl) (by kernel_rfl) (Keep.refl _).drew ?_
    repeat (first
      | (apply text_pass (by rfl); go_simp)
      | (apply text_step (by rfl)
         · intro W hW
           have c1 := (B1.out.keep hW).cells
           have c2 := (B2.out.keep hW).cells
           have c3 := (K0.out.trans hW).cellOf P0.out
           go_simp
           exact ⟨rfl, hW⟩
         go_simp))
    apply text_end
    intro W hW
    have KW := Lib.hid (K0.out.trans hW)
    have c1 := (B1.out.keep hW).cells
    have c2 := (B2.out.keep hW).cells
    clear hW n0 n1 n2 n3
    cases tb
    · go_wp2_with fail
      go_ret
      exact ⟨rfl, KW.out⟩
    cases v
    rotate_left
    · have hv1 := of_decide_eq_true hv
      go_wp2_with fail
      go_ret
      exact ⟨rfl, KW.out⟩
    have hv1 := of_decide_eq_false hv
    cases x
    · go_wp2_with fail
      go_ret
      exact ⟨rfl, KW.out⟩
    cases a
    rotate_left
    · go_wp2_with fail
      go_ret
      exact ⟨rfl, KW.out⟩
    have ha1 : (s.off % 4 == 0) = true := by cases h : (s.off % 4 == 0) with | true => rfl | false => rw [bne, h] at ha; cases ha
    cases q
    · go_wp2_with fail
      go_ret
      exact ⟨rfl, KW.out⟩
    · go_wp2_with fail
      go_ret
      exact ⟨rfl, KW.out⟩
set_option maxHeartbeats 2000000 in
set_option maxRecDepth 100000 in
theorem rsym_d0 (o : ObjV) (vc vd vs vr : Value) (s : SymV) (hs : o.syms[0]? = some s) (w : World) (h : ObjAt w o vc vd vs vr) (hf : ObjFew o) (ho : SymOk s) (hd : s.data = true) :
    Calls Tryd.prog 17 #[objVal o vc vd vs vr, .int .i64 0] w fun e w' => e = .returned (.int .i64 (symE o 0)) ∧ Keep w w' := by
  have E := symE_F hs
  have sec : secL o s.data = o.data.length := by rw [hd]; rfl
  rw [sec, hd] at E
  clear sec
  obtain ⟨pc, cc, rfl, hcc, _, _⟩ := h.code
  obtain ⟨pd, cd, rfl, hcd, _, _⟩ := h.data
  obtain ⟨b, off, cap, rfl, hcap, hlt, n0, n1, n2, n3⟩ := h.sym hs
  have ep : prevS o 0 s = false := rfl
  rw [ep] at E
  clear ep
  have CG := Lib.hid (fun W => rgood_any s.name (by have := hf.symN s (List.mem_of_getElem? hs); omega) W)
  have hi := (List.getElem?_eq_some_iff.1 hs).1
  have few := hf.syms
  have fc := hf.code
  have fd := hf.data
  obtain ⟨o0, o1⟩ := ho
  rw [hd] at n1
  have hii : (0 : Int) < (o.syms.length : Int) := by omega
  simp only [Nat.zero_mul, Nat.add_zero] at n0 n1 n2 n3
  unfold objVal
  rw [E]
  obtain ⟨x, hx⟩ : ∃ x, s.exp = x := ⟨_, rfl⟩
  obtain ⟨v, hv⟩ : ∃ v, decide ((o.data.length : Int) < s.off) = v := ⟨_, rfl⟩
  obtain ⟨a, ha⟩ : ∃ a, (s.off % 4 != 0) = a := ⟨_, rfl⟩
  obtain ⟨q, hq⟩ : ∃ q, (s.off == (o.data.length : Int)) = q := ⟨_, rfl⟩
  rw [hx] at n3
  rw [hx, hv, ha, hq]
  clear hx
  have K0 : Hid (Keep w ((w.alloc (.cells #[.string o.name, .slice pc o.code.length cc, .slice pd o.data.length cd, .slice (some ⟨b, off, none⟩) o.syms.length cap, vr] 36)).alloc (.cells #[.string s.name, .bool true, .int .u32 s.off, .bool x] 58))) := Lib.hid (((Keep.refl _).alloc _).alloc _)
  have B1 : Hid (Box ((w.alloc (.cells #[.string o.name, .slice pc o.code.length cc, .slice pd o.data.length cd, .slice (some ⟨b, off, none⟩) o.syms.length cap, vr] 36)).alloc (.cells #[.string s.name, .bool true, .int .u32 s.off, .bool x] 58)) w.heap.size #[.string o.name, .slice pc o.code.length cc, .slice pd o.data.length cd, .slice (some ⟨b, off, none⟩) o.syms.length cap, vr]) := Lib.hid ((Box.new _ _ _).alloc _)
  have B2 : Hid (Box ((w.alloc (.cells #[.string o.name, .slice pc o.code.length cc, .slice pd o.data.length cd, .slice (some ⟨b, off, none⟩) o.syms.length cap, vr] 36)).alloc (.cells #[.string s.name, .bool true, .int .u32 s.off, .bool x] 58)) (w.heap.size + 1) #[.string s.name, .bool true, .int .u32 s.off, .bool x]) := Lib.hid (Box.new1 _ _ _ _)
  clear h hf hs E hcc hcd hcap hd
  generalize goodB s.name = g at CG ⊢
  cases g with
  | false =>
    go_enter Tryd.func17, Tryd.ntmps17
    go_wp2_with ((with_reducible refine (CG.out _).mono ?_); rintro e w' ⟨rfl, rfl⟩)
    go_ret
    exact ⟨rfl, K0.out⟩
  | true =>
    go_enter Tryd.func17, Tryd.ntmps17
    go_wp2_with ((with_reducible refine (CG.out _).mono ?_); rintro e w' ⟨rfl, rfl⟩)
    refine region_grows (Keep _) (by kernel_rfl) (by kernel_rfl) (Keep.refl _).drew ?_
    repeat (first
      | (apply text_pass (by rfl); go_simp)
      | (apply text_step (by rfl)
         · intro W hW
           have c1 := (B1.out.keep hW).cells
           have c2 := (B2.out.keep hW).cells

           go_simp
           exact ⟨rfl, hW⟩
         go_simp))
    apply text_end
    intro W hW
    have KW := Lib.hid (K0.out.trans hW)
    have c1 := (B1.out.keep hW).cells
    have c2 := (B2.out.keep hW).cells
    clear hW n0 n1 n2 n3
    cases v
    rotate_left
    · have hv1 := of_decide_eq_true hv
      go_wp2_with fail
      go_ret
      exact ⟨rfl, KW.out⟩
    have hv1 := of_decide_eq_false hv
    cases x
    · go_wp2_with fail
      go_ret
      exact ⟨rfl, KW.out⟩
    go_wp2_with fail
    go_ret
    exact ⟨rfl, KW.out⟩
set_option maxHeartbeats 2000000 in
set_option maxRecDepth 100000 in
theorem rsym_dj (o : ObjV) (vc vd vs vr : Value) (j : Nat) (s p : SymV) (hs : o.syms[j + 1]? = some s) (hp : o.syms[j]? = some p) (w : World) (h : ObjAt w o vc vd vs vr) (hf : ObjFew o) (ho : SymOk s) (hd : s.data = true) :
    Calls Tryd.prog 17 #[objVal o vc vd vs vr, .int .i64 ((j : Int) + 1)] w fun e w' => e = .returned (.int .i64 (symE o (j + 1))) ∧ Keep w w' := by
  have E := symE_F hs
  have sec : secL o s.data = o.data.length := by rw [hd]; rfl
  rw [sec, hd] at E
  clear sec
  obtain ⟨pc, cc, rfl, hcc, _, _⟩ := h.code
  obtain ⟨pd, cd, rfl, hcd, _, _⟩ := h.data
  obtain ⟨b, off, cap, rfl, hcap, hlt, n0, n1, n2, n3⟩ := h.sym hs
  obtain ⟨b', off', cap', h1', _, _, p0, p1, p2, p3⟩ := h.sym hp
  simp only [Value.slice.injEq, Option.some.injEq, Addr.mk.injEq, and_true, true_and] at h1'
  obtain ⟨⟨rfl, rfl⟩, rfl⟩ := h1'
  have P0 := Lib.hid p0
  clear p0 p1 p2 p3
  have wi : IntKind.i64.wrap (j : Int) = (j : Int) := by
    have := (List.getElem?_eq_some_iff.1 hs).1
    have := hf.syms
    rw [IntKind.wrap_i64]; omega
  have ep : prevS o (j + 1) s = !Op.bytesLess p.name.toList s.name.toList := by unfold prevS; simp only [hp]; rfl
  rw [ep] at E
  clear ep
  have CG := Lib.hid (fun W => rgood_any s.name (by have := hf.symN s (List.mem_of_getElem? hs); omega) W)
  have hi := (List.getElem?_eq_some_iff.1 hs).1
  have few := hf.syms
  have fc := hf.code
  have fd := hf.data
  obtain ⟨o0, o1⟩ := ho
  rw [hd] at n1
  have hii : (j : Int) + 1 < (o.syms.length : Int) := by omega
  have hi1 : (j : Int) < (o.syms.length : Int) := by omega
  unfold objVal
  rw [E]
  obtain ⟨x, hx⟩ : ∃ x, s.exp = x := ⟨_, rfl⟩
  obtain ⟨v, hv⟩ : ∃ v, decide ((o.data.length : Int) < s.off) = v := ⟨_, rfl⟩
  obtain ⟨a, ha⟩ : ∃ a, (s.off % 4 != 0) = a := ⟨_, rfl⟩
  obtain ⟨q, hq⟩ : ∃ q, (s.off == (o.data.length : Int)) = q := ⟨_, rfl⟩
  obtain ⟨tb, htb⟩ : ∃ tb, Op.bytesLess p.name.toList s.name.toList = tb := ⟨_, rfl⟩
  rw [htb]
  rw [hx] at n3
  rw [hx, hv, ha, hq]
  clear hx
  have K0 : Hid (Keep w ((w.alloc (.cells #[.string o.name, .slice pc o.code.length cc, .slice pd o.data.length cd, .slice (some ⟨b, off, none⟩) o.syms.length cap, vr] 36)).alloc (.cells #[.string s.name, .bool true, .int .u32 s.off, .bool x] 58))) := Lib.hid (((Keep.refl _).alloc _).alloc _)
  have B1 : Hid (Box ((w.alloc (.cells #[.string o.name, .slice pc o.code.length cc, .slice pd o.data.length cd, .slice (some ⟨b, off, none⟩) o.syms.length cap, vr] 36)).alloc (.cells #[.string s.name, .bool true, .int .u32 s.off, .bool x] 58)) w.heap.size #[.string o.name, .slice pc o.code.length cc, .slice pd o.data.length cd, .slice (some ⟨b, off, none⟩) o.syms.length cap, vr]) := Lib.hid ((Box.new _ _ _).alloc _)
  have B2 : Hid (Box ((w.alloc (.cells #[.string o.name, .slice pc o.code.length cc, .slice pd o.data.length cd, .slice (some ⟨b, off, none⟩) o.syms.length cap, vr] 36)).alloc (.cells #[.string s.name, .bool true, .int .u32 s.off, .bool x] 58)) (w.heap.size + 1) #[.string s.name, .bool true, .int .u32 s.off, .bool x]) := Lib.hid (Box.new1 _ _ _ _)
  clear h hf hs E hcc hcd hcap hd
  generalize goodB s.name = g at CG ⊢
  cases g with
  | false =>
    go_enter Tryd.func17, Tryd.ntmps17
    go_wp2_with ((with_reducible refine (CG.out _).mono ?_); rintro e w' ⟨rfl, rfl⟩)
    go_ret
    exact ⟨rfl, K0.out⟩
  | true =>
    go_enter Tryd.func17, Tryd.ntmps17
    go_wp2_with ((with_reducible refine (CG.out _).mono ?_); rintro e w' ⟨rfl, rfl⟩)
    refine region_grows (Keep _) (by kernel_rfl) (by kernel_rfl) (Keep.refl _).drew ?_
    repeat (first
      | (apply text_pass (by rfl); go_simp)
      | (apply text_step (by rfl)
         · intro W hW
           have c1 := (B1.out.keep hW).cells
           have c2 := (B2.out.keep hW).cells
           have c3 := (K0.out.trans hW).cellOf P0.out
           go_simp
           exact ⟨rfl, hW⟩
         go_simp))
    apply text_end
    intro W hW
    have KW := Lib.hid (K0.out.trans hW)
    have c1 := (B1.out.keep hW).cells
    have c2 := (B2.out.keep hW).cells
    clear hW n0 n1 n2 n3
    cases tb
    · go_wp2_with fail
      go_ret
      exact ⟨rfl, KW.out⟩
    cases v
    rotate_left
    · have hv1 := of_decide_eq_true hv
      go_wp2_with fail
      go_ret
      exact ⟨rfl, KW.out⟩
    have hv1 := of_decide_eq_false hv
    cases x
    · go_wp2_with fail
      go_ret
      exact ⟨rfl, KW.out⟩
    go_wp2_with fail
    go_ret
    exact ⟨rfl, KW.out⟩
/-- Any symbol. -/
theorem rsym_any (o : ObjV) (vc vd vs vr : Value) (i : Nat) (w : World) (h : ObjAt w o vc vd vs vr) (hf : ObjFew o) (ho : ObjNum o) (hi : i < o.syms.length) :
    Calls Tryd.prog 17 #[objVal o vc vd vs vr, .int .i64 (i : Int)] w fun e w' => e = .returned (.int .i64 (symE o i)) ∧ Keep w w' := by
  have hs := List.getElem?_eq_getElem hi
  have hok := ho.syms _ (List.getElem_mem hi)
  cases hd : (o.syms[i]).data with
  | false =>
    match i, hi, hs, hok, hd with
    | 0, hi, hs, hok, hd => exact rsym_c0 o vc vd vs vr _ hs w h hf hok hd
    | j + 1, hi, hs, hok, hd =>
      have := rsym_cj o vc vd vs vr j _ _ hs (List.getElem?_eq_getElem (by omega)) w h hf hok hd
      simpa using this
  | true =>
    match i, hi, hs, hok, hd with
    | 0, hi, hs, hok, hd => exact rsym_d0 o vc vd vs vr _ hs w h hf hok hd
    | j + 1, hi, hs, hok, hd =>
      have := rsym_dj o vc vd vs vr j _ _ hs (List.getElem?_eq_getElem (by omega)) w h hf hok hd
      simpa using this
end Go.Proofs.YtahnbeoacdnhjaaDoor
