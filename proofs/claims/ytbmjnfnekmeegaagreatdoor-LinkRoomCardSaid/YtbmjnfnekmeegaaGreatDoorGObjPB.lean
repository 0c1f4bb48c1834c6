/- ObjFE, ObjPSym, ObjPOwn, ObjPRel, ObjPList, ObjPParts, ObjPSecs, ObjPChk: obj's symE and relE by their tests, plain. -/
import Derived.Test.YtbmjnfnekmeegaaGreatDoorGObjF
import Derived.Test.YtbmjnfnekmeegaaGreatDoorGObjPA
import Derived.Test.YtbmjnfnekmeegaaGreatDoorGBase
import Derived.IntWalk
import Derived.Shelf.Abstract
import Derived.Test.YtbmjnfnekmeegaaGreatDoorGRdrC
import Derived.Test.YtbmjnfnekmeegaaGreatDoorGTell
/- obj's symE and relE by their tests, plain. -/
namespace Go.Proofs.YtbmjnfnekmeegaaGreatDoor
set_option linter.unusedVariables false
set_option linter.unusedSimpArgs false
open Go.RowKit
/-- symE by its tests. -/
def symF (g t v x d a q : Bool) : Int := if g = false then 12 else if t = true then 13 else if v = true then 6 else if (x && d) = true then 17 else if (x && a) = true then 5 else if (x && q) = true then 6 else 0
def prevS (o : ObjV) (i : Nat) (s : SymV) : Bool := match i with
  | 0 => false
  | j + 1 => match o.syms[j]? with
    | none => false
    | some p => !bytesLt p.name s.name
theorem symE_F {o : ObjV} {i : Nat} {s : SymV} (hs : o.syms[i]? = some s) : symE o i = symF (goodB s.name) (prevS o i s) (decide ((secL o s.data : Int) < s.off)) s.exp s.data (s.off % 4 != 0) (s.off == (secL o s.data : Int)) := by
  unfold symE symF prevS
  rw [hs]
  simp only [gt_iff_lt, decide_eq_true_eq, ne_eq]
  have e1 : ∀ x : Int, decide (¬ x = 0) = (x != 0) := fun x => by
    by_cases h : x = 0 <;> simp [h]
  have e2 : ∀ x y : Int, decide (x = y) = (x == y) := fun x y => by
    by_cases h : x = y <;> simp [h]
  rw [e1, e2]
  cases i <;> rfl
def prevR (o : ObjV) (i : Nat) (of : Int) : Bool := match i with
  | 0 => false
  | j + 1 => match o.rels[j]? with
    | none => false
    | some p => decide (of ≤ p.off)
/-- What is asked of each kind. -/
def relK (o : ObjV) (kd : Int) (cp nm : ByteArray) (pm : Int) : Int :=
  if kd = 1 then
    match findS o.syms nm with
    | none => 12
    | some s => if cp ≠ ⟨#[]⟩ then 17 else if bits .andNot .u16 pm (mostP s.data) ≠ 0 then 3 else 0
  else if kd = 2 then (if (!goodB cp || !goodB nm) = true then 12 else if pm ≠ 0 then 17 else 0)
  else (if goodB nm = false then 12 else if cp ≠ ⟨#[]⟩ ∨ pm ≠ 0 then 17 else 0)
theorem relE_F {o : ObjV} {i : Nat} {kd of : Int} {cp nm : ByteArray} {pm : Int} (hs : o.rels[i]? = some ⟨kd, of, cp, nm, pm⟩) : relE o i =
    if kd < 1 ∨ 3 < kd then 17 else if prevR o i of = true then 13 else if of % 16 ≠ 0 then 5 else if of + 16 > o.data.length then 6 else relK o kd cp nm pm := by
  unfold relE prevR relK
  rw [hs]
  cases i <;> rfl
end Go.Proofs.YtbmjnfnekmeegaaGreatDoor

/- The program's symbol: what is wrong of a symbol. -/
namespace Go.Proofs.YtbmjnfnekmeegaaGreatDoor
set_option linter.unusedVariables false
set_option linter.unusedSimpArgs false
open Go.RowKit
theorem bytes_total : ∀ a b : List UInt8, (Op.bytesLess a b || (a == b)) = !Op.bytesLess b a
  | [], [] => rfl
  | [], _ :: _ => rfl
  | _ :: _, [] => rfl
  | x :: a, y :: b => by
    have ih := bytes_total a b
    simp only [Op.bytesLess]
    by_cases h : x = y
    · subst h
      simpa using ih
    · have h1 : (x == y) = false := beq_eq_false_iff_ne.2 h
      have h2 : (y == x) = false := beq_eq_false_iff_ne.2 (fun e => h e.symm)
      have h3 : decide (x < y) = !decide (y < x) := by
        rw [← decide_not]
        refine decide_eq_decide.2 ⟨fun hl => UInt8.not_lt.2 (UInt8.le_of_lt hl), fun hl => ?_⟩
        rcases UInt8.lt_or_eq_of_le (UInt8.not_lt.1 hl) with h | e
        · exact h
        · exact absurd e h
      have h4 : ((x :: a) == (y :: b)) = false := beq_eq_false_iff_ne.2 (fun e => h (List.cons.inj e).1)
      rw [h1, h2, h3, h4]
      simp
set_option maxHeartbeats 4000000 in
set_option maxRecDepth 100000 in
theorem psym_c0 (o : ObjV) (vc vd vs vr : Value) (s : SymV) (hs : o.syms[0]? = some s) (w : World) (h : ObjAt w o vc vd vs vr) (hf : ObjMid o) (ho : SymOk s) (hd : s.data = false) :
    Calls Tryz.prog 159 #[objVal o vc vd vs vr, .int .i64 0] w fun e w' => e = .returned (.int .i64 (symE o 0)) ∧ Keep w w' := by
  have E := symE_F hs
  have sec : secL o s.data = o.code.length := by rw [hd]; rfl
  rw [sec, hd] at E
  clear sec
  obtain ⟨pc, cc, rfl, hcc, _, _⟩ := h.code
  obtain ⟨pd, cd, rfl, hcd, _, _⟩ := h.data
  obtain ⟨b, off, cap, rfl, hcap, hlt, n0, n1, n2, n3⟩ := h.sym hs
  have ep : prevS o 0 s = false := rfl
  rw [ep] at E
  clear ep
  have CG := Lib.hid (fun W => pname_any s.name (by have := hf.symN s (List.mem_of_getElem? hs); omega) W)
  have hi := (List.getElem?_eq_some_iff.1 hs).1
  have few := hf.syms
  have fc := hf.code
  have fd := hf.data
  have wc : IntKind.u32.wrap (o.code.length : Int) = (o.code.length : Int) := IntWalk.u32_in _ (by omega)
  have wd : IntKind.u32.wrap (o.data.length : Int) = (o.data.length : Int) := IntWalk.u32_in _ (by omega)
  obtain ⟨o0, o1⟩ := ho
  rw [hd] at n1
  have hii : (0 : Int) < (o.syms.length : Int) := by omega
  simp only [Nat.zero_mul, Nat.add_zero] at n0 n1 n2 n3
  unfold objVal
  rw [E]
  obtain ⟨x, hx⟩ : ∃ x, s.exp = x := ⟨_, rfl⟩
  obtain ⟨v, hv⟩ : ∃ v, decide ((o.code.length : Int) < s.off) = v := ⟨_, rfl⟩
  obtain ⟨a, ha⟩ : ∃ a, (s.off % 4 != 0) = a := ⟨_, rfl⟩
  obtain ⟨q, hq⟩ : ∃ q, (s.off == (o.code.length : Int)) = q := ⟨_, rfl⟩
  rw [hx] at n3
  rw [hx, hv, ha, hq]
  clear hx
  obtain ⟨W0, hW0⟩ : ∃ W0, W0 = w.alloc (.cells #[.string o.name, .slice pc o.code.length cc, .slice pd o.data.length cd, .slice (some ⟨b, off, none⟩) o.syms.length cap, vr] 76) := ⟨_, rfl⟩
  have K0 : Hid (Keep w W0) := Lib.hid (by rw [hW0]; exact (Keep.refl _).alloc _)
  have B1 : Hid (Box W0 w.heap.size #[.string o.name, .slice pc o.code.length cc, .slice pd o.data.length cd, .slice (some ⟨b, off, none⟩) o.syms.length cap, vr]) := Lib.hid (by rw [hW0]; exact Box.new _ _ _)
  have N0 := Lib.hid (K0.out.cellOf n0)
  have N1 := Lib.hid (K0.out.cellOf n1)
  have N2 := Lib.hid (K0.out.cellOf n2)
  have N3 := Lib.hid (K0.out.cellOf n3)
  have sz0 := B1.out.lt
  clear h hf hs E hcc hcd hcap hd n0 n1 n2 n3
  generalize goodB s.name = g at CG ⊢
  go_enter Tryz.func159, Tryz.ntmps159
  go_wp2_with fail
  rw [← hW0]
  clear hW0
  refine Rel.regionO (KeepBut (fun z => W0.heap.size ≤ z)) (butWay _) [9, 10] [0, 1, 2, 3, 4, 5, 6, 7, 8, 9, 10, 11] (by kernel_rfl) (by kernel_rfl) (Keep.refl _) ?_
  repeat (apply Rel.ordK_step (by rfl) (by rfl) (by rfl)
          · intro W' hW'
            have kW := hW'.keep (fun z hz => hz)
            have c1 := (B1.out.keep kW).cells
            have m0 := kW.cellOf N0.out
            have m1 := kW.cellOf N1.out
            have m2 := kW.cellOf N2.out
            have m3 := kW.cellOf N3.out
            go_simp
            exact ⟨rfl, Keep.refl _⟩
          go_simp)
  apply Rel.ordK_loose (by rfl) (by rfl) (by rfl)
  intro Wa hWa
  go_simp
  apply Rel.gives_value
  refine ⟨((Keep.refl _).alloc _).but _, ?_⟩
  have BR : Box (Wa.alloc (.cells #[.string ⟨#[]⟩, .bool false, .int .u32 0, .bool false] 88)) Wa.heap.size #[.string ⟨#[]⟩, .bool false, .int .u32 0, .bool false] := Box.new _ _ _
  have KA := hWa.alloc (.cells #[.string ⟨#[]⟩, .bool false, .int .u32 0, .bool false] 88)
  have hsA : W0.heap.size ≤ Wa.heap.size := hWa.size
  go_simp
  apply Rel.ordK_loose (by rfl) (by rfl) (by rfl)
  intro Wb hWb
  have Kb := KA.trans hWb
  have Bb := BR.keep hWb
  have fb := Bb.thawed
  have cb := Bb.cells
  go_simp
  apply Rel.gives_skip
  have h4 : ∃ W4, W4 = ((((Wb.setCell ⟨Wa.heap.size, 0, none⟩ (.string s.name)).setCell ⟨Wa.heap.size, 1, none⟩ (.bool false)).setCell ⟨Wa.heap.size, 2, none⟩ (.int .u32 s.off)).setCell ⟨Wa.heap.size, 3, none⟩ (.bool x)) := ⟨_, rfl⟩
  obtain ⟨W4, hW4⟩ := h4
  rw [← hW4]
  have B4 : Box W4 Wa.heap.size #[.string s.name, .bool false, .int .u32 s.off, .bool x] := by
    rw [hW4]; simpa using (((Bb.set 0 (.string s.name)).set 1 (.bool false)).set 2 (.int .u32 s.off)).set 3 (.bool x)
  have K34 : KeepBut (fun z => W0.heap.size ≤ z) Wb W4 := by
    rw [hW4]
    repeat (with_reducible refine KeepBut.setAt ?_ ?_ _; · exact .inl hsA)
    exact KeepBut.refl _ _
  have K4 : Keep W0 W4 := ((Kb.but _).trans K34).keep (fun z hz => hz)
  refine ⟨K34, ?_⟩
  clear hW4 K34 Bb fb cb Kb hWb KA BR hWa
  obtain ⟨tb_, htb_⟩ : ∃ tb_, tb_ = Wa.heap.size := ⟨_, rfl⟩
  rw [← htb_] at B4 hsA ⊢
  clear htb_
  apply Rel.ordK_step (by rfl) (by rfl) (by rfl)
  · intro W' hW'
    go_simp
    exact ⟨rfl, Keep.refl _⟩
  go_simp
  apply Rel.ordK_end
  intro W5 hW5
  have K5 := Lib.hid (K0.out.trans (K4.trans hW5))
  have B2 := Lib.hid (B4.keep hW5)
  have B15 := Lib.hid (B1.out.keep (K4.trans hW5))
  
  have c1 := B15.out.cells
  have c2 := B2.out.cells
  clear hW5 K4 B4 N0 N1 N2 N3 B1 K0
  cases g with
  | false =>
    go_wp2_with ((with_reducible refine (CG.out _).mono ?_); rintro e w' ⟨rfl, rfl⟩)
    go_ret
    exact ⟨rfl, K5.out⟩
  | true =>
    go_wp2_with ((with_reducible refine (CG.out _).mono ?_); rintro e w' ⟨rfl, rfl⟩)
    refine region_grows (Keep W5) (by kernel_rfl) (by kernel_rfl) (Keep.refl _).drew ?_
    repeat (first
      | (apply text_pass (by rfl); go_simp)
      | (apply text_step (by rfl)
         · intro W hW
           have e1 := (B15.out.keep hW).cells
           have e2 := (B2.out.keep hW).cells
           
           go_simp
           exact ⟨rfl, hW⟩
         go_simp))
    apply text_end
    intro W hW
    have KW := Lib.hid (K5.out.trans hW)
    have B1W := Lib.hid (B15.out.keep hW)
    have B2W := Lib.hid (B2.out.keep hW)
    clear hW c1 c2 K5 B15 B2
    have c1 := B1W.out.cells
    have c2 := B2W.out.cells
    cases v
    rotate_left
    · have hv1 := of_decide_eq_true hv
      go_wp2_with fail
      go_ret
      exact ⟨rfl, KW.out⟩
    have hv1 := of_decide_eq_false hv
    cases x
    · go_wp2_with fail
      go_ret
      exact ⟨rfl, KW.out⟩
    cases a
    rotate_left
    · go_wp2_with fail
      go_ret
      exact ⟨rfl, KW.out⟩
    have ha1 : (s.off % 4 == 0) = true := by cases h : (s.off % 4 == 0) with | true => rfl | false => rw [bne, h] at ha; cases ha
    cases q
    · go_wp2_with fail
      go_ret
      exact ⟨rfl, KW.out⟩
    · go_wp2_with fail
      go_ret
      exact ⟨rfl, KW.out⟩
set_option maxHeartbeats 4000000 in
set_option maxRecDepth 100000 in
theorem psym_cj (o : ObjV) (vc vd vs vr : Value) (j : Nat) (s p : SymV) (hs : o.syms[j + 1]? = some s) (hp : o.syms[j]? = some p) (w : World) (h : ObjAt w o vc vd vs vr) (hf : ObjMid o) (ho : SymOk s) (hd : s.data = false) :
    Calls Tryz.prog 159 #[objVal o vc vd vs vr, .int .i64 ((j : Int) + 1)] w fun e w' => e = .returned (.int .i64 (symE o (j + 1))) ∧ Keep w w' := by
  have E := symE_F hs
  have sec : secL o s.data = o.code.length := by rw [hd]; rfl
  rw [sec, hd] at E
  clear sec
  obtain ⟨pc, cc, rfl, hcc, _, _⟩ := h.code
  obtain ⟨pd, cd, rfl, hcd, _, _⟩ := h.data
  obtain ⟨b, off, cap, rfl, hcap, hlt, n0, n1, n2, n3⟩ := h.sym hs
  obtain ⟨b', off', cap', h1', _, _, p0, p1, p2, p3⟩ := h.sym hp
  simp only [Value.slice.injEq, Option.some.injEq, Addr.mk.injEq, and_true, true_and] at h1'
  obtain ⟨⟨rfl, rfl⟩, rfl⟩ := h1'
  have P0 := Lib.hid p0
  clear p0 p1 p2 p3
  have wi : IntKind.i64.wrap (j : Int) = (j : Int) := by
    have := (List.getElem?_eq_some_iff.1 hs).1
    have := hf.syms
    rw [IntKind.wrap_i64]; omega
  have ep : prevS o (j + 1) s = (Op.bytesLess s.name.toList p.name.toList || (s.name.toList == p.name.toList)) := by unfold prevS; simp only [hp]; rw [bytes_total]; rfl
  rw [ep] at E
  clear ep
  have CG := Lib.hid (fun W => pname_any s.name (by have := hf.symN s (List.mem_of_getElem? hs); omega) W)
  have hi := (List.getElem?_eq_some_iff.1 hs).1
  have few := hf.syms
  have fc := hf.code
  have fd := hf.data
  have wc : IntKind.u32.wrap (o.code.length : Int) = (o.code.length : Int) := IntWalk.u32_in _ (by omega)
  have wd : IntKind.u32.wrap (o.data.length : Int) = (o.data.length : Int) := IntWalk.u32_in _ (by omega)
  obtain ⟨o0, o1⟩ := ho
  rw [hd] at n1
  have hii : (j : Int) + 1 < (o.syms.length : Int) := by omega
  have hi1 : (j : Int) < (o.syms.length : Int) := by omega
  unfold objVal
  rw [E]
  obtain ⟨x, hx⟩ : ∃ x, s.exp = x := ⟨_, rfl⟩
  obtain ⟨v, hv⟩ : ∃ v, decide ((o.code.length : Int) < s.off) = v := ⟨_, rfl⟩
  obtain ⟨a, ha⟩ : ∃ a, (s.off % 4 != 0) = a := ⟨_, rfl⟩
  obtain ⟨q, hq⟩ : ∃ q, (s.off == (o.code.length : Int)) = q := ⟨_, rfl⟩
  obtain ⟨sl, hsl⟩ : ∃ sl, Op.bytesLess s.name.toList p.name.toList = sl := ⟨_, rfl⟩
  obtain ⟨se, hse⟩ : ∃ se, (s.name.toList == p.name.toList) = se := ⟨_, rfl⟩
  rw [hsl, hse]
  rw [hx] at n3
  rw [hx, hv, ha, hq]
  clear hx
  obtain ⟨W0, hW0⟩ : ∃ W0, W0 = w.alloc (.cells #[.string o.name, .slice pc o.code.length cc, .slice pd o.data.length cd, .slice (some ⟨b, off, none⟩) o.syms.length cap, vr] 76) := ⟨_, rfl⟩
  have K0 : Hid (Keep w W0) := Lib.hid (by rw [hW0]; exact (Keep.refl _).alloc _)
  have B1 : Hid (Box W0 w.heap.size #[.string o.name, .slice pc o.code.length cc, .slice pd o.data.length cd, .slice (some ⟨b, off, none⟩) o.syms.length cap, vr]) := Lib.hid (by rw [hW0]; exact Box.new _ _ _)
  have N0 := Lib.hid (K0.out.cellOf n0)
  have N1 := Lib.hid (K0.out.cellOf n1)
  have N2 := Lib.hid (K0.out.cellOf n2)
  have N3 := Lib.hid (K0.out.cellOf n3)
  have sz0 := B1.out.lt
  clear h hf hs E hcc hcd hcap hd n0 n1 n2 n3
  generalize goodB s.name = g at CG ⊢
  go_enter Tryz.func159, Tryz.ntmps159
  go_wp2_with fail
  rw [← hW0]
  clear hW0
  refine Rel.regionO (KeepBut (fun z => W0.heap.size ≤ z)) (butWay _) [9, 10] [0, 1, 2, 3, 4, 5, 6, 7, 8, 9, 10, 11] (by kernel_rfl) (by kernel_rfl) (Keep.refl _) ?_
  repeat (apply Rel.ordK_step (by rfl) (by rfl) (by rfl)
          · intro W' hW'
            have kW := hW'.keep (fun z hz => hz)
            have c1 := (B1.out.keep kW).cells
            have m0 := kW.cellOf N0.out
            have m1 := kW.cellOf N1.out
            have m2 := kW.cellOf N2.out
            have m3 := kW.cellOf N3.out
            go_simp
            exact ⟨rfl, Keep.refl _⟩
          go_simp)
  apply Rel.ordK_loose (by rfl) (by rfl) (by rfl)
  intro Wa hWa
  go_simp
  apply Rel.gives_value
  refine ⟨((Keep.refl _).alloc _).but _, ?_⟩
  have BR : Box (Wa.alloc (.cells #[.string ⟨#[]⟩, .bool false, .int .u32 0, .bool false] 88)) Wa.heap.size #[.string ⟨#[]⟩, .bool false, .int .u32 0, .bool false] := Box.new _ _ _
  have KA := hWa.alloc (.cells #[.string ⟨#[]⟩, .bool false, .int .u32 0, .bool false] 88)
  have hsA : W0.heap.size ≤ Wa.heap.size := hWa.size
  go_simp
  apply Rel.ordK_loose (by rfl) (by rfl) (by rfl)
  intro Wb hWb
  have Kb := KA.trans hWb
  have Bb := BR.keep hWb
  have fb := Bb.thawed
  have cb := Bb.cells
  go_simp
  apply Rel.gives_skip
  have h4 : ∃ W4, W4 = ((((Wb.setCell ⟨Wa.heap.size, 0, none⟩ (.string s.name)).setCell ⟨Wa.heap.size, 1, none⟩ (.bool false)).setCell ⟨Wa.heap.size, 2, none⟩ (.int .u32 s.off)).setCell ⟨Wa.heap.size, 3, none⟩ (.bool x)) := ⟨_, rfl⟩
  obtain ⟨W4, hW4⟩ := h4
  rw [← hW4]
  have B4 : Box W4 Wa.heap.size #[.string s.name, .bool false, .int .u32 s.off, .bool x] := by
    rw [hW4]; simpa using (((Bb.set 0 (.string s.name)).set 1 (.bool false)).set 2 (.int .u32 s.off)).set 3 (.bool x)
  have K34 : KeepBut (fun z => W0.heap.size ≤ z) Wb W4 := by
    rw [hW4]
    repeat (with_reducible refine KeepBut.setAt ?_ ?_ _; · exact .inl hsA)
    exact KeepBut.refl _ _
  have K4 : Keep W0 W4 := ((Kb.but _).trans K34).keep (fun z hz => hz)
  refine ⟨K34, ?_⟩
  clear hW4 K34 Bb fb cb Kb hWb KA BR hWa
  obtain ⟨tb_, htb_⟩ : ∃ tb_, tb_ = Wa.heap.size := ⟨_, rfl⟩
  rw [← htb_] at B4 hsA ⊢
  clear htb_
  apply Rel.ordK_step (by rfl) (by rfl) (by rfl)
  · intro W' hW'
    go_simp
    exact ⟨rfl, Keep.refl _⟩
  go_simp
  apply Rel.ordK_end
  intro W5 hW5
  have K5 := Lib.hid (K0.out.trans (K4.trans hW5))
  have B2 := Lib.hid (B4.keep hW5)
  have B15 := Lib.hid (B1.out.keep (K4.trans hW5))
  have P5 := Lib.hid (K5.out.cellOf P0.out)
  have c1 := B15.out.cells
  have c2 := B2.out.cells
  clear hW5 K4 B4 N0 N1 N2 N3 B1 K0
  cases g with
  | false =>
    go_wp2_with ((with_reducible refine (CG.out _).mono ?_); rintro e w' ⟨rfl, rfl⟩)
    go_ret
    exact ⟨rfl, K5.out⟩
  | true =>
    go_wp2_with ((with_reducible refine (CG.out _).mono ?_); rintro e w' ⟨rfl, rfl⟩)
    refine region_grows (Keep W5) (by kernel_rfl) (by kernel_rfl) (Keep.refl _).drew ?_
    repeat (first
      | (apply text_pass (by rfl); go_simp)
      | (apply text_step (by rfl)
         · intro W hW
           have e1 := (B15.out.keep hW).cells
           have e2 := (B2.out.keep hW).cells
           have e3 := hW.cellOf P5.out
           go_simp
           exact ⟨rfl, hW⟩
         go_simp))
    apply text_end
    intro W hW
    have KW := Lib.hid (K5.out.trans hW)
    have B1W := Lib.hid (B15.out.keep hW)
    have B2W := Lib.hid (B2.out.keep hW)
    clear hW c1 c2 K5 B15 B2
    have c1 := B1W.out.cells
    have c2 := B2W.out.cells
    cases sl
    rotate_left
    · cases se
      · go_wp2_with fail
        go_ret
        exact ⟨rfl, KW.out⟩
      · go_wp2_with fail
        go_ret
        exact ⟨rfl, KW.out⟩
    cases se
    rotate_left
    · go_wp2_with fail
      go_ret
      exact ⟨rfl, KW.out⟩
    cases v
    rotate_left
    · have hv1 := of_decide_eq_true hv
      go_wp2_with fail
      go_ret
      exact ⟨rfl, KW.out⟩
    have hv1 := of_decide_eq_false hv
    cases x
    · go_wp2_with fail
      go_ret
      exact ⟨rfl, KW.out⟩
    cases a
    rotate_left
    · go_wp2_with fail
      go_ret
      exact ⟨rfl, KW.out⟩
    have ha1 : (s.off % 4 == 0) = true := by cases h : (s.off % 4 == 0) with | true => rfl | false => rw [bne, h] at ha; cases ha
    cases q
    · go_wp2_with fail
      go_ret
      exact ⟨rfl, KW.out⟩
    · go_wp2_with fail
      go_ret
      exact ⟨rfl, KW.out⟩
set_option maxHeartbeats 4000000 in
set_option maxRecDepth 100000 in
theorem psym_d0 (o : ObjV) (vc vd vs vr : Value) (s : SymV) (hs : o.syms[0]? = some s) (w : World) (h : ObjAt w o vc vd vs vr) (hf : ObjMid o) (ho : SymOk s) (hd : s.data = true) :
    Calls Tryz.prog 159 #[objVal o vc vd vs vr, .int .i64 0] w fun e w' => e = .returned (.int .i64 (symE o 0)) ∧ Keep w w' := by
  have E := symE_F hs
  have sec : secL o s.data = o.data.length := by rw [hd]; rfl
  rw [sec, hd] at E
  clear sec
  obtain ⟨pc, cc, rfl, hcc, _, _⟩ := h.code
  obtain ⟨pd, cd, rfl, hcd, _, _⟩ := h.data
  obtain ⟨b, off, cap, rfl, hcap, hlt, n0, n1, n2, n3⟩ := h.sym hs
  have ep : prevS o 0 s = false := rfl
  rw [ep] at E
  clear ep
  have CG := Lib.hid (fun W => pname_any s.name (by have := hf.symN s (List.mem_of_getElem? hs); omega) W)
  have hi := (List.getElem?_eq_some_iff.1 hs).1
  have few := hf.syms
  have fc := hf.code
  have fd := hf.data
  have wc : IntKind.u32.wrap (o.code.length : Int) = (o.code.length : Int) := IntWalk.u32_in _ (by omega)
  have wd : IntKind.u32.wrap (o.data.length : Int) = (o.data.length : Int) := IntWalk.u32_in _ (by omega)
  obtain ⟨o0, o1⟩ := ho
  rw [hd] at n1
  have hii : (0 : Int) < (o.syms.length : Int) := by omega
  simp only [Nat.zero_mul, Nat.add_zero] at n0 n1 n2 n3
  unfold objVal
  rw [E]
  obtain ⟨x, hx⟩ : ∃ x, s.exp = x := ⟨_, rfl⟩
  obtain ⟨v, hv⟩ : ∃ v, decide ((o.data.length : Int) < s.off) = v := ⟨_, rfl⟩
  obtain ⟨a, ha⟩ : ∃ a, (s.off % 4 != 0) = a := ⟨_, rfl⟩
  obtain ⟨q, hq⟩ : ∃ q, (s.off == (o.data.length : Int)) = q := ⟨_, rfl⟩
  rw [hx] at n3
  rw [hx, hv, ha, hq]
  clear hx
  obtain ⟨W0, hW0⟩ : ∃ W0, W0 = w.alloc (.cells #[.string o.name, .slice pc o.code.length cc, .slice pd o.data.length cd, .slice (some ⟨b, off, none⟩) o.syms.length cap, vr] 76) := ⟨_, rfl⟩
  have K0 : Hid (Keep w W0) := Lib.hid (by rw [hW0]; exact (Keep.refl _).alloc _)
  have B1 : Hid (Box W0 w.heap.size #[.string o.name, .slice pc o.code.length cc, .slice pd o.data.length cd, .slice (some ⟨b, off, none⟩) o.syms.length cap, vr]) := Lib.hid (by rw [hW0]; exact Box.new _ _ _)
  have N0 := Lib.hid (K0.out.cellOf n0)
  have N1 := Lib.hid (K0.out.cellOf n1)
  have N2 := Lib.hid (K0.out.cellOf n2)
  have N3 := Lib.hid (K0.out.cellOf n3)
  have sz0 := B1.out.lt
  clear h hf hs E hcc hcd hcap hd n0 n1 n2 n3
  generalize goodB s.name = g at CG ⊢
  go_enter Tryz.func159, Tryz.ntmps159
  go_wp2_with fail
  rw [← hW0]
  clear hW0
  refine Rel.regionO (KeepBut (fun z => W0.heap.size ≤ z)) (butWay _) [9, 10] [0, 1, 2, 3, 4, 5, 6, 7, 8, 9, 10, 11] (by kernel_rfl) (by kernel_rfl) (Keep.refl _) ?_
  repeat (apply Rel.ordK_step (by rfl) (by rfl) (by rfl)
          · intro W' hW'
            have kW := hW'.keep (fun z hz => hz)
            have c1 := (B1.out.keep kW).cells
            have m0 := kW.cellOf N0.out
            have m1 := kW.cellOf N1.out
            have m2 := kW.cellOf N2.out
            have m3 := kW.cellOf N3.out
            go_simp
            exact ⟨rfl, Keep.refl _⟩
          go_simp)
  apply Rel.ordK_loose (by rfl) (by rfl) (by rfl)
  intro Wa hWa
  go_simp
  apply Rel.gives_value
  refine ⟨((Keep.refl _).alloc _).but _, ?_⟩
  have BR : Box (Wa.alloc (.cells #[.string ⟨#[]⟩, .bool false, .int .u32 0, .bool false] 88)) Wa.heap.size #[.string ⟨#[]⟩, .bool false, .int .u32 0, .bool false] := Box.new _ _ _
  have KA := hWa.alloc (.cells #[.string ⟨#[]⟩, .bool false, .int .u32 0, .bool false] 88)
  have hsA : W0.heap.size ≤ Wa.heap.size := hWa.size
  go_simp
  apply Rel.ordK_loose (by rfl) (by rfl) (by rfl)
  intro Wb hWb
  have Kb := KA.trans hWb
  have Bb := BR.keep hWb
  have fb := Bb.thawed
  have cb := Bb.cells
  go_simp
  apply Rel.gives_skip
  have h4 : ∃ W4, W4 = ((((Wb.setCell ⟨Wa.heap.size, 0, none⟩ (.string s.name)).setCell ⟨Wa.heap.size, 1, none⟩ (.bool true)).setCell ⟨Wa.heap.size, 2, none⟩ (.int .u32 s.off)).setCell ⟨Wa.heap.size, 3, none⟩ (.bool x)) := ⟨_, rfl⟩
  obtain ⟨W4, hW4⟩ := h4
  rw [← hW4]
  have B4 : Box W4 Wa.heap.size #[.string s.name, .bool true, .int .u32 s.off, .bool x] := by
    rw [hW4]; simpa using (((Bb.set 0 (.string s.name)).set 1 (.bool true)).set 2 (.int .u32 s.off)).set 3 (.bool x)
  have K34 : KeepBut (fun z => W0.heap.size ≤ z) Wb W4 := by
    rw [hW4]
    repeat (with_reducible refine KeepBut.setAt ?_ ?_ _; · exact .inl hsA)
    exact KeepBut.refl _ _
  have K4 : Keep W0 W4 := ((Kb.but _).trans K34).keep (fun z hz => hz)
  refine ⟨K34, ?_⟩
  clear hW4 K34 Bb fb cb Kb hWb KA BR hWa
  obtain ⟨tb_, htb_⟩ : ∃ tb_, tb_ = Wa.heap.size := ⟨_, rfl⟩
  rw [← htb_] at B4 hsA ⊢
  clear htb_
  apply Rel.ordK_step (by rfl) (by rfl) (by rfl)
  · intro W' hW'
    go_simp
    exact ⟨rfl, Keep.refl _⟩
  go_simp
  apply Rel.ordK_end
  intro W5 hW5
  have K5 := Lib.hid (K0.out.trans (K4.trans hW5))
  have B2 := Lib.hid (B4.keep hW5)
  have B15 := Lib.hid (B1.out.keep (K4.trans hW5))
  
  have c1 := B15.out.cells
  have c2 := B2.out.cells
  clear hW5 K4 B4 N0 N1 N2 N3 B1 K0
  cases g with
  | false =>
    go_wp2_with ((with_reducible refine (CG.out _).mono ?_); rintro e w' ⟨rfl, rfl⟩)
    go_ret
    exact ⟨rfl, K5.out⟩
  | true =>
    go_wp2_with ((with_reducible refine (CG.out _).mono ?_); rintro e w' ⟨rfl, rfl⟩)
    refine region_grows (Keep W5) (by kernel_rfl) (by kernel_rfl) (Keep.refl _).drew ?_
    repeat (first
      | (apply text_pass (by rfl); go_simp)
      | (apply text_step (by rfl)
         · intro W hW
           have e1 := (B15.out.keep hW).cells
           have e2 := (B2.out.keep hW).cells
           
           go_simp
           exact ⟨rfl, hW⟩
         go_simp))
    apply text_end
    intro W hW
    have KW := Lib.hid (K5.out.trans hW)
    have B1W := Lib.hid (B15.out.keep hW)
    have B2W := Lib.hid (B2.out.keep hW)
    clear hW c1 c2 K5 B15 B2
    have c1 := B1W.out.cells
    have c2 := B2W.out.cells
    cases v
    rotate_left
    · have hv1 := of_decide_eq_true hv
      go_wp2_with fail
      go_ret
      exact ⟨rfl, KW.out⟩
    have hv1 := of_decide_eq_false hv
    cases x
    · go_wp2_with fail
      go_ret
      exact ⟨rfl, KW.out⟩
    go_wp2_with fail
    go_ret
    exact ⟨rfl, KW.out⟩
set_option maxHeartbeats 4000000 in
set_option maxRecDepth 100000 in
theorem psym_dj (o : ObjV) (vc vd vs vr : Value) (j : Nat) (s p : SymV) (hs : o.syms[j + 1]? = some s) (hp : o.syms[j]? = some p) (w : World) (h : ObjAt w o vc vd vs vr) (hf : ObjMid o) (ho : SymOk s) (hd : s.data = true) :
    Calls Tryz.prog 159 #[objVal o vc vd vs vr, .int .i64 ((j : Int) + 1)] w fun e w' => e = .returned (.int .i64 (symE o (j + 1))) ∧ Keep w w' := by
  have E := symE_F hs
  have sec : secL o s.data = o.data.length := by rw [hd]; rfl
  rw [sec, hd] at E
  clear sec
  obtain ⟨pc, cc, rfl, hcc, _, _⟩ := h.code
  obtain ⟨pd, cd, rfl, hcd, _, _⟩ := h.data
  obtain ⟨b, off, cap, rfl, hcap, hlt, n0, n1, n2, n3⟩ := h.sym hs
  obtain ⟨b', off', cap', h1', _, _, p0, p1, p2, p3⟩ := h.sym hp
  simp only [Value.slice.injEq, Option.some.injEq, Addr.mk.injEq, and_true, true_and] at h1'
  obtain ⟨⟨rfl, rfl⟩, rfl⟩ := h1'
  have P0 := Lib.hid p0
  clear p0 p1 p2 p3
  have wi : IntKind.i64.wrap (j : Int) = (j : Int) := by
    have := (List.getElem?_eq_some_iff.1 hs).1
    have := hf.syms
    rw [IntKind.wrap_i64]; omega
  have ep : prevS o (j + 1) s = (Op.bytesLess s.name.toList p.name.toList || (s.name.toList == p.name.toList)) := by unfold prevS; simp only [hp]; rw [bytes_total]; rfl
  rw [ep] at E
  clear ep
  have CG := Lib.hid (fun W => pname_any s.name (by have := hf.symN s (List.mem_of_getElem? hs); omega) W)
  have hi := (List.getElem?_eq_some_iff.1 hs).1
  have few := hf.syms
  have fc := hf.code
  have fd := hf.data
  have wc : IntKind.u32.wrap (o.code.length : Int) = (o.code.length : Int) := IntWalk.u32_in _ (by omega)
  have wd : IntKind.u32.wrap (o.data.length : Int) = (o.data.length : Int) := IntWalk.u32_in _ (by omega)
  obtain ⟨o0, o1⟩ := ho
  rw [hd] at n1
  have hii : (j : Int) + 1 < (o.syms.length : Int) := by omega
  have hi1 : (j : Int) < (o.syms.length : Int) := by omega
  unfold objVal
  rw [E]
  obtain ⟨x, hx⟩ : ∃ x, s.exp = x := ⟨_, rfl⟩
  obtain ⟨v, hv⟩ : ∃ v, decide ((o.data.length : Int) < s.off) = v := ⟨_, rfl⟩
  obtain ⟨a, ha⟩ : ∃ a, (s.off % 4 != 0) = a := ⟨_, rfl⟩
  obtain ⟨q, hq⟩ : ∃ q, (s.off == (o.data.length : Int)) = q := ⟨_, rfl⟩
  obtain ⟨sl, hsl⟩ : ∃ sl, Op.bytesLess s.name.toList p.name.toList = sl := ⟨_, rfl⟩
  obtain ⟨se, hse⟩ : ∃ se, (s.name.toList == p.name.toList) = se := ⟨_, rfl⟩
  rw [hsl, hse]
  rw [hx] at n3
  rw [hx, hv, ha, hq]
  clear hx
  obtain ⟨W0, hW0⟩ : ∃ W0, W0 = w.alloc (.cells #[.string o.name, .slice pc o.code.length cc, .slice pd o.data.length cd, .slice (some ⟨b, off, none⟩) o.syms.length cap, vr] 76) := ⟨_, rfl⟩
  have K0 : Hid (Keep w W0) := Lib.hid (by rw [hW0]; exact (Keep.refl _).alloc _)
  have B1 : Hid (Box W0 w.heap.size #[.string o.name, .slice pc o.code.length cc, .slice pd o.data.length cd, .slice (some ⟨b, off, none⟩) o.syms.length cap, vr]) := Lib.hid (by rw [hW0]; exact Box.new _ _ _)
  have N0 := Lib.hid (K0.out.cellOf n0)
  have N1 := Lib.hid (K0.out.cellOf n1)
  have N2 := Lib.hid (K0.out.cellOf n2)
  have N3 := Lib.hid (K0.out.cellOf n3)
  have sz0 := B1.out.lt
  clear h hf hs E hcc hcd hcap hd n0 n1 n2 n3
  generalize goodB s.name = g at CG ⊢
  go_enter Tryz.func159, Tryz.ntmps159
  go_wp2_with fail
  rw [← hW0]
  clear hW0
  refine Rel.regionO (KeepBut (fun z => W0.heap.size ≤ z)) (butWay _) [9, 10] [0, 1, 2, 3, 4, 5, 6, 7, 8, 9, 10, 11] (by kernel_rfl) (by kernel_rfl) (Keep.refl _) ?_
  repeat (apply Rel.ordK_step (by rfl) (by rfl) (by rfl)
          · intro W' hW'
            have kW := hW'.keep (fun z hz => hz)
            have c1 := (B1.out.keep kW).cells
            have m0 := kW.cellOf N0.out
            have m1 := kW.cellOf N1.out
            have m2 := kW.cellOf N2.out
            have m3 := kW.cellOf N3.out
            go_simp
            exact ⟨rfl, Keep.refl _⟩
          go_simp)
  apply Rel.ordK_loose (by rfl) (by rfl) (by rfl)
  intro Wa hWa
  go_simp
  apply Rel.gives_value
  refine ⟨((Keep.refl _).alloc _).but _, ?_⟩
  have BR : Box (Wa.alloc (.cells #[.string ⟨#[]⟩, .bool false, .int .u32 0, .bool false] 88)) Wa.heap.size #[.string ⟨#[]⟩, .bool false, .int .u32 0, .bool false] := Box.new _ _ _
  have KA := hWa.alloc (.cells #[.string ⟨#[]⟩, .bool false, .int .u32 0, .bool false] 88)
  have hsA : W0.heap.size ≤ Wa.heap.size := hWa.size
  go_simp
  apply Rel.ordK_loose (by rfl) (by rfl) (by rfl)
  intro Wb hWb
  have Kb := KA.trans hWb
  have Bb := BR.keep hWb
  have fb := Bb.thawed
  have cb := Bb.cells
  go_simp
  apply Rel.gives_skip
  have h4 : ∃ W4, W4 = ((((Wb.setCell ⟨Wa.heap.size, 0, none⟩ (.string s.name)).setCell ⟨Wa.heap.size, 1, none⟩ (.bool true)).setCell ⟨Wa.heap.size, 2, none⟩ (.int .u32 s.off)).setCell ⟨Wa.heap.size, 3, none⟩ (.bool x)) := ⟨_, rfl⟩
  obtain ⟨W4, hW4⟩ := h4
  rw [← hW4]
  have B4 : Box W4 Wa.heap.size #[.string s.name, .bool true, .int .u32 s.off, .bool x] := by
    rw [hW4]; simpa using (((Bb.set 0 (.string s.name)).set 1 (.bool true)).set 2 (.int .u32 s.off)).set 3 (.bool x)
  have K34 : KeepBut (fun z => W0.heap.size ≤ z) Wb W4 := by
    rw [hW4]
    repeat (with_reducible refine KeepBut.setAt ?_ ?_ _; · exact .inl hsA)
    exact KeepBut.refl _ _
  have K4 : Keep W0 W4 := ((Kb.but _).trans K34).keep (fun z hz => hz)
  refine ⟨K34, ?_⟩
  clear hW4 K34 Bb fb cb Kb hWb KA BR hWa
  obtain ⟨tb_, htb_⟩ : ∃ tb_, tb_ = Wa.heap.size := ⟨_, rfl⟩
  rw [← htb_] at B4 hsA ⊢
  clear htb_
  apply Rel.ordK_step (by rfl) (by rfl) (by rfl)
  · intro W' hW'
    go_simp
    exact ⟨rfl, Keep.refl _⟩
  go_simp
  apply Rel.ordK_end
  intro W5 hW5
  have K5 := Lib.hid (K0.out.trans (K4.trans hW5))
  have B2 := Lib.hid (B4.keep hW5)
  have B15 := Lib.hid (B1.out.keep (K4.trans hW5))
  have P5 := Lib.hid (K5.out.cellOf P0.out)
  have c1 := B15.out.cells
  have c2 := B2.out.cells
  clear hW5 K4 B4 N0 N1 N2 N3 B1 K0
  cases g with
  | false =>
    go_wp2_with ((with_reducible refine (CG.out _).mono ?_); rintro e w' ⟨rfl, rfl⟩)
    go_ret
    exact ⟨rfl, K5.out⟩
  | true =>
    go_wp2_with ((with_reducible refine (CG.out _).mono ?_); rintro e w' ⟨rfl, rfl⟩)
    refine region_grows (Keep W5) (by kernel_rfl) (by kernel_rfl) (Keep.refl _).drew ?_
    repeat (first
      | (apply text_pass (by rfl); go_simp)
      | (apply text_step (by rfl)
         · intro W hW
           have e1 := (B15.out.keep hW).cells
           have e2 := (B2.out.keep hW).cells
           have e3 := hW.cellOf P5.out
           go_simp
           exact ⟨rfl, hW⟩
         go_simp))
    apply text_end
    intro W hW
    have KW := Lib.hid (K5.out.trans hW)
    have B1W := Lib.hid (B15.out.keep hW)
    have B2W := Lib.hid (B2.out.keep hW)
    clear hW c1 c2 K5 B15 B2
    have c1 := B1W.out.cells
    have c2 := B2W.out.cells
    cases sl
    rotate_left
    · cases se
      · go_wp2_with fail
        go_ret
        exact ⟨rfl, KW.out⟩
      · go_wp2_with fail
        go_ret
        exact ⟨rfl, KW.out⟩
    cases se
    rotate_left
    · go_wp2_with fail
      go_ret
      exact ⟨rfl, KW.out⟩
    cases v
    rotate_left
    · have hv1 := of_decide_eq_true hv
      go_wp2_with fail
      go_ret
      exact ⟨rfl, KW.out⟩
    have hv1 := of_decide_eq_false hv
    cases x
    · go_wp2_with fail
      go_ret
      exact ⟨rfl, KW.out⟩
    go_wp2_with fail
    go_ret
    exact ⟨rfl, KW.out⟩
/-- Any symbol. -/
theorem psym_any (o : ObjV) (vc vd vs vr : Value) (i : Nat) (w : World) (h : ObjAt w o vc vd vs vr) (hf : ObjMid o) (ho : ObjNum o) (hi : i < o.syms.length) :
    Calls Tryz.prog 159 #[objVal o vc vd vs vr, .int .i64 (i : Int)] w fun e w' => e = .returned (.int .i64 (symE o i)) ∧ Keep w w' := by
  have hs := List.getElem?_eq_getElem hi
  have hok := ho.syms _ (List.getElem_mem hi)
  cases hd : (o.syms[i]).data with
  | false =>
    match i, hi, hs, hok, hd with
    | 0, hi, hs, hok, hd => exact psym_c0 o vc vd vs vr _ hs w h hf hok hd
    | j + 1, hi, hs, hok, hd =>
      have := psym_cj o vc vd vs vr j _ _ hs (List.getElem?_eq_getElem (by omega)) w h hf hok hd
      simpa using this
  | true =>
    match i, hi, hs, hok, hd with
    | 0, hi, hs, hok, hd => exact psym_d0 o vc vd vs vr _ hs w h hf hok hd
    | j + 1, hi, hs, hok, hd =>
      have := psym_dj o vc vd vs vr j _ _ hs (List.getElem?_eq_getElem (by omega)) w h hf hok hd
      simpa using this
end Go.Proofs.YtbmjnfnekmeegaaGreatDoor

/- The program's own, target: what is wrong with what a relocation is of. -/
namespace Go.Proofs.YtbmjnfnekmeegaaGreatDoor
set_option linter.unusedVariables false
set_option linter.unusedSimpArgs false
open Go.RowKit
def relVal (kd of : Int) (cp nm : ByteArray) (pm : Int) : Value := .agg #[.int .i64 kd, .int .u32 of, .string cp, .string nm, .int .u16 pm]
theorem oempty {cp : ByteArray} (h : cp.toList = []) : cp = ⟨#[]⟩ := by
  apply ByteArray.ext
  apply Array.ext'
  rw [← ByteArray.toList_eq]; exact h
theorem onempty {cp : ByteArray} (h : ¬ cp.toList = []) : cp ≠ ⟨#[]⟩ := by
  rintro rfl
  exact h (by rw [ByteArray.toList_eq])
set_option maxHeartbeats 4000000 in
set_option maxRecDepth 100000 in
theorem pown_any (o : ObjV) (vc vd vs vr : Value) (kd of : Int) (cp nm : ByteArray) (pm : Int) (w : World) (h : ObjAt w o vc vd vs vr) (hf : ObjMid o) :
    Calls Tryz.prog 196 #[objVal o vc vd vs vr, relVal kd of cp nm pm] w fun e w' => e = .returned (.int .i64 (relK o 1 cp nm pm)) ∧ Keep w w' := by
  have HO := Lib.hid h
  have CF := Lib.hid (fun W hW => pfindO_any o vc vd vs vr nm W (ObjAt.keep HO.out hW) (by have := hf.syms; omega))
  unfold objVal at CF ⊢
  unfold relVal
  obtain ⟨W1, hW1⟩ : ∃ W1, W1 = (w.alloc (.cells #[.string o.name, vc, vd, vs, vr] 76)).alloc (.cells #[.int .i64 kd, .int .u32 of, .string cp, .string nm, .int .u16 pm] 137) := ⟨_, rfl⟩
  have K1 : Hid (Keep w W1) := Lib.hid (by rw [hW1]; exact ((Keep.refl _).alloc _).alloc _)
  have B2 : Hid (Box W1 (w.heap.size + 1) #[.int .i64 kd, .int .u32 of, .string cp, .string nm, .int .u16 pm]) := Lib.hid (by rw [hW1]; exact Box.new1 _ _ _ _)
  clear h hf
  obtain ⟨fs, hfs⟩ : ∃ fs, findS o.syms nm = fs := ⟨_, rfl⟩
  have C1 := Lib.hid (CF.out W1 K1.out)
  unfold FindR at C1
  rw [hfs] at C1
  have HF := Lib.hid hfs
  clear hfs CF
  go_enter Tryz.func196, Tryz.ntmps196
  go_wp2_with fail
  rw [← hW1]
  clear hW1
  cases fs with
  | none =>
    simp only [symVal, noSym] at C1
    refine C1.out.mono ?_
    rintro e W2 ⟨rfl, hk2⟩
    have K2 := Lib.hid (K1.out.trans hk2)
    have d2 := fun o => (Box.alloc (B2.out.keep hk2) o).cells
    clear hk2 C1
    go_wp2_with fail
    go_ret
    refine ⟨?_, K2.out.alloc _⟩
    rw [show relK o 1 cp nm pm = 12 by unfold relK; rw [if_pos rfl, HF.out]] <;> rfl
  | some s =>
    obtain ⟨sn, sd, so, sx⟩ := s
    simp only [symVal] at C1
    obtain ⟨mv, hmv⟩ : ∃ mv, bits .andNot .u16 pm (mostP sd) = mv := ⟨_, rfl⟩
    have HM := Lib.hid hmv
    refine C1.out.mono ?_
    rintro e W2 ⟨rfl, hk2⟩
    have K2 := Lib.hid (K1.out.trans hk2)
    have d2 := fun o => (Box.alloc (B2.out.keep hk2) o).cells
    clear hk2 C1
    by_cases ce : cp.toList = []
    rotate_left
    · have ce2 : cp.toList.isEmpty = false := by
        cases h : cp.toList with
        | nil => exact absurd h ce
        | cons a l => rfl
      cases sd
      all_goals (
        go_wp2_with fail
        go_ret
        refine ⟨?_, K2.out.alloc _⟩
        rw [show relK o 1 cp nm pm = 17 by unfold relK; rw [if_pos rfl, HF.out]; exact if_pos (onempty ce)] <;> rfl)
    have CE := Lib.hid (oempty ce)
    rcases Bool.eq_false_or_eq_true (mv != 0) with mz | mz
    · cases sd
      all_goals (
        first | (replace hmv : bits .andNot .u16 pm 13 = mv := hmv) | (replace hmv : bits .andNot .u16 pm 27 = mv := hmv)
        go_wp2_with fail
        go_ret
        refine ⟨?_, K2.out.alloc _⟩
        rw [show relK o 1 cp nm pm = 3 by unfold relK; rw [if_pos rfl, HF.out]; simp only; rw [if_neg (fun h => h CE.out), HM.out, if_pos (by simpa using mz)]] <;> rfl)
    · cases sd
      all_goals (
        first | (replace hmv : bits .andNot .u16 pm 13 = mv := hmv) | (replace hmv : bits .andNot .u16 pm 27 = mv := hmv)
        go_wp2_with fail
        go_ret
        refine ⟨?_, K2.out.alloc _⟩
        rw [show relK o 1 cp nm pm = 0 by unfold relK; rw [if_pos rfl, HF.out]; simp only; rw [if_neg (fun h => h CE.out), HM.out, if_neg (by simpa using mz)]] <;> rfl)
set_option maxHeartbeats 4000000 in
set_option maxRecDepth 100000 in
theorem ptarget_any (o : ObjV) (vc vd vs vr : Value) (kd of : Int) (cp nm : ByteArray) (pm : Int) (hk : kd = 1 ∨ kd = 2 ∨ kd = 3) (hc : cp.size ≤ 1000) (hn : nm.size ≤ 1000) (w : World) (h : ObjAt w o vc vd vs vr) (hf : ObjMid o) :
    Calls Tryz.prog 183 #[objVal o vc vd vs vr, relVal kd of cp nm pm] w fun e w' => e = .returned (.int .i64 (relK o kd cp nm pm)) ∧ Keep w w' := by
  have HO := Lib.hid h
  have CO := Lib.hid (fun W hW => pown_any o vc vd vs vr 1 of cp nm pm W (ObjAt.keep HO.out hW) hf)
  unfold objVal relVal at CO
  unfold objVal relVal
  have CGc := Lib.hid (fun W => pname_any cp (by omega) W)
  have CGn := Lib.hid (fun W => pname_any nm (by omega) W)
  have K1 : Hid (Keep w ((w.alloc (.cells #[.string o.name, vc, vd, vs, vr] 76)).alloc (.cells #[.int .i64 kd, .int .u32 of, .string cp, .string nm, .int .u16 pm] 137))) := Lib.hid (((Keep.refl _).alloc _).alloc _)
  clear h hf
  rcases hk with rfl | rfl | rfl
  · go_enter Tryz.func183, Tryz.ntmps183
    go_wp2_with fail
    refine (CO.out _ K1.out).mono ?_
    rintro e w2 ⟨rfl, hk2⟩
    have K2 := Lib.hid (K1.out.trans hk2)
    clear hk2
    go_wp2_with fail
    go_ret
    exact ⟨rfl, K2.out⟩
  · cases g : goodB cp with
    | false =>
      rw [g] at CGc
      go_enter Tryz.func183, Tryz.ntmps183
      go_wp2_with ((with_reducible refine (CGc.out _).mono ?_); rintro e w' ⟨rfl, rfl⟩)
      go_ret
      refine ⟨?_, K1.out⟩
      rw [show relK o 2 cp nm pm = 12 by unfold relK; rw [if_neg (by decide), if_pos rfl, g]; rfl] <;> rfl
    | true =>
      rw [g] at CGc
      cases g2 : goodB nm with
      | false =>
        rw [g2] at CGn
        go_enter Tryz.func183, Tryz.ntmps183
        go_wp2_with (first | ((with_reducible refine (CGc.out _).mono ?_); rintro e w' ⟨rfl, rfl⟩) | ((with_reducible refine (CGn.out _).mono ?_); rintro e w' ⟨rfl, rfl⟩))
        go_ret
        refine ⟨?_, ?_⟩
        · rw [show relK o 2 cp nm pm = 12 by unfold relK; rw [if_neg (by decide), if_pos rfl, g, g2]; rfl] <;> rfl
        · repeat (with_reducible refine Keep.setAt ?_ ?_ _; · first | omega | (simp; done) | (simp; omega))
          first | exact K1.out | exact ((Keep.refl _).alloc _).alloc _
      | true =>
        rw [g2] at CGn
        rcases Bool.eq_false_or_eq_true (pm != 0) with pz | pz
        · go_enter Tryz.func183, Tryz.ntmps183
          go_wp2_with (first | ((with_reducible refine (CGc.out _).mono ?_); rintro e w' ⟨rfl, rfl⟩) | ((with_reducible refine (CGn.out _).mono ?_); rintro e w' ⟨rfl, rfl⟩))
          go_ret
          refine ⟨?_, ?_⟩
          · rw [show relK o 2 cp nm pm = 17 by unfold relK; rw [if_neg (by decide), if_pos rfl, g, g2, if_neg (by decide), if_pos (by simpa using pz)]] <;> rfl
          · repeat (with_reducible refine Keep.setAt ?_ ?_ _; · first | omega | (simp; done) | (simp; omega))
            first | exact K1.out | exact ((Keep.refl _).alloc _).alloc _
        · go_enter Tryz.func183, Tryz.ntmps183
          go_wp2_with (first | ((with_reducible refine (CGc.out _).mono ?_); rintro e w' ⟨rfl, rfl⟩) | ((with_reducible refine (CGn.out _).mono ?_); rintro e w' ⟨rfl, rfl⟩))
          go_ret
          refine ⟨?_, ?_⟩
          · rw [show relK o 2 cp nm pm = 0 by unfold relK; rw [if_neg (by decide), if_pos rfl, g, g2, if_neg (by decide), if_neg (by simpa using pz)]] <;> rfl
          · repeat (with_reducible refine Keep.setAt ?_ ?_ _; · first | omega | (simp; done) | (simp; omega))
            first | exact K1.out | exact ((Keep.refl _).alloc _).alloc _
  · cases g : goodB nm with
    | false =>
      rw [g] at CGn
      go_enter Tryz.func183, Tryz.ntmps183
      go_wp2_with ((with_reducible refine (CGn.out _).mono ?_); rintro e w' ⟨rfl, rfl⟩)
      go_ret
      refine ⟨?_, K1.out⟩
      rw [show relK o 3 cp nm pm = 12 by unfold relK; rw [if_neg (by decide), if_neg (by decide), if_pos g]] <;> rfl
    | true =>
      rw [g] at CGn
      by_cases ce : cp.toList = []
      rotate_left
      · have ce2 : cp.toList.isEmpty = false := by
          cases h : cp.toList with
          | nil => exact absurd h ce
          | cons a l => rfl
        go_enter Tryz.func183, Tryz.ntmps183
        go_wp2_with ((with_reducible refine (CGn.out _).mono ?_); rintro e w' ⟨rfl, rfl⟩)
        go_ret
        refine ⟨?_, K1.out⟩
        rw [show relK o 3 cp nm pm = 17 by unfold relK; rw [if_neg (by decide), if_neg (by decide), if_neg (by rw [g]; decide), if_pos (.inl (onempty ce))]] <;> rfl
      have CE := Lib.hid (oempty ce)
      rcases Bool.eq_false_or_eq_true (pm != 0) with pz | pz
      · go_enter Tryz.func183, Tryz.ntmps183
        go_wp2_with ((with_reducible refine (CGn.out _).mono ?_); rintro e w' ⟨rfl, rfl⟩)
        go_ret
        refine ⟨?_, K1.out⟩
        rw [show relK o 3 cp nm pm = 17 by unfold relK; rw [if_neg (by decide), if_neg (by decide), if_neg (by rw [g]; decide), if_pos (.inr (by simpa using pz))]] <;> rfl
      · go_enter Tryz.func183, Tryz.ntmps183
        go_wp2_with ((with_reducible refine (CGn.out _).mono ?_); rintro e w' ⟨rfl, rfl⟩)
        go_ret
        refine ⟨?_, K1.out⟩
        rw [show relK o 3 cp nm pm = 0 by unfold relK; rw [if_neg (by decide), if_neg (by decide), if_neg (by rw [g]; decide), if_neg (by rintro (h | h); exact h CE.out; exact h (by simpa using pz))]] <;> rfl
end Go.Proofs.YtbmjnfnekmeegaaGreatDoor

/- The program's relocation: what is wrong of a relocation. -/
namespace Go.Proofs.YtbmjnfnekmeegaaGreatDoor
set_option linter.unusedVariables false
set_option linter.unusedSimpArgs false
open Go.RowKit
set_option maxHeartbeats 4000000 in
set_option maxRecDepth 100000 in
theorem prel_0 (o : ObjV) (vc vd vs vr : Value) (r : RelV) (hs : o.rels[0]? = some r) (w : World) (h : ObjAt w o vc vd vs vr) (hf : ObjMid o) (ho : ObjNum o) :
    Calls Tryz.prog 161 #[objVal o vc vd vs vr, .int .i64 0] w fun e w' => e = .returned (.int .i64 (relE o 0)) ∧ Keep w w' := by
  have HO := Lib.hid h
  have HF := Lib.hid hf
  obtain ⟨u0, u1, u2, u3⟩ := ho.rels r (List.mem_of_getElem? hs)
  obtain ⟨u4, u5⟩ := ho.kinds r (List.mem_of_getElem? hs)
  have sc := hf.relC r (List.mem_of_getElem? hs)
  have sn := hf.relN r (List.mem_of_getElem? hs)
  obtain ⟨pd, cd, rfl, hcd, _, _⟩ := h.data
  obtain ⟨b, off, cap, rfl, hcap, hlt, n0, n1, n2, n3, n4⟩ := h.rel hs
  have hi := (List.getElem?_eq_some_iff.1 hs).1
  have few := hf.rels
  have fd := hf.data
  have hii : (0 : Int) < (o.rels.length : Int) := by omega
  simp only [Nat.zero_mul, Nat.add_zero] at n0 n1 n2 n3 n4
  obtain ⟨kd, of, cp, nm, pm⟩ := r
  dsimp only at u0 u1 u2 u3 u4 u5 sc sn n0 n1 n2 n3 n4
  have HE := Lib.hid (relE_F hs)
  have CT := Lib.hid (fun W hW hk => ptarget_any o vc _ vs _ kd of cp nm pm hk sc sn W (ObjAt.keep HO.out hW) HF.out)
  unfold objVal relVal at CT
  unfold objVal
  have wd : IntKind.u64.wrap (o.data.length : Int) = (o.data.length : Int) := IntWalk.u64_in _ (by omega)
  have wo : IntKind.u64.wrap of = of := IntWalk.u64_in _ (by omega)
  have wo2 : IntKind.u64.wrap (of + 16) = of + 16 := IntWalk.u64_in _ (by omega)
  have ep : prevR o 0 of = false := rfl
  rw [ep] at HE
  clear ep
  have K0 : Hid (Keep w ((w.alloc (.cells #[.string o.name, vc, .slice pd o.data.length cd, vs, .slice (some ⟨b, off, none⟩) o.rels.length cap] 76)).alloc (.cells #[.int .i64 kd, .int .u32 of, .string cp, .string nm, .int .u16 pm] 137))) := Lib.hid (((Keep.refl _).alloc _).alloc _)
  have B1 : Hid (Box ((w.alloc (.cells #[.string o.name, vc, .slice pd o.data.length cd, vs, .slice (some ⟨b, off, none⟩) o.rels.length cap] 76)).alloc (.cells #[.int .i64 kd, .int .u32 of, .string cp, .string nm, .int .u16 pm] 137)) w.heap.size #[.string o.name, vc, .slice pd o.data.length cd, vs, .slice (some ⟨b, off, none⟩) o.rels.length cap]) := Lib.hid ((Box.new _ _ _).alloc _)
  have B2 : Hid (Box ((w.alloc (.cells #[.string o.name, vc, .slice pd o.data.length cd, vs, .slice (some ⟨b, off, none⟩) o.rels.length cap] 76)).alloc (.cells #[.int .i64 kd, .int .u32 of, .string cp, .string nm, .int .u16 pm] 137)) (w.heap.size + 1) #[.int .i64 kd, .int .u32 of, .string cp, .string nm, .int .u16 pm]) := Lib.hid (Box.new1 _ _ _ _)
  clear h hf ho hs hcd hcap
  by_cases lo : kd < 1
  · go_enter Tryz.func161, Tryz.ntmps161
    go_wp2_with fail
    go_ret
    refine ⟨?_, K0.out⟩
    rw [HE.out, if_pos (.inl lo)] <;> rfl
  have lo' : decide (kd < 1) = false := decide_eq_false lo
  by_cases hi3 : 3 < kd
  · go_enter Tryz.func161, Tryz.ntmps161
    go_wp2_with fail
    go_ret
    refine ⟨?_, K0.out⟩
    rw [HE.out, if_pos (.inr hi3)] <;> rfl
  have hi3' : decide (3 < kd) = false := decide_eq_false hi3
  have KR := Lib.hid (show ¬ (kd < 1 ∨ 3 < kd) by omega)
  have KD := Lib.hid (show kd = 1 ∨ kd = 2 ∨ kd = 3 by omega)
  go_enter Tryz.func161, Tryz.ntmps161
  go_wp2_with fail
  refine region_grows (Keep _) (by kernel_rfl) (by kernel_rfl) (Keep.refl _).drew ?_
  repeat (first
    | (apply text_pass (by rfl); go_simp)
    | (apply text_step (by rfl)
       · intro W hW
         have c1 := (B1.out.keep hW).cells
         have c2 := (B2.out.keep hW).cells

         go_simp
         exact ⟨rfl, hW⟩
       go_simp))
  apply text_end
  intro W hW
  have KW := Lib.hid (K0.out.trans hW)
  have B1W := Lib.hid (B1.out.keep hW)
  have B2W := Lib.hid (B2.out.keep hW)
  have c1 := B1W.out.cells
  have c2 := B2W.out.cells
  clear hW n0 n1 n2 n3 n4
  have VR : Hid (¬ false = true) := Lib.hid (by decide)
  rcases Bool.eq_false_or_eq_true (of % 16 == 0) with a1 | a1
  rotate_left
  · have a2 : (of % 16 != 0) = true := by rw [bne, a1]; rfl
    go_wp2_with fail
    go_ret
    refine ⟨?_, KW.out⟩
    rw [HE.out, if_neg KR.out, if_neg VR.out, if_pos (beq_eq_false_iff_ne.1 a1)] <;> rfl
  have a2 : (of % 16 != 0) = false := by rw [bne, a1]; rfl
  have AR := Lib.hid (show ¬ of % 16 ≠ 0 from fun h => h (beq_iff_eq.1 a1))
  by_cases hl : (o.data.length : Int) < of + 16
  · have l1 : decide ((o.data.length : Int) < of + 16) = true := decide_eq_true hl
    go_wp2_with fail
    go_ret
    refine ⟨?_, KW.out⟩
    rw [HE.out, if_neg KR.out, if_neg VR.out, if_neg AR.out, if_pos hl] <;> rfl
  have l1 : decide ((o.data.length : Int) < of + 16) = false := decide_eq_false hl
  have LR := Lib.hid (show ¬ of + 16 > (o.data.length : Int) from hl)
  have HE2 : Hid (relE o 0 = relK o kd cp nm pm) := Lib.hid (by rw [HE.out, if_neg KR.out, if_neg VR.out, if_neg AR.out, if_neg LR.out])
  go_wp2_with fail
  refine (CT.out _ KW.out KD.out).mono ?_
  rintro e w2 ⟨rfl, hk2⟩
  have K2 := Lib.hid (KW.out.trans hk2)
  clear hk2
  go_wp2_with fail
  go_ret
  exact ⟨by rw [HE2.out] <;> rfl, K2.out⟩
set_option maxHeartbeats 4000000 in
set_option maxRecDepth 100000 in
theorem prel_j (o : ObjV) (vc vd vs vr : Value) (j : Nat) (r p : RelV) (hs : o.rels[j + 1]? = some r) (hp : o.rels[j]? = some p) (w : World) (h : ObjAt w o vc vd vs vr) (hf : ObjMid o) (ho : ObjNum o) :
    Calls Tryz.prog 161 #[objVal o vc vd vs vr, .int .i64 ((j : Int) + 1)] w fun e w' => e = .returned (.int .i64 (relE o (j + 1))) ∧ Keep w w' := by
  have HO := Lib.hid h
  have HF := Lib.hid hf
  obtain ⟨u0, u1, u2, u3⟩ := ho.rels r (List.mem_of_getElem? hs)
  obtain ⟨u4, u5⟩ := ho.kinds r (List.mem_of_getElem? hs)
  have sc := hf.relC r (List.mem_of_getElem? hs)
  have sn := hf.relN r (List.mem_of_getElem? hs)
  obtain ⟨pd, cd, rfl, hcd, _, _⟩ := h.data
  obtain ⟨b, off, cap, rfl, hcap, hlt, n0, n1, n2, n3, n4⟩ := h.rel hs
  obtain ⟨b', off', cap', h1', _, _, p0, p1, p2, p3, p4⟩ := h.rel hp
  simp only [Value.slice.injEq, Option.some.injEq, Addr.mk.injEq, and_true, true_and] at h1'
  obtain ⟨⟨rfl, rfl⟩, rfl⟩ := h1'
  have P1 := Lib.hid p1
  clear p0 p1 p2 p3 p4
  have wi : IntKind.i64.wrap (j : Int) = (j : Int) := by
    have := (List.getElem?_eq_some_iff.1 hs).1
    have := hf.rels
    rw [IntKind.wrap_i64]; omega
  have hi := (List.getElem?_eq_some_iff.1 hs).1
  have few := hf.rels
  have fd := hf.data
  have hii : (j : Int) + 1 < (o.rels.length : Int) := by omega
  have hi1 : (j : Int) < (o.rels.length : Int) := by omega
  obtain ⟨kd, of, cp, nm, pm⟩ := r
  dsimp only at u0 u1 u2 u3 u4 u5 sc sn n0 n1 n2 n3 n4
  have HE := Lib.hid (relE_F hs)
  have CT := Lib.hid (fun W hW hk => ptarget_any o vc _ vs _ kd of cp nm pm hk sc sn W (ObjAt.keep HO.out hW) HF.out)
  unfold objVal relVal at CT
  unfold objVal
  have wd : IntKind.u64.wrap (o.data.length : Int) = (o.data.length : Int) := IntWalk.u64_in _ (by omega)
  have wo : IntKind.u64.wrap of = of := IntWalk.u64_in _ (by omega)
  have wo2 : IntKind.u64.wrap (of + 16) = of + 16 := IntWalk.u64_in _ (by omega)
  have ep : prevR o (j + 1) of = decide (of ≤ p.off) := by unfold prevR; simp only [hp]
  rw [ep] at HE
  clear ep hp
  have K0 : Hid (Keep w ((w.alloc (.cells #[.string o.name, vc, .slice pd o.data.length cd, vs, .slice (some ⟨b, off, none⟩) o.rels.length cap] 76)).alloc (.cells #[.int .i64 kd, .int .u32 of, .string cp, .string nm, .int .u16 pm] 137))) := Lib.hid (((Keep.refl _).alloc _).alloc _)
  have B1 : Hid (Box ((w.alloc (.cells #[.string o.name, vc, .slice pd o.data.length cd, vs, .slice (some ⟨b, off, none⟩) o.rels.length cap] 76)).alloc (.cells #[.int .i64 kd, .int .u32 of, .string cp, .string nm, .int .u16 pm] 137)) w.heap.size #[.string o.name, vc, .slice pd o.data.length cd, vs, .slice (some ⟨b, off, none⟩) o.rels.length cap]) := Lib.hid ((Box.new _ _ _).alloc _)
  have B2 : Hid (Box ((w.alloc (.cells #[.string o.name, vc, .slice pd o.data.length cd, vs, .slice (some ⟨b, off, none⟩) o.rels.length cap] 76)).alloc (.cells #[.int .i64 kd, .int .u32 of, .string cp, .string nm, .int .u16 pm] 137)) (w.heap.size + 1) #[.int .i64 kd, .int .u32 of, .string cp, .string nm, .int .u16 pm]) := Lib.hid (Box.new1 _ _ _ _)
  clear h hf ho hs hcd hcap
  by_cases lo : kd < 1
  · go_enter Tryz.func161, Tryz.ntmps161
    go_wp2_with fail
    go_ret
    refine ⟨?_, K0.out⟩
    rw [HE.out, if_pos (.inl lo)] <;> rfl
  have lo' : decide (kd < 1) = false := decide_eq_false lo
  by_cases hi3 : 3 < kd
  · go_enter Tryz.func161, Tryz.ntmps161
    go_wp2_with fail
    go_ret
    refine ⟨?_, K0.out⟩
    rw [HE.out, if_pos (.inr hi3)] <;> rfl
  have hi3' : decide (3 < kd) = false := decide_eq_false hi3
  have KR := Lib.hid (show ¬ (kd < 1 ∨ 3 < kd) by omega)
  have KD := Lib.hid (show kd = 1 ∨ kd = 2 ∨ kd = 3 by omega)
  go_enter Tryz.func161, Tryz.ntmps161
  go_wp2_with fail
  refine region_grows (Keep _) (by kernel_rfl) (by kernel_rfl) (Keep.refl _).drew ?_
  repeat (first
    | (apply text_pass (by rfl); go_simp)
    | (apply text_step (by rfl)
       · intro W hW
         have c1 := (B1.out.keep hW).cells
         have c2 := (B2.out.keep hW).cells
         have c3 := (K0.out.trans hW).cellOf P1.out
         go_simp
         exact ⟨rfl, hW⟩
       go_simp))
  apply text_end
  intro W hW
  have KW := Lib.hid (K0.out.trans hW)
  have B1W := Lib.hid (B1.out.keep hW)
  have B2W := Lib.hid (B2.out.keep hW)
  have c1 := B1W.out.cells
  have c2 := B2W.out.cells
  clear hW n0 n1 n2 n3 n4
  by_cases hv : of ≤ p.off
  · have v1 : decide (of ≤ p.off) = true := decide_eq_true hv
    go_wp2_with fail
    go_ret
    refine ⟨?_, KW.out⟩
    rw [HE.out, if_neg KR.out, if_pos v1] <;> rfl
  have v1 : decide (of ≤ p.off) = false := decide_eq_false hv
  have VR : Hid (¬ decide (of ≤ p.off) = true) := Lib.hid (by rw [v1]; decide)
  rcases Bool.eq_false_or_eq_true (of % 16 == 0) with a1 | a1
  rotate_left
  · have a2 : (of % 16 != 0) = true := by rw [bne, a1]; rfl
    go_wp2_with fail
    go_ret
    refine ⟨?_, KW.out⟩
    rw [HE.out, if_neg KR.out, if_neg VR.out, if_pos (beq_eq_false_iff_ne.1 a1)] <;> rfl
  have a2 : (of % 16 != 0) = false := by rw [bne, a1]; rfl
  have AR := Lib.hid (show ¬ of % 16 ≠ 0 from fun h => h (beq_iff_eq.1 a1))
  by_cases hl : (o.data.length : Int) < of + 16
  · have l1 : decide ((o.data.length : Int) < of + 16) = true := decide_eq_true hl
    go_wp2_with fail
    go_ret
    refine ⟨?_, KW.out⟩
    rw [HE.out, if_neg KR.out, if_neg VR.out, if_neg AR.out, if_pos hl] <;> rfl
  have l1 : decide ((o.data.length : Int) < of + 16) = false := decide_eq_false hl
  have LR := Lib.hid (show ¬ of + 16 > (o.data.length : Int) from hl)
  have HE2 : Hid (relE o (j + 1) = relK o kd cp nm pm) := Lib.hid (by rw [HE.out, if_neg KR.out, if_neg VR.out, if_neg AR.out, if_neg LR.out])
  go_wp2_with fail
  refine (CT.out _ KW.out KD.out).mono ?_
  rintro e w2 ⟨rfl, hk2⟩
  have K2 := Lib.hid (KW.out.trans hk2)
  clear hk2
  go_wp2_with fail
  go_ret
  exact ⟨by rw [HE2.out] <;> rfl, K2.out⟩
/-- Any relocation. -/
theorem prel_any (o : ObjV) (vc vd vs vr : Value) (i : Nat) (w : World) (h : ObjAt w o vc vd vs vr) (hf : ObjMid o) (ho : ObjNum o) (hi : i < o.rels.length) :
    Calls Tryz.prog 161 #[objVal o vc vd vs vr, .int .i64 (i : Int)] w fun e w' => e = .returned (.int .i64 (relE o i)) ∧ Keep w w' := by
  have hs := List.getElem?_eq_getElem hi
  match i, hi, hs with
  | 0, hi, hs => exact prel_0 o vc vd vs vr _ hs w h hf ho
  | j + 1, hi, hs =>
    have := prel_j o vc vd vs vr j _ _ hs (List.getElem?_eq_getElem (by omega)) w h hf ho
    simpa using this
end Go.Proofs.YtbmjnfnekmeegaaGreatDoor

/- The program's list, whatever it asks of each; the parts that Check asks. -/
namespace Go.Proofs.YtbmjnfnekmeegaaGreatDoor
set_option linter.unusedVariables false
set_option linter.unusedSimpArgs false
open Go.RowKit
theorem OErr.ok {w : World} : OErr w .nilIface okW := .isOk
theorem FauR.oerr {part : ByteArray} {a n : Int} {w : World} {q : Nat} (hn : n ≠ 0) (hB : Box w q #[.string part, .int .i64 a, .iface 139 (.int .i64 n)]) : OErr w (faultP q) (part, a, n) :=
  .inr ⟨q, part, a, n, hn, rfl, rfl, hB⟩
/-- What a check answers. -/
def ChkR (w : World) (x : WrV) (e : Ending) (w' : World) : Prop := ∃ v, e = .returned v ∧ OErr w' v x ∧ Keep w w'
theorem ChkR.nil {w w' : World} (k : Keep w w') : ChkR w okW (.returned .nilIface) w' := ⟨_, rfl, OErr.ok, k⟩
theorem ChkR.bad {w w' : World} {part : ByteArray} {a n : Int} {q : Nat} (hn : n ≠ 0) (hB : Box w' q #[.string part, .int .i64 a, .iface 139 (.int .i64 n)]) (k : Keep w w') : ChkR w (part, a, n) (.returned (faultP q)) w' := ⟨_, rfl, FauR.oerr hn hB, k⟩
/-- Of a list: too long, or the first of it. -/
def lstW (all one : ByteArray) (n : Nat) (f : Nat → Int) : WrV := if 256 < n then (all, n, 15) else match firstE f n 0 with
  | some (i, e) => (one, i, e)
  | none => okW
theorem lstW_long {all one : ByteArray} {n : Nat} {f : Nat → Int} (h : 256 < n) : lstW all one n f = ((all, (n : Int), (15 : Int)) : WrV) := if_pos h
theorem lstW_hit {all one : ByteArray} {n i : Nat} {e : Int} {f : Nat → Int} (h : ¬ 256 < n) (hf : firstE f n 0 = some (i, e)) : lstW all one n f = ((one, (i : Int), e) : WrV) := by unfold lstW; rw [if_neg h, hf]
theorem lstW_none {all one : ByteArray} {n : Nat} {f : Nat → Int} (h : ¬ 256 < n) (hf : firstE f n 0 = none) : lstW all one n f = okW := by unfold lstW; rw [if_neg h, hf]
set_option maxHeartbeats 4000000 in
set_option maxRecDepth 100000 in
theorem plist_any (all one : ByteArray) (n : Nat) (few : n ≤ 1000000) (g : FuncId) (cap : Value) (f : Nat → Int) (w : World) (he : ∀ args w, (callFunc g args).run Tryz.prog w = .ok (.enter g args) w)
    (hc : ∀ (i : Nat) (W : World), i < n → Keep w W → Calls Tryz.prog g #[.int .i64 (i : Int), cap] W fun e w' => e = .returned (.int .i64 (f i)) ∧ Keep W w') :
    Calls Tryz.prog 157 #[.string all, .string one, .int .i64 (n : Int), .func (.func g) #[] #[cap]] w (ChkR w (lstW all one n f)) := by
  have HC := Lib.hid hc
  clear hc
  by_cases hl : 256 < n
  · have hli : decide ((256 : Int) < (n : Int)) = true := decide_eq_true (by omega)
    rw [lstW_long hl]
    go_enter Tryz.func157, Tryz.ntmps157
    go_wp2_with fail
    refine (faultO_not _ _ _ (by decide) _).mono ?_
    rintro e w1 ⟨q, rfl, _, hB, hk⟩
    have HB := Lib.hid hB
    have HK := Lib.hid hk
    clear hB hk
    unfold faultP
    go_wp2_with fail
    go_ret
    exact ChkR.bad (by decide) HB.out HK.out
  have hli : decide ((256 : Int) < (n : Int)) = false := decide_eq_false (by omega)
  have HL := Lib.hid hl
  clear hl
  go_enter Tryz.func157, Tryz.ntmps157
  go_wp2_with fail
  go_loopw [9, 10, 17] (fun _ _ i wr => ∃ k : Nat, k ≤ n ∧ i = .int .i64 (k : Int) ∧ firstE f n 0 = firstE f (n - k) k ∧ Keep w wr) (fun _ _ i _ => n - (intOf i).toNat)
  case atStart => exact ⟨0, Nat.zero_le _, rfl, rfl, Keep.refl _⟩
  case round =>
    obtain ⟨k, hk, rfl, hfi, hK⟩ := hrel
    have HFI := Lib.hid hfi
    have HK := Lib.hid hK
    clear hfi hK
    by_cases hlt : k < n
    · have hki : (k : Int) < (n : Int) := by omega
      have CC := Lib.hid (HC.out k wr hlt HK.out)
      obtain ⟨se, hse⟩ : ∃ se, f k = se := ⟨_, rfl⟩
      rw [hse] at CC
      have HSE := Lib.hid hse
      clear hse
      by_cases z : se = 0
      · subst z
        have HN2 := Lib.hid (HFI.out.trans (first_go hlt HSE.out))
        go_wp2_with fail
        go_at_fn g
        refine CC.out.mono ?_
        rintro e w2 ⟨rfl, hk2⟩
        have HK2 := Lib.hid (HK.out.trans hk2)
        clear hk2
        go_wp2_with fail
        refine (faultO_zero _ _ _).mono ?_
        rintro e w3 ⟨rfl, hk3⟩
        have HK3 := Lib.hid (HK2.out.trans hk3)
        clear hk3
        go_wp2_with fail
        go_roundw
        case rel => exact ⟨k + 1, hlt, by go_num, HN2.out, HK3.out⟩
        case measure => simp [intOf]; omega
      · have Z := Lib.hid z
        have HH := Lib.hid (HFI.out.trans (first_hit hlt (by rw [HSE.out]; exact z)))
        go_wp2_with fail
        go_at_fn g
        refine CC.out.mono ?_
        rintro e w2 ⟨rfl, hk2⟩
        have HK2 := Lib.hid (HK.out.trans hk2)
        clear hk2
        go_wp2_with fail
        refine (faultO_not _ _ _ Z.out _).mono ?_
        rintro e w3 ⟨q, rfl, _, hB, hk3⟩
        have HK3 := Lib.hid (HK2.out.trans hk3)
        have HB := Lib.hid hB
        clear hk3 hB
        unfold faultP
        go_wp2_with fail
        go_ret
        rw [lstW_hit HL.out HH.out, HSE.out]
        exact ChkR.bad Z.out HB.out HK3.out
    · obtain rfl : k = n := by omega
      have HS0 : Hid (firstE f k 0 = none) := Lib.hid (by rw [HFI.out, Nat.sub_self]; rfl)
      go_wp2_with fail
      go_ret
      rw [lstW_none HL.out HS0.out]
      exact ChkR.nil HK.out
end Go.Proofs.YtbmjnfnekmeegaaGreatDoor

/- The parts that the program's Check asks, one by one. -/
namespace Go.Proofs.YtbmjnfnekmeegaaGreatDoor
set_option linter.unusedVariables false
set_option linter.unusedSimpArgs false
open Go.RowKit
theorem psymC_any (o : ObjV) (vc vd vs vr : Value) (b i : Nat) (w : World) (hB : Box w b #[.string o.name, vc, vd, vs, vr]) (h : ObjAt w o vc vd vs vr) (hf : ObjMid o) (ho : ObjNum o) (hi : i < o.syms.length) :
    Calls Tryz.prog 158 #[.int .i64 (i : Int), .pointer (some ⟨b, 0, none⟩)] w fun e w' => e = .returned (.int .i64 (symE o i)) ∧ Keep w w' := by
  have C := Lib.hid (psym_any o vc vd vs vr i w h hf ho hi)
  unfold objVal at C
  have c0 := hB.cells
  clear h hf ho hi hB
  go_enter Tryz.func158, Tryz.ntmps158
  go_wp2_with fail
  refine C.out.mono ?_
  rintro e w1 ⟨rfl, hk⟩
  have HK := Lib.hid hk
  clear hk
  go_wp2_with fail
  go_ret
  exact ⟨rfl, HK.out⟩
theorem prelC_any (o : ObjV) (vc vd vs vr : Value) (b i : Nat) (w : World) (hB : Box w b #[.string o.name, vc, vd, vs, vr]) (h : ObjAt w o vc vd vs vr) (hf : ObjMid o) (ho : ObjNum o) (hi : i < o.rels.length) :
    Calls Tryz.prog 160 #[.int .i64 (i : Int), .pointer (some ⟨b, 0, none⟩)] w fun e w' => e = .returned (.int .i64 (relE o i)) ∧ Keep w w' := by
  have C := Lib.hid (prel_any o vc vd vs vr i w h hf ho hi)
  unfold objVal at C
  have c0 := hB.cells
  clear h hf ho hi hB
  go_enter Tryz.func160, Tryz.ntmps160
  go_wp2_with fail
  refine C.out.mono ?_
  rintro e w1 ⟨rfl, hk⟩
  have HK := Lib.hid hk
  clear hk
  go_wp2_with fail
  go_ret
  exact ⟨rfl, HK.out⟩
def nameW (o : ObjV) : WrV := if goodB o.name = false then (nameT, 0, 12) else okW
def secW (t : ByteArray) (n : Nat) (p : Int) : WrV := if secE n p = 0 then okW else (t, (n : Int), secE n p)
def symsW (o : ObjV) : WrV := lstW symsT symT o.syms.length (symE o)
def relsW (o : ObjV) : WrV := lstW relsT relT o.rels.length (relE o)
def orW (a b : WrV) : WrV := if a.2.2 = 0 then b else a
theorem secW_zero {t : ByteArray} {n : Nat} {p : Int} (h : secE n p = 0) : secW t n p = okW := if_pos h
theorem secW_not {t : ByteArray} {n : Nat} {p : Int} (h : secE n p ≠ 0) : secW t n p = (t, (n : Int), secE n p) := if_neg h
/-- The first of them. -/
theorem objW_parts (o : ObjV) : objW o = orW (nameW o) (orW (secW codeT o.code.length 4) (orW (secW dataT o.data.length 16) (orW (symsW o) (relsW o)))) := by
  have hlst : ∀ (all one : ByteArray) (n : Nat) (f : Nat → Int) (rest : WrV), orW (lstW all one n f) rest = if n > 256 then ((all, (n : Int), (15 : Int)) : WrV) else match firstE f n 0 with
      | some (i, e) => (one, i, e)
      | none => rest := fun all one n f rest => by
    unfold orW lstW
    by_cases h : 256 < n
    · rw [if_pos h, if_pos h]; exact if_neg (show ¬ (15 : Int) = 0 by decide)
    · rw [if_neg h, if_neg h]
      cases hf : firstE f n 0 with
      | none => exact if_pos rfl
      | some x => exact if_neg (first_some _ _ _ _ hf)
  have hsec : ∀ (t : ByteArray) (n : Nat) (p : Int) (q : Nat) (rest : WrV), ((n : Int) % p = 0 ↔ n % q = 0) → orW (secW t n p) rest = if n > 16384 then ((t, (n : Int), (15 : Int)) : WrV) else if n % q ≠ 0 then (t, (n : Int), 5) else rest := fun t n p q rest he => by
    unfold orW
    by_cases h : 16384 < n
    · have e : secE n p = 15 := if_pos h
      rw [secW_not (by rw [e]; decide), e, if_pos h]; exact if_neg (show ¬ (15 : Int) = 0 by decide)
    · rw [if_neg h]
      by_cases h2 : n % q = 0
      · have e : secE n p = 0 := by unfold secE; rw [if_neg h, if_neg (by simpa using he.2 h2)]
        rw [secW_zero e]; exact (if_pos rfl).trans (if_neg (fun x => x h2)).symm
      · have e : secE n p = 5 := by unfold secE; rw [if_neg h, if_pos (fun x => h2 (he.1 x))]
        rw [secW_not (by rw [e]; decide), e, if_pos h2]; exact if_neg (show ¬ (5 : Int) = 0 by decide)
  have hlast : relsW o = if o.rels.length > 256 then ((relsT, (o.rels.length : Int), (15 : Int)) : WrV) else match firstE (relE o) o.rels.length 0 with
      | some (i, e) => (relT, i, e)
      | none => okW := rfl
  have e4 := fun rest => hsec codeT o.code.length 4 4 rest (by omega)
  have e16 := fun rest => hsec dataT o.data.length 16 16 rest (by omega)
  unfold symsW
  rw [e4, e16, hlst, hlast]
  unfold orW nameW objW
  by_cases h : goodB o.name = false
  · rw [if_pos h, if_pos h]; exact (if_neg (show ¬ (12 : Int) = 0 by decide)).symm
  · rw [if_neg h, if_neg h]; rfl
section
variable (o : ObjV) (vc vd vs vr : Value) (w : World)
theorem cname_any (hf : ObjMid o) : Calls Tryz.prog 111 #[objVal o vc vd vs vr] w (ChkR w (nameW o)) := by
  have CG := Lib.hid (fun W => pname_any o.name (by have := hf.name; omega) W)
  have K0 : Hid (Keep w (w.alloc (.cells #[.string o.name, vc, vd, vs, vr] 76))) := Lib.hid ((Keep.refl _).alloc _)
  unfold objVal nameW
  clear hf
  cases g : goodB o.name with
  | true =>
    rw [g] at CG
    rw [if_neg (by decide)]
    go_enter Tryz.func111, Tryz.ntmps111
    go_wp2_with ((with_reducible refine (CG.out _).mono ?_); rintro e w' ⟨rfl, rfl⟩)
    go_ret
    exact ChkR.nil K0.out
  | false =>
    rw [g] at CG
    rw [if_pos rfl]
    go_enter Tryz.func111, Tryz.ntmps111
    go_wp2_with ((with_reducible refine (CG.out _).mono ?_); rintro e w' ⟨rfl, rfl⟩)
    refine (faultO_not _ _ _ (by decide) _).mono ?_
    rintro e w1 ⟨q, rfl, _, hB, hk⟩
    have HB := Lib.hid hB
    have HK := Lib.hid (K0.out.trans hk)
    clear hB hk
    unfold faultP
    go_wp2_with fail
    go_ret
    exact ChkR.bad (by decide) HB.out HK.out
end
end Go.Proofs.YtbmjnfnekmeegaaGreatDoor

/- The program's checkCode, checkData, checkSyms, checkRels. -/
namespace Go.Proofs.YtbmjnfnekmeegaaGreatDoor
set_option linter.unusedVariables false
set_option linter.unusedSimpArgs false
open Go.RowKit
section
variable (o : ObjV) (vc vd vs vr : Value) (w : World)
set_option maxHeartbeats 4000000 in
set_option maxRecDepth 100000 in
theorem ccode_any (h : ObjAt w o vc vd vs vr) (hf : ObjMid o) : Calls Tryz.prog 112 #[objVal o vc vd vs vr] w (ChkR w (secW codeT o.code.length 4)) := by
  obtain ⟨pq, cq, rfl, _, _, _⟩ := h.code
  have few := hf.code
  have CS := Lib.hid (fun W => psecO_any pq o.code.length cq 4 (by omega) (by decide) W)
  unfold objVal
  clear h hf
  obtain ⟨W0, hW0⟩ : ∃ W0, W0 = w.alloc (.cells #[.string o.name, .slice pq o.code.length cq, vd, vs, vr] 76) := ⟨_, rfl⟩
  have K0 : Hid (Keep w W0) := Lib.hid (by rw [hW0]; exact (Keep.refl _).alloc _)
  have B1 : Hid (Box W0 w.heap.size #[.string o.name, .slice pq o.code.length cq, vd, vs, vr]) := Lib.hid (by rw [hW0]; exact Box.new _ _ _)
  obtain ⟨se, hse⟩ : ∃ se, secE o.code.length 4 = se := ⟨_, rfl⟩
  rw [hse] at CS
  have HSE := Lib.hid hse
  clear hse
  go_enter Tryz.func112, Tryz.ntmps112
  go_wp2_with fail
  rw [← hW0]
  clear hW0
  refine Rel.regionO (KeepBut (fun z => W0.heap.size ≤ z)) (butWay _) [6] [0, 1, 2, 3, 4, 5, 6, 7] (by kernel_rfl) (by kernel_rfl) (Keep.refl _) ?_
  repeat (apply Rel.ordK_step (by rfl) (by rfl) (by rfl)
          · intro W' hW'
            have kW := hW'.keep (fun z hz => hz)
            have c1 := (B1.out.keep kW).cells
            go_simp
            first
              | exact ⟨rfl, Keep.refl _⟩
              | (apply yes_enter; go_at_call 156; refine (CS.out _).mono ?_; rintro e w' ⟨rfl, hk⟩; exact ⟨rfl, hk⟩)
          go_simp)
  apply Rel.ordK_loose (by rfl) (by rfl) (by rfl)
  intro Wa hk0
  have hWa := hk0.but (fun z => W0.heap.size ≤ z)
  clear hk0
  go_simp
  apply Rel.gives_enter
  go_at_call 155
  by_cases z : se = 0
  · subst z
    refine (faultO_zero _ _ _).mono ?_
    rintro e w1 ⟨rfl, hk⟩
    refine ⟨_, rfl, hk.but _, ?_⟩
    have HK1 := Lib.hid (((hWa.keep (fun z hz => hz)).trans hk))
    clear hk hWa
    go_simp
    apply Rel.ordK_step (by rfl) (by rfl) (by rfl)
    · intro W' hW'
      go_simp
      exact ⟨rfl, Keep.refl _⟩
    go_simp
    apply Rel.ordK_end
    intro W5 hW5
    have K5 := Lib.hid (K0.out.trans (HK1.out.trans hW5))
    clear hW5
    go_wp2_with fail
    go_ret
    rw [secW_zero HSE.out]
    exact ChkR.nil K5.out
  · have NZ := Lib.hid z
    have SE : Hid (secW codeT o.code.length 4 = (codeT, (o.code.length : Int), se)) := Lib.hid (by rw [secW_not (by rw [HSE.out]; exact z), HSE.out])
    clear z
    refine (faultO_not _ _ _ NZ.out _).mono ?_
    rintro e w1 ⟨q, rfl, _, hB, hk⟩
    refine ⟨_, rfl, hk.but _, ?_⟩
    have HK1 := Lib.hid (((hWa.keep (fun z hz => hz)).trans hk))
    have HB := Lib.hid hB
    clear hk hWa hB
    unfold faultP
    go_simp
    apply Rel.ordK_step (by rfl) (by rfl) (by rfl)
    · intro W' hW'
      go_simp
      exact ⟨rfl, Keep.refl _⟩
    go_simp
    apply Rel.ordK_end
    intro W5 hW5
    have K5 := Lib.hid (K0.out.trans (HK1.out.trans hW5))
    have B5 := Lib.hid (HB.out.keep hW5)
    clear hW5
    go_wp2_with fail
    go_ret
    rw [SE.out]
    exact ChkR.bad NZ.out B5.out K5.out
set_option maxHeartbeats 4000000 in
set_option maxRecDepth 100000 in
theorem cdata_any (h : ObjAt w o vc vd vs vr) (hf : ObjMid o) : Calls Tryz.prog 113 #[objVal o vc vd vs vr] w (ChkR w (secW dataT o.data.length 16)) := by
  obtain ⟨pq, cq, rfl, _, _, _⟩ := h.data
  have few := hf.data
  have CS := Lib.hid (fun W => psecO_any pq o.data.length cq 16 (by omega) (by decide) W)
  unfold objVal
  clear h hf
  obtain ⟨W0, hW0⟩ : ∃ W0, W0 = w.alloc (.cells #[.string o.name, vc, .slice pq o.data.length cq, vs, vr] 76) := ⟨_, rfl⟩
  have K0 : Hid (Keep w W0) := Lib.hid (by rw [hW0]; exact (Keep.refl _).alloc _)
  have B1 : Hid (Box W0 w.heap.size #[.string o.name, vc, .slice pq o.data.length cq, vs, vr]) := Lib.hid (by rw [hW0]; exact Box.new _ _ _)
  obtain ⟨se, hse⟩ : ∃ se, secE o.data.length 16 = se := ⟨_, rfl⟩
  rw [hse] at CS
  have HSE := Lib.hid hse
  clear hse
  go_enter Tryz.func113, Tryz.ntmps113
  go_wp2_with fail
  rw [← hW0]
  clear hW0
  refine Rel.regionO (KeepBut (fun z => W0.heap.size ≤ z)) (butWay _) [6] [0, 1, 2, 3, 4, 5, 6, 7] (by kernel_rfl) (by kernel_rfl) (Keep.refl _) ?_
  repeat (apply Rel.ordK_step (by rfl) (by rfl) (by rfl)
          · intro W' hW'
            have kW := hW'.keep (fun z hz => hz)
            have c1 := (B1.out.keep kW).cells
            go_simp
            first
              | exact ⟨rfl, Keep.refl _⟩
              | (apply yes_enter; go_at_call 156; refine (CS.out _).mono ?_; rintro e w' ⟨rfl, hk⟩; exact ⟨rfl, hk⟩)
          go_simp)
  apply Rel.ordK_loose (by rfl) (by rfl) (by rfl)
  intro Wa hk0
  have hWa := hk0.but (fun z => W0.heap.size ≤ z)
  clear hk0
  go_simp
  apply Rel.gives_enter
  go_at_call 155
  by_cases z : se = 0
  · subst z
    refine (faultO_zero _ _ _).mono ?_
    rintro e w1 ⟨rfl, hk⟩
    refine ⟨_, rfl, hk.but _, ?_⟩
    have HK1 := Lib.hid (((hWa.keep (fun z hz => hz)).trans hk))
    clear hk hWa
    go_simp
    apply Rel.ordK_step (by rfl) (by rfl) (by rfl)
    · intro W' hW'
      go_simp
      exact ⟨rfl, Keep.refl _⟩
    go_simp
    apply Rel.ordK_end
    intro W5 hW5
    have K5 := Lib.hid (K0.out.trans (HK1.out.trans hW5))
    clear hW5
    go_wp2_with fail
    go_ret
    rw [secW_zero HSE.out]
    exact ChkR.nil K5.out
  · have NZ := Lib.hid z
    have SE : Hid (secW dataT o.data.length 16 = (dataT, (o.data.length : Int), se)) := Lib.hid (by rw [secW_not (by rw [HSE.out]; exact z), HSE.out])
    clear z
    refine (faultO_not _ _ _ NZ.out _).mono ?_
    rintro e w1 ⟨q, rfl, _, hB, hk⟩
    refine ⟨_, rfl, hk.but _, ?_⟩
    have HK1 := Lib.hid (((hWa.keep (fun z hz => hz)).trans hk))
    have HB := Lib.hid hB
    clear hk hWa hB
    unfold faultP
    go_simp
    apply Rel.ordK_step (by rfl) (by rfl) (by rfl)
    · intro W' hW'
      go_simp
      exact ⟨rfl, Keep.refl _⟩
    go_simp
    apply Rel.ordK_end
    intro W5 hW5
    have K5 := Lib.hid (K0.out.trans (HK1.out.trans hW5))
    have B5 := Lib.hid (HB.out.keep hW5)
    clear hW5
    go_wp2_with fail
    go_ret
    rw [SE.out]
    exact ChkR.bad NZ.out B5.out K5.out
set_option maxHeartbeats 4000000 in
set_option maxRecDepth 100000 in
theorem csyms_any (h : ObjAt w o vc vd vs vr) (hf : ObjMid o) (ho : ObjNum o) : Calls Tryz.prog 114 #[objVal o vc vd vs vr] w (ChkR w (symsW o)) := by
  have HO := Lib.hid h
  obtain ⟨pq, cq, rfl, _, _, _⟩ := h.syms
  have few := hf.syms
  unfold objVal
  have K0 : Hid (Keep w (w.alloc (.cells #[.string o.name, vc, vd, .slice pq o.syms.length cq, vr] 76))) := Lib.hid ((Keep.refl _).alloc _)
  have B1 : Hid (Box (w.alloc (.cells #[.string o.name, vc, vd, .slice pq o.syms.length cq, vr] 76)) w.heap.size #[.string o.name, vc, vd, .slice pq o.syms.length cq, vr]) := Lib.hid (Box.new _ _ _)
  have CL := Lib.hid (fun all one => plist_any all one o.syms.length (by omega) 158 (.pointer (some ⟨w.heap.size, 0, none⟩)) (symE o) _ (enters_of Tryz.func158 (by kernel_rfl) rfl) (fun i W hi hk => psymC_any o _ _ _ _ w.heap.size i W (B1.out.keep hk) (HO.out.keep (K0.out.trans hk)) hf ho hi))
  clear h hf ho
  go_enter Tryz.func114, Tryz.ntmps114
  go_wp2_with fail
  refine (CL.out _ _).mono ?_
  rintro e w1 ⟨v, rfl, hv, hk⟩
  have HV := Lib.hid hv
  have HK := Lib.hid (K0.out.trans hk)
  clear hv hk CL
  go_wp2_with fail
  go_ret
  exact ⟨v, rfl, HV.out, HK.out⟩
set_option maxHeartbeats 4000000 in
set_option maxRecDepth 100000 in
theorem crels_any (h : ObjAt w o vc vd vs vr) (hf : ObjMid o) (ho : ObjNum o) : Calls Tryz.prog 115 #[objVal o vc vd vs vr] w (ChkR w (relsW o)) := by
  have HO := Lib.hid h
  obtain ⟨pq, cq, rfl, _, _, _⟩ := h.rels
  have few := hf.rels
  unfold objVal
  have K0 : Hid (Keep w (w.alloc (.cells #[.string o.name, vc, vd, vs, .slice pq o.rels.length cq] 76))) := Lib.hid ((Keep.refl _).alloc _)
  have B1 : Hid (Box (w.alloc (.cells #[.string o.name, vc, vd, vs, .slice pq o.rels.length cq] 76)) w.heap.size #[.string o.name, vc, vd, vs, .slice pq o.rels.length cq]) := Lib.hid (Box.new _ _ _)
  have CL := Lib.hid (fun all one => plist_any all one o.rels.length (by omega) 160 (.pointer (some ⟨w.heap.size, 0, none⟩)) (relE o) _ (enters_of Tryz.func160 (by kernel_rfl) rfl) (fun i W hi hk => prelC_any o _ _ _ _ w.heap.size i W (B1.out.keep hk) (HO.out.keep (K0.out.trans hk)) hf ho hi))
  clear h hf ho
  go_enter Tryz.func115, Tryz.ntmps115
  go_wp2_with fail
  refine (CL.out _ _).mono ?_
  rintro e w1 ⟨v, rfl, hv, hk⟩
  have HV := Lib.hid hv
  have HK := Lib.hid (K0.out.trans hk)
  clear hv hk CL
  go_wp2_with fail
  go_ret
  exact ⟨v, rfl, HV.out, HK.out⟩
end
end Go.Proofs.YtbmjnfnekmeegaaGreatDoor

/- The program's Check: the first that is wrong of an object. -/
namespace Go.Proofs.YtbmjnfnekmeegaaGreatDoor
set_option linter.unusedVariables false
set_option linter.unusedSimpArgs false
open Go.RowKit
theorem orW_zero {a b : WrV} (h : a.2.2 = 0) : orW a b = b := if_pos h
theorem orW_not {a b : WrV} (h : a.2.2 ≠ 0) : orW a b = a := if_neg h
theorem relsW_ok {o : ObjV} (h : (relsW o).2.2 = 0) : relsW o = okW := by
  unfold relsW lstW at h ⊢
  by_cases h1 : 256 < o.rels.length
  · rw [if_pos h1] at h; cases h
  · rw [if_neg h1] at h ⊢
    cases hf : firstE (relE o) o.rels.length 0 with
    | none => rfl
    | some x => rw [hf] at h; exact absurd h (first_some _ _ _ _ hf)
set_option maxHeartbeats 4000000 in
set_option maxRecDepth 100000 in
theorem pcheckO_any (o : ObjV) (vc vd vs vr : Value) (w : World) (h : ObjAt w o vc vd vs vr) (hf : ObjMid o) (ho : ObjNum o) (hE : ErrT w) :
    Calls Tryz.prog 59 #[objVal o vc vd vs vr] w (ChkR w (objW o)) := by
  have HO := Lib.hid h
  have HE := Lib.hid hE
  have C0 := Lib.hid (fun W (k : Keep w W) => cname_any o vc vd vs vr W hf)
  have C1 := Lib.hid (fun W (k : Keep w W) => ccode_any o vc vd vs vr W (HO.out.keep k) hf)
  have C2 := Lib.hid (fun W (k : Keep w W) => cdata_any o vc vd vs vr W (HO.out.keep k) hf)
  have C3 := Lib.hid (fun W (k : Keep w W) => csyms_any o vc vd vs vr W (HO.out.keep k) hf ho)
  have C4 := Lib.hid (fun W (k : Keep w W) => crels_any o vc vd vs vr W (HO.out.keep k) hf ho)
  have OW := Lib.hid (objW_parts o)
  unfold objVal at C0 C1 C2 C3 C4 ⊢
  have LE : 0 < w.heap.size := hE.lt
  obtain ⟨W1, hW1⟩ : ∃ W1, W1 = (((w.alloc (.cells #[.string o.name, vc, vd, vs, vr] 76)).alloc (.cells #[.pointer none] 98)).alloc (.cells #[.func (.func 111) #[] #[], .func (.func 112) #[] #[], .func (.func 113) #[] #[], .func (.func 114) #[] #[], .func (.func 115) #[] #[]] 142)) := ⟨_, rfl⟩
  have K0 : Hid (Keep w W1) := Lib.hid (by rw [hW1]; exact (((Keep.refl _).alloc _).alloc _).alloc _)
  have BO : Hid (Box W1 w.heap.size #[.string o.name, vc, vd, vs, vr]) := Lib.hid (by rw [hW1]; exact ((Box.new _ _ _).alloc _).alloc _)
  have BF : Hid (Box W1 (w.heap.size + 1) #[.pointer none]) := Lib.hid (by rw [hW1]; exact (Box.new1 _ _ _ _).alloc _)
  have BL : Hid (Box W1 (w.heap.size + 2) #[.func (.func 111) #[] #[], .func (.func 112) #[] #[], .func (.func 113) #[] #[], .func (.func 114) #[] #[], .func (.func 115) #[] #[]]) := Lib.hid (by rw [hW1]; exact Box.new2 _ _ _ _ _)
  have KK : Hid (Keep W1 W1) := Lib.hid (Keep.refl _)
  clear h hf ho hE HO
  go_enter Tryz.func59, Tryz.ntmps59
  go_wp2_with fail
  rw [← hW1]
  clear hW1
  have co0 := BO.out.cells
  have cl0 := BL.out.cells
  refine wp_loop_rounds 6 ?_
  rw [rounds_succ]
  go_wp2_with fail
  refine (C0.out _ (K0.out.trans KK.out)).mono ?_
  rintro e w1 ⟨v, rfl, hv, hk⟩
  clear co0 cl0
  by_cases z : (nameW o).2.2 = 0
  rotate_left
  · obtain ⟨q, rfl, hB⟩ := OErr.box hv z
    have EQ : Hid (objW o = (nameW o)) := Lib.hid (by
      rw [OW.out]
      exact orW_not z)
    have HV := Lib.hid (hv)
    have HB := Lib.hid hB
    have K2 := Lib.hid (KK.out.trans hk)
    have E2 := Lib.hid (HE.out.keep (K0.out.trans K2.out))
    have F2 := Lib.hid (BF.out.keep K2.out)
    clear hv hB hk z
    unfold faultP
    go_wp2_with fail
    go_at_call 29
    refine (as_once (w.heap.size + 1) q (.pointer none) _ E2.out F2.out (by omega)).mono ?_
    rintro e w9 ⟨rfl, hs, hF⟩
    have cF := hF.cells
    have K9 : Hid (Keep w w9) := Lib.hid ((K0.out.trans K2.out).butNew hs.1 (fun x hx => by subst hx; omega))
    have NQ : q ≠ w.heap.size + 1 := by
      rintro rfl
      have e1 := HB.out.cells 0
      rw [F2.out.cells 0] at e1
      simp at e1
    have HQ := Lib.hid (HB.out.but hs.1 NQ)
    clear hs hF
    go_wp2_with fail
    go_ret
    refine ⟨_, rfl, ?_, K9.out⟩
    rw [EQ.out]
    rcases HV.out with ⟨h1, _⟩ | ⟨q', p', a', n', h1, h2, h3, h4⟩
    · exact absurd h1 (by
        intro h5
        have := HV.out
        unfold wrVal okV wrongV at h5
        simp at h5
        exact absurd (OErr.good HV.out h5.2.2) (by unfold faultP; simp))
    · refine .inr ⟨q, p', a', n', h1, h2, rfl, ?_⟩
      unfold wrVal wrongV at h2
      simp at h2
      obtain ⟨e1, e2, e3⟩ := h2
      have := HQ.out
      rw [e1, e2, e3] at this
      exact this
  obtain rfl : v = .nilIface := OErr.good hv z
  have Z0 := Lib.hid z
  have KK0 := Lib.hid (KK.out.trans hk)
  clear hv hk z KK
  have KK := Lib.hid KK0.out
  have co0 := (BO.out.keep KK.out).cells
  have cl0 := (BL.out.keep KK.out).cells
  clear KK0
  go_wp2_with (go_at_call 29; refine (as_nil _ _).mono ?_; rintro e w' ⟨rfl, rfl⟩)
  rw [rounds_succ]
  go_wp2_with fail
  refine (C1.out _ (K0.out.trans KK.out)).mono ?_
  rintro e w2 ⟨v, rfl, hv, hk⟩
  clear co0 cl0
  by_cases z : (secW codeT o.code.length 4).2.2 = 0
  rotate_left
  · obtain ⟨q, rfl, hB⟩ := OErr.box hv z
    have EQ : Hid (objW o = (secW codeT o.code.length 4)) := Lib.hid (by
      rw [OW.out]
      rw [orW_zero Z0.out]
      exact orW_not z)
    have HV := Lib.hid (hv)
    have HB := Lib.hid hB
    have K2 := Lib.hid (KK.out.trans hk)
    have E2 := Lib.hid (HE.out.keep (K0.out.trans K2.out))
    have F2 := Lib.hid (BF.out.keep K2.out)
    clear hv hB hk z
    unfold faultP
    go_wp2_with fail
    go_at_call 29
    refine (as_once (w.heap.size + 1) q (.pointer none) _ E2.out F2.out (by omega)).mono ?_
    rintro e w9 ⟨rfl, hs, hF⟩
    have cF := hF.cells
    have K9 : Hid (Keep w w9) := Lib.hid ((K0.out.trans K2.out).butNew hs.1 (fun x hx => by subst hx; omega))
    have NQ : q ≠ w.heap.size + 1 := by
      rintro rfl
      have e1 := HB.out.cells 0
      rw [F2.out.cells 0] at e1
      simp at e1
    have HQ := Lib.hid (HB.out.but hs.1 NQ)
    clear hs hF
    go_wp2_with fail
    go_ret
    refine ⟨_, rfl, ?_, K9.out⟩
    rw [EQ.out]
    rcases HV.out with ⟨h1, _⟩ | ⟨q', p', a', n', h1, h2, h3, h4⟩
    · exact absurd h1 (by
        intro h5
        have := HV.out
        unfold wrVal okV wrongV at h5
        simp at h5
        exact absurd (OErr.good HV.out h5.2.2) (by unfold faultP; simp))
    · refine .inr ⟨q, p', a', n', h1, h2, rfl, ?_⟩
      unfold wrVal wrongV at h2
      simp at h2
      obtain ⟨e1, e2, e3⟩ := h2
      have := HQ.out
      rw [e1, e2, e3] at this
      exact this
  obtain rfl : v = .nilIface := OErr.good hv z
  have Z1 := Lib.hid z
  have KK1 := Lib.hid (KK.out.trans hk)
  clear hv hk z KK
  have KK := Lib.hid KK1.out
  have co0 := (BO.out.keep KK.out).cells
  have cl0 := (BL.out.keep KK.out).cells
  clear KK1
  go_wp2_with (go_at_call 29; refine (as_nil _ _).mono ?_; rintro e w' ⟨rfl, rfl⟩)
  rw [rounds_succ]
  go_wp2_with fail
  refine (C2.out _ (K0.out.trans KK.out)).mono ?_
  rintro e w3 ⟨v, rfl, hv, hk⟩
  clear co0 cl0
  by_cases z : (secW dataT o.data.length 16).2.2 = 0
  rotate_left
  · obtain ⟨q, rfl, hB⟩ := OErr.box hv z
    have EQ : Hid (objW o = (secW dataT o.data.length 16)) := Lib.hid (by
      rw [OW.out]
      rw [orW_zero Z0.out]
      rw [orW_zero Z1.out]
      exact orW_not z)
    have HV := Lib.hid (hv)
    have HB := Lib.hid hB
    have K2 := Lib.hid (KK.out.trans hk)
    have E2 := Lib.hid (HE.out.keep (K0.out.trans K2.out))
    have F2 := Lib.hid (BF.out.keep K2.out)
    clear hv hB hk z
    unfold faultP
    go_wp2_with fail
    go_at_call 29
    refine (as_once (w.heap.size + 1) q (.pointer none) _ E2.out F2.out (by omega)).mono ?_
    rintro e w9 ⟨rfl, hs, hF⟩
    have cF := hF.cells
    have K9 : Hid (Keep w w9) := Lib.hid ((K0.out.trans K2.out).butNew hs.1 (fun x hx => by subst hx; omega))
    have NQ : q ≠ w.heap.size + 1 := by
      rintro rfl
      have e1 := HB.out.cells 0
      rw [F2.out.cells 0] at e1
      simp at e1
    have HQ := Lib.hid (HB.out.but hs.1 NQ)
    clear hs hF
    go_wp2_with fail
    go_ret
    refine ⟨_, rfl, ?_, K9.out⟩
    rw [EQ.out]
    rcases HV.out with ⟨h1, _⟩ | ⟨q', p', a', n', h1, h2, h3, h4⟩
    · exact absurd h1 (by
        intro h5
        have := HV.out
        unfold wrVal okV wrongV at h5
        simp at h5
        exact absurd (OErr.good HV.out h5.2.2) (by unfold faultP; simp))
    · refine .inr ⟨q, p', a', n', h1, h2, rfl, ?_⟩
      unfold wrVal wrongV at h2
      simp at h2
      obtain ⟨e1, e2, e3⟩ := h2
      have := HQ.out
      rw [e1, e2, e3] at this
      exact this
  obtain rfl : v = .nilIface := OErr.good hv z
  have Z2 := Lib.hid z
  have KK2 := Lib.hid (KK.out.trans hk)
  clear hv hk z KK
  have KK := Lib.hid KK2.out
  have co0 := (BO.out.keep KK.out).cells
  have cl0 := (BL.out.keep KK.out).cells
  clear KK2
  go_wp2_with (go_at_call 29; refine (as_nil _ _).mono ?_; rintro e w' ⟨rfl, rfl⟩)
  rw [rounds_succ]
  go_wp2_with fail
  refine (C3.out _ (K0.out.trans KK.out)).mono ?_
  rintro e w4 ⟨v, rfl, hv, hk⟩
  clear co0 cl0
  by_cases z : (symsW o).2.2 = 0
  rotate_left
  · obtain ⟨q, rfl, hB⟩ := OErr.box hv z
    have EQ : Hid (objW o = (symsW o)) := Lib.hid (by
      rw [OW.out]
      rw [orW_zero Z0.out]
      rw [orW_zero Z1.out]
      rw [orW_zero Z2.out]
      exact orW_not z)
    have HV := Lib.hid (hv)
    have HB := Lib.hid hB
    have K2 := Lib.hid (KK.out.trans hk)
    have E2 := Lib.hid (HE.out.keep (K0.out.trans K2.out))
    have F2 := Lib.hid (BF.out.keep K2.out)
    clear hv hB hk z
    unfold faultP
    go_wp2_with fail
    go_at_call 29
    refine (as_once (w.heap.size + 1) q (.pointer none) _ E2.out F2.out (by omega)).mono ?_
    rintro e w9 ⟨rfl, hs, hF⟩
    have cF := hF.cells
    have K9 : Hid (Keep w w9) := Lib.hid ((K0.out.trans K2.out).butNew hs.1 (fun x hx => by subst hx; omega))
    have NQ : q ≠ w.heap.size + 1 := by
      rintro rfl
      have e1 := HB.out.cells 0
      rw [F2.out.cells 0] at e1
      simp at e1
    have HQ := Lib.hid (HB.out.but hs.1 NQ)
    clear hs hF
    go_wp2_with fail
    go_ret
    refine ⟨_, rfl, ?_, K9.out⟩
    rw [EQ.out]
    rcases HV.out with ⟨h1, _⟩ | ⟨q', p', a', n', h1, h2, h3, h4⟩
    · exact absurd h1 (by
        intro h5
        have := HV.out
        unfold wrVal okV wrongV at h5
        simp at h5
        exact absurd (OErr.good HV.out h5.2.2) (by unfold faultP; simp))
    · refine .inr ⟨q, p', a', n', h1, h2, rfl, ?_⟩
      unfold wrVal wrongV at h2
      simp at h2
      obtain ⟨e1, e2, e3⟩ := h2
      have := HQ.out
      rw [e1, e2, e3] at this
      exact this
  obtain rfl : v = .nilIface := OErr.good hv z
  have Z3 := Lib.hid z
  have KK3 := Lib.hid (KK.out.trans hk)
  clear hv hk z KK
  have KK := Lib.hid KK3.out
  have co0 := (BO.out.keep KK.out).cells
  have cl0 := (BL.out.keep KK.out).cells
  clear KK3
  go_wp2_with (go_at_call 29; refine (as_nil _ _).mono ?_; rintro e w' ⟨rfl, rfl⟩)
  rw [rounds_succ]
  go_wp2_with fail
  refine (C4.out _ (K0.out.trans KK.out)).mono ?_
  rintro e w5 ⟨v, rfl, hv, hk⟩
  clear co0 cl0
  by_cases z : (relsW o).2.2 = 0
  rotate_left
  · obtain ⟨q, rfl, hB⟩ := OErr.box hv z
    have EQ : Hid (objW o = (relsW o)) := Lib.hid (by
      rw [OW.out]
      rw [orW_zero Z0.out]
      rw [orW_zero Z1.out]
      rw [orW_zero Z2.out]
      rw [orW_zero Z3.out]
      )
    have HV := Lib.hid (hv)
    have HB := Lib.hid hB
    have K2 := Lib.hid (KK.out.trans hk)
    have E2 := Lib.hid (HE.out.keep (K0.out.trans K2.out))
    have F2 := Lib.hid (BF.out.keep K2.out)
    clear hv hB hk z
    unfold faultP
    go_wp2_with fail
    go_at_call 29
    refine (as_once (w.heap.size + 1) q (.pointer none) _ E2.out F2.out (by omega)).mono ?_
    rintro e w9 ⟨rfl, hs, hF⟩
    have cF := hF.cells
    have K9 : Hid (Keep w w9) := Lib.hid ((K0.out.trans K2.out).butNew hs.1 (fun x hx => by subst hx; omega))
    have NQ : q ≠ w.heap.size + 1 := by
      rintro rfl
      have e1 := HB.out.cells 0
      rw [F2.out.cells 0] at e1
      simp at e1
    have HQ := Lib.hid (HB.out.but hs.1 NQ)
    clear hs hF
    go_wp2_with fail
    go_ret
    refine ⟨_, rfl, ?_, K9.out⟩
    rw [EQ.out]
    rcases HV.out with ⟨h1, _⟩ | ⟨q', p', a', n', h1, h2, h3, h4⟩
    · exact absurd h1 (by
        intro h5
        have := HV.out
        unfold wrVal okV wrongV at h5
        simp at h5
        exact absurd (OErr.good HV.out h5.2.2) (by unfold faultP; simp))
    · refine .inr ⟨q, p', a', n', h1, h2, rfl, ?_⟩
      unfold wrVal wrongV at h2
      simp at h2
      obtain ⟨e1, e2, e3⟩ := h2
      have := HQ.out
      rw [e1, e2, e3] at this
      exact this
  obtain rfl : v = .nilIface := OErr.good hv z
  have Z4 := Lib.hid z
  have KK4 := Lib.hid (KK.out.trans hk)
  clear hv hk z KK
  have KK := Lib.hid KK4.out
  have co0 := (BO.out.keep KK.out).cells
  have cl0 := (BL.out.keep KK.out).cells
  clear KK4
  go_wp2_with (go_at_call 29; refine (as_nil _ _).mono ?_; rintro e w' ⟨rfl, rfl⟩)
  rw [rounds_succ]
  go_wp2_with fail
  go_ret
  refine ⟨_, rfl, ?_, K0.out.trans KK.out⟩
  rw [OW.out, orW_zero Z0.out, orW_zero Z1.out, orW_zero Z2.out, orW_zero Z3.out, relsW_ok Z4.out]
  exact OErr.ok
theorem oCheck : PObjCheck ErrT := fun o vc vd vs vr w h ho hf hp => (pcheckO_any o vc vd vs vr w h hf.mid ho hp).mono fun _ _ ⟨v, h1, h2, h3⟩ => ⟨h3, v, h1, h2⟩
end Go.Proofs.YtbmjnfnekmeegaaGreatDoor
