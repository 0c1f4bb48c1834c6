/- The linker's initial: what becomes of what a comp asks for. -/
import Derived.Test.YtbmjnfnekmeegaaGreatDoorGLkB
import Derived.Test.YtbmjnfnekmeegaaGreatDoorGLkA
namespace Go.Proofs.YtbmjnfnekmeegaaGreatDoor
set_option linter.unusedVariables false
set_option linter.unusedSimpArgs false
open Go Go.RowKit
set_option maxHeartbeats 8000000 in
set_option maxRecDepth 100000 in
theorem lkinit1_any (b : Nat) (m : ManV) (vc vi vs vg : Value) (l : List ObjV) (vl : Value) (qs : List V4) (z ps ss is st ad bs : Value) (c : Nat) (P : List PartV) (ves : List Value) (p : PartV) (hp : P[c]? = some p) (hn : ves.length = P.length) (cc : CompV) (k : Nat) (o : ObjV) (q : V4) (H : LkHas m l qs c cc k o q) (ro rp : Int) (rc rn : ByteArray) (hf : ObjsFew l) (w : World) (h : LkAt w b m vc vi vs vg l vl qs z ps ss is st ad bs) (hP : SlAt w ps P.length (partRows P ves))
    (hb : N32 (p.data.at_ + ro)) (hb2 : N32 ((if (symOf o rn).data = true then p.data.at_ else p.code.at_) + (symOf o rn).off)) :
    Calls Tryz.prog 79 #[.pointer (some ⟨b, 0, none⟩), .int .i64 (c : Int), .agg #[.int .i64 1, .int .u32 ro, .string rc, .string rn, .int .u16 rp]] w fun e w' => e = .returned (.agg #[.int .i64 (c : Int), .int .u32 (p.data.at_ + ro), .int .i64 1, .bool (symOf o rn).data, .int .i64 0, .int .u32 ((if (symOf o rn).data = true then p.data.at_ else p.code.at_) + (symOf o rn).off), .int .u16 rp]) ∧ Keep w w' := by
  have CS := Lib.hid (fun W (hW : Keep w W) => lksymbol_any b m vc vi vs vg l vl qs z ps ss is st ad bs c cc k o q H rn hf P ves p hp hn W (h.keep hW) (hP.keep hW) hb2)
  obtain ⟨A, hA⟩ : ∃ A, A = (if (symOf o rn).data = true then p.data.at_ else p.code.at_) + (symOf o rn).off := ⟨_, rfl⟩
  obtain ⟨D, hD⟩ : ∃ D, D = (symOf o rn).data := ⟨_, rfl⟩
  rw [← hA] at CS ⊢
  rw [← hD] at CS ⊢
  obtain ⟨W0, hW0⟩ : ∃ W0, W0 = (w.alloc (.cells #[.int .i64 1, .int .u32 ro, .string rc, .string rn, .int .u16 rp] 137)).alloc (.cells #[.int .i64 0, .int .u32 0, .int .i64 0, .bool false, .int .i64 0, .int .u32 0, .int .u16 0] 130) := ⟨_, rfl⟩
  have K0 : Hid (Keep w W0) := Lib.hid (by rw [hW0]; exact ((Keep.refl _).alloc _).alloc _)
  have BR : Hid (Box W0 w.heap.size #[.int .i64 1, .int .u32 ro, .string rc, .string rn, .int .u16 rp]) := Lib.hid (by rw [hW0]; exact (Box.new _ _ _).alloc _)
  have BZ : Hid (Box W0 (w.heap.size + 1) #[.int .i64 0, .int .u32 0, .int .i64 0, .bool false, .int .i64 0, .int .u32 0, .int .u16 0]) := Lib.hid (by rw [hW0]; exact Box.new1 _ _ _ _)
  have HSZ : Hid (W0.heap.size = w.heap.size + 2) := Lib.hid (by rw [hW0]; simp)
  have hbl : b < w.heap.size := h.box.lt
  have HB := Lib.hid (h.box.keep K0.out)
  obtain ⟨b1, off1, cap1, ve, hps, hv, hb1, a0, a1, a2, a3, _⟩ := partsIn hn hP hp
  subst hps
  have HPA := Lib.hid (K0.out.cellOf a3)
  have hcl : c < P.length := (List.getElem?_eq_some_iff.1 hp).1
  obtain ⟨np, hnp⟩ : ∃ np, np = P.length := ⟨_, rfl⟩
  rw [← hnp] at hcl HB
  obtain ⟨da, hda⟩ : ∃ a, a = p.data.at_ := ⟨_, rfl⟩
  rw [← hda] at HPA hb ⊢
  have wr : IntKind.u32.wrap (da + ro) = da + ro := by
    obtain ⟨h0, h1⟩ := hb
    rw [IntKind.wrap_u32]; omega
  clear hp hn H hf h hP hb hb2 hA hD hv hb1 a0 a1 a2 a3 hnp hda
  go_enter Tryz.func79, Tryz.ntmps79
  go_wp2_with fail
  rw [← hW0]
  clear hW0
  refine Rel.regionO (KeepBut (fun z => W0.heap.size ≤ z)) (butWay _) [17, 18] [0, 1, 2, 3, 4, 5, 6, 7, 8, 9, 10, 11, 12, 13, 14, 15, 16, 17, 18] (by kernel_rfl) (by kernel_rfl) (Keep.refl _) ?_
  repeat (first
    | (apply Rel.ordK_step (by rfl) (by rfl) (by rfl)
       · intro W' hW'
         have kw := hW'.keep fun z hz => hz
         have cb := (HB.out.keep kw).cells
         have cr := (BR.out.keep kw).cells
         have pa := kw.cellOf HPA.out
         go_simp
         exact ⟨rfl, Keep.refl _⟩
       go_simp))
  apply Rel.ordK_loose (by rfl) (by rfl) (by rfl)
  intro W1 hW1
  go_simp
  apply Rel.gives_value
  refine ⟨((Keep.refl _).alloc _).but _, ?_⟩
  have BT : Box (W1.alloc (.cells #[.int .i64 0, .int .u32 0, .int .i64 0, .bool false, .int .i64 0, .int .u32 0, .int .u16 0] 130)) W1.heap.size #[.int .i64 0, .int .u32 0, .int .i64 0, .bool false, .int .i64 0, .int .u32 0, .int .u16 0] := Box.new _ _ _
  have KA := hW1.alloc (.cells #[.int .i64 0, .int .u32 0, .int .i64 0, .bool false, .int .i64 0, .int .u32 0, .int .u16 0] 130)
  have hs : W0.heap.size ≤ W1.heap.size := hW1.size
  go_simp
  apply Rel.ordK_loose (by rfl) (by rfl) (by rfl)
  intro W3 hW3
  have K3 := KA.trans hW3
  have B3 := BT.keep hW3
  have f3 := B3.thawed
  have c3 := B3.cells
  go_simp
  apply Rel.gives_skip
  obtain ⟨W4, hW4⟩ : ∃ W4, W4 = (((((((W3.setCell ⟨W1.heap.size, 0, none⟩ (.int .i64 (c : Int))).setCell ⟨W1.heap.size, 1, none⟩ (.int .u32 (da + ro))).setCell ⟨W1.heap.size, 2, none⟩ (.int .i64 1)).setCell ⟨W1.heap.size, 3, none⟩ (.bool false)).setCell ⟨W1.heap.size, 4, none⟩ (.int .i64 0)).setCell ⟨W1.heap.size, 5, none⟩ (.int .u32 0)).setCell ⟨W1.heap.size, 6, none⟩ (.int .u16 0)) := ⟨_, rfl⟩
  rw [← hW4]
  have B4 : Box W4 W1.heap.size #[.int .i64 (c : Int), .int .u32 (da + ro), .int .i64 1, .bool false, .int .i64 0, .int .u32 0, .int .u16 0] := by
    rw [hW4]; simpa using ((((((B3.set 0 (.int .i64 (c : Int))).set 1 (.int .u32 (da + ro))).set 2 (.int .i64 1)).set 3 (.bool false)).set 4 (.int .i64 0)).set 5 (.int .u32 0)).set 6 (.int .u16 0)
  have K34 : KeepBut (fun z => W0.heap.size ≤ z) W3 W4 := by
    rw [hW4]
    repeat (with_reducible refine KeepBut.setAt ?_ ?_ _; · exact .inl hs)
    exact KeepBut.refl _ _
  have K4 : Keep W0 W4 := ((K3.but _).trans K34).keep (fun z hz => hz)
  refine ⟨K34, ?_⟩
  clear hW4 K34 B3 f3 c3 K3 hW3 KA BT hW1
  obtain ⟨tb, htb⟩ : ∃ tb, tb = W1.heap.size := ⟨_, rfl⟩
  rw [← htb] at B4 hs ⊢
  clear htb
  go_simp
  apply Rel.ordK_end
  intro W5 hW5
  have K5 := Lib.hid (K4.trans hW5)
  have BT5 := Lib.hid (B4.keep hW5)
  clear B4 hW5 K4
  have hsz := HSZ.out
  have hge : w.heap.size ≤ tb := by omega
  have ne1 : tb ≠ w.heap.size := by omega
  have ne2 : tb ≠ w.heap.size + 1 := by omega
  have ne3 : w.heap.size ≠ tb := by omega
  have ne4 : w.heap.size + 1 ≠ tb := by omega
  have ne5 : w.heap.size + 1 ≠ w.heap.size := by omega
  have ne6 : w.heap.size ≠ w.heap.size + 1 := by omega
  have ne7 : tb ≠ b := by omega
  have ne8 : b ≠ tb := by omega
  have ne9 : b ≠ w.heap.size + 1 := by omega
  have nea : w.heap.size + 1 ≠ b := by omega
  clear hsz
  have br5 := (BR.out.keep K5.out).cells
  go_wp2_with fail
  refine (CS.out W5 (K0.out.trans K5.out)).mono ?_
  rintro e w6 ⟨rfl, hk6⟩
  have KW6 := Lib.hid ((K0.out.trans K5.out).trans hk6)
  have br6 := (BR.out.keep (K5.out.trans hk6)).cells
  have BZ6 := BZ.out.keep (K5.out.trans hk6)
  have BT6 := BT5.out.keep hk6
  have cz := BZ6.cells
  have fz := BZ6.thawed
  have ct := BT6.cells
  have ft := BT6.thawed
  clear hk6 br5
  go_wp2_with fail
  refine ret_box (w := w) (b := w.heap.size + 1) (vs := #[.int .i64 (c : Int), .int .u32 (da + ro), .int .i64 1, .bool D, .int .i64 0, .int .u32 A, .int .u16 rp]) ?_ ?_ ?_
  · apply Box.conv
    · repeat (first | with_reducible exact BZ6 | with_reducible apply Box.set | apply Box.past ne4)
    · rfl
  · repeat (with_reducible refine Keep.setAt ?_ ?_ _; · first | omega | (simp; done) | (simp; omega))
    exact KW6.out
  intro W' hB' hK'
  have rz := hB'.cells
  exact bodyPost_ret (v := .agg #[.int .i64 (c : Int), .int .u32 (da + ro), .int .i64 1, .bool D, .int .i64 0, .int .u32 A, .int .u16 rp]) (by simp [results, Tryz.results79, go_sem, rz]; done) rfl ⟨rfl, hK'⟩
set_option maxHeartbeats 8000000 in
set_option maxRecDepth 100000 in
theorem lkinit2_any (b : Nat) (m : ManV) (vc vi vs vg : Value) (l : List ObjV) (vl : Value) (qs : List V4) (z ps ss is st ad bs : Value) (c : Nat) (P : List PartV) (ves : List Value) (p : PartV) (hp : P[c]? = some p) (hn : ves.length = P.length) (c2 : Nat) (cc : CompV) (k : Nat) (o : ObjV) (q : V4) (p2 : PartV) (hp2 : P[c2]? = some p2) (H : LkHas m l qs c2 cc k o q) (ro rp : Int) (rc rn : ByteArray) (hix : idxL m.comps rc 0 = (c2 : Int)) (hf : ObjsFew l) (hm : ManMay m) (w : World) (h : LkAt w b m vc vi vs vg l vl qs z ps ss is st ad bs) (hP : SlAt w ps P.length (partRows P ves))
    (hb : N32 (p.data.at_ + ro)) (hb2 : N32 ((if (symOf o rn).data = true then p2.data.at_ else p2.code.at_) + (symOf o rn).off)) :
    Calls Tryz.prog 79 #[.pointer (some ⟨b, 0, none⟩), .int .i64 (c : Int), .agg #[.int .i64 2, .int .u32 ro, .string rc, .string rn, .int .u16 rp]] w fun e w' => e = .returned (.agg #[.int .i64 (c : Int), .int .u32 (p.data.at_ + ro), .int .i64 2, .bool (symOf o rn).data, .int .i64 (c2 : Int), .int .u32 ((if (symOf o rn).data = true then p2.data.at_ else p2.code.at_) + (symOf o rn).off), .int .u16 rp]) ∧ Keep w w' := by
  have CS := Lib.hid (fun W (hW : Keep w W) => lksymbol_any b m vc vi vs vg l vl qs z ps ss is st ad bs c2 cc k o q H rn hf P ves p2 hp2 hn W (h.keep hW) (hP.keep hW) hb2)
  have CI : Hid (∀ W, Keep w W → Calls Tryz.prog 80 #[.agg #[vc, vi, vs, vg, .string m.start.comp, .string m.start.from_, .string m.start.name], .string rc] W fun e w' => e = .returned (.int .i64 (c2 : Int)) ∧ Keep W w') := Lib.hid (fun W hW => by
    have := pindexM_any m vc vi vs vg rc W (h.man.keep hW) (by have := hm.comps; omega)
    rw [hix] at this
    exact this)
  obtain ⟨A, hA⟩ : ∃ A, A = (if (symOf o rn).data = true then p2.data.at_ else p2.code.at_) + (symOf o rn).off := ⟨_, rfl⟩
  obtain ⟨D, hD⟩ : ∃ D, D = (symOf o rn).data := ⟨_, rfl⟩
  rw [← hA] at CS ⊢
  rw [← hD] at CS ⊢
  obtain ⟨W0, hW0⟩ : ∃ W0, W0 = (w.alloc (.cells #[.int .i64 2, .int .u32 ro, .string rc, .string rn, .int .u16 rp] 137)).alloc (.cells #[.int .i64 0, .int .u32 0, .int .i64 0, .bool false, .int .i64 0, .int .u32 0, .int .u16 0] 130) := ⟨_, rfl⟩
  have K0 : Hid (Keep w W0) := Lib.hid (by rw [hW0]; exact ((Keep.refl _).alloc _).alloc _)
  have BR : Hid (Box W0 w.heap.size #[.int .i64 2, .int .u32 ro, .string rc, .string rn, .int .u16 rp]) := Lib.hid (by rw [hW0]; exact (Box.new _ _ _).alloc _)
  have BZ : Hid (Box W0 (w.heap.size + 1) #[.int .i64 0, .int .u32 0, .int .i64 0, .bool false, .int .i64 0, .int .u32 0, .int .u16 0]) := Lib.hid (by rw [hW0]; exact Box.new1 _ _ _ _)
  have HSZ : Hid (W0.heap.size = w.heap.size + 2) := Lib.hid (by rw [hW0]; simp)
  have hbl : b < w.heap.size := h.box.lt
  have HB := Lib.hid (h.box.keep K0.out)
  obtain ⟨b1, off1, cap1, ve, hps, hv, hb1, a0, a1, a2, a3, _⟩ := partsIn hn hP hp
  subst hps
  have HPA := Lib.hid (K0.out.cellOf a3)
  have hcl : c < P.length := (List.getElem?_eq_some_iff.1 hp).1
  obtain ⟨np, hnp⟩ : ∃ np, np = P.length := ⟨_, rfl⟩
  rw [← hnp] at hcl HB
  obtain ⟨da, hda⟩ : ∃ a, a = p.data.at_ := ⟨_, rfl⟩
  rw [← hda] at HPA hb ⊢
  have wr : IntKind.u32.wrap (da + ro) = da + ro := by
    obtain ⟨h0, h1⟩ := hb
    rw [IntKind.wrap_u32]; omega
  clear hp hn H hf h hP hb hb2 hA hD hv hb1 a0 a1 a2 a3 hnp hda hp2 hix hm
  go_enter Tryz.func79, Tryz.ntmps79
  go_wp2_with fail
  rw [← hW0]
  clear hW0
  refine Rel.regionO (KeepBut (fun z => W0.heap.size ≤ z)) (butWay _) [17, 18] [0, 1, 2, 3, 4, 5, 6, 7, 8, 9, 10, 11, 12, 13, 14, 15, 16, 17, 18] (by kernel_rfl) (by kernel_rfl) (Keep.refl _) ?_
  repeat (first
    | (apply Rel.ordK_step (by rfl) (by rfl) (by rfl)
       · intro W' hW'
         have kw := hW'.keep fun z hz => hz
         have cb := (HB.out.keep kw).cells
         have cr := (BR.out.keep kw).cells
         have pa := kw.cellOf HPA.out
         go_simp
         exact ⟨rfl, Keep.refl _⟩
       go_simp))
  apply Rel.ordK_loose (by rfl) (by rfl) (by rfl)
  intro W1 hW1
  go_simp
  apply Rel.gives_value
  refine ⟨((Keep.refl _).alloc _).but _, ?_⟩
  have BT : Box (W1.alloc (.cells #[.int .i64 0, .int .u32 0, .int .i64 0, .bool false, .int .i64 0, .int .u32 0, .int .u16 0] 130)) W1.heap.size #[.int .i64 0, .int .u32 0, .int .i64 0, .bool false, .int .i64 0, .int .u32 0, .int .u16 0] := Box.new _ _ _
  have KA := hW1.alloc (.cells #[.int .i64 0, .int .u32 0, .int .i64 0, .bool false, .int .i64 0, .int .u32 0, .int .u16 0] 130)
  have hs : W0.heap.size ≤ W1.heap.size := hW1.size
  go_simp
  apply Rel.ordK_loose (by rfl) (by rfl) (by rfl)
  intro W3 hW3
  have K3 := KA.trans hW3
  have B3 := BT.keep hW3
  have f3 := B3.thawed
  have c3 := B3.cells
  go_simp
  apply Rel.gives_skip
  obtain ⟨W4, hW4⟩ : ∃ W4, W4 = (((((((W3.setCell ⟨W1.heap.size, 0, none⟩ (.int .i64 (c : Int))).setCell ⟨W1.heap.size, 1, none⟩ (.int .u32 (da + ro))).setCell ⟨W1.heap.size, 2, none⟩ (.int .i64 2)).setCell ⟨W1.heap.size, 3, none⟩ (.bool false)).setCell ⟨W1.heap.size, 4, none⟩ (.int .i64 0)).setCell ⟨W1.heap.size, 5, none⟩ (.int .u32 0)).setCell ⟨W1.heap.size, 6, none⟩ (.int .u16 0)) := ⟨_, rfl⟩
  rw [← hW4]
  have B4 : Box W4 W1.heap.size #[.int .i64 (c : Int), .int .u32 (da + ro), .int .i64 2, .bool false, .int .i64 0, .int .u32 0, .int .u16 0] := by
    rw [hW4]; simpa using ((((((B3.set 0 (.int .i64 (c : Int))).set 1 (.int .u32 (da + ro))).set 2 (.int .i64 2)).set 3 (.bool false)).set 4 (.int .i64 0)).set 5 (.int .u32 0)).set 6 (.int .u16 0)
  have K34 : KeepBut (fun z => W0.heap.size ≤ z) W3 W4 := by
    rw [hW4]
    repeat (with_reducible refine KeepBut.setAt ?_ ?_ _; · exact .inl hs)
    exact KeepBut.refl _ _
  have K4 : Keep W0 W4 := ((K3.but _).trans K34).keep (fun z hz => hz)
  refine ⟨K34, ?_⟩
  clear hW4 K34 B3 f3 c3 K3 hW3 KA BT hW1
  obtain ⟨tb, htb⟩ : ∃ tb, tb = W1.heap.size := ⟨_, rfl⟩
  rw [← htb] at B4 hs ⊢
  clear htb
  go_simp
  apply Rel.ordK_end
  intro W5 hW5
  have K5 := Lib.hid (K4.trans hW5)
  have BT5 := Lib.hid (B4.keep hW5)
  clear B4 hW5 K4
  have hsz := HSZ.out
  have hge : w.heap.size ≤ tb := by omega
  have ne1 : tb ≠ w.heap.size := by omega
  have ne2 : tb ≠ w.heap.size + 1 := by omega
  have ne3 : w.heap.size ≠ tb := by omega
  have ne4 : w.heap.size + 1 ≠ tb := by omega
  have ne5 : w.heap.size + 1 ≠ w.heap.size := by omega
  have ne6 : w.heap.size ≠ w.heap.size + 1 := by omega
  have ne7 : tb ≠ b := by omega
  have ne8 : b ≠ tb := by omega
  have ne9 : b ≠ w.heap.size + 1 := by omega
  have nea : w.heap.size + 1 ≠ b := by omega
  clear hsz
  have br5 := (BR.out.keep K5.out).cells
  go_wp2_with fail
  refine region_grows (Keep W5) (by kernel_rfl) (by kernel_rfl) (Keep.refl _).drew ?_
  repeat (first
    | (apply text_pass (by rfl); go_simp)
    | (apply text_step (by rfl)
       · intro W hW
         have cb := (HB.out.keep (K5.out.trans hW)).cells
         have cr := (BR.out.keep (K5.out.trans hW)).cells
         go_simp
         first
           | (apply yes_enter; go_at_call 80; refine (CI.out _ (K0.out.trans (K5.out.trans hW))).mono ?_; rintro e w' ⟨rfl, hk⟩; exact ⟨rfl, hW.trans hk⟩)
           | exact ⟨rfl, hW⟩
       go_simp))
  apply text_end
  intro W6 hW6
  have K6 := Lib.hid (K5.out.trans hW6)
  have BT6 := BT5.out.keep hW6
  have ct := BT6.cells
  have ft := BT6.thawed
  have br6 := (BR.out.keep K6.out).cells
  have cb6 := (HB.out.keep K6.out).cells
  clear hW6 br5
  have KX : Hid (Keep w (W6.setCell ⟨tb, 4, none⟩ (.int .i64 (c2 : Int)))) := Lib.hid (Keep.setAt hge (K0.out.trans K6.out) _)
  obtain ⟨W7, hW7⟩ : ∃ W7, W7 = W6.setCell ⟨tb, 4, none⟩ (.int .i64 (c2 : Int)) := ⟨_, rfl⟩
  have BT7 : Hid (Box W7 tb #[.int .i64 (c : Int), .int .u32 (da + ro), .int .i64 2, .bool false, .int .i64 (c2 : Int), .int .u32 0, .int .u16 0]) := Lib.hid (by rw [hW7]; simpa using BT6.set 4 (.int .i64 (c2 : Int)))
  have BR7 : Hid (Box W7 w.heap.size #[.int .i64 2, .int .u32 ro, .string rc, .string rn, .int .u16 rp]) := Lib.hid (by rw [hW7]; exact (BR.out.keep K6.out).other ne3 _)
  have BZ7 : Hid (Box W7 (w.heap.size + 1) #[.int .i64 0, .int .u32 0, .int .i64 0, .bool false, .int .i64 0, .int .u32 0, .int .u16 0]) := Lib.hid (by rw [hW7]; exact (BZ.out.keep K6.out).other ne4 _)
  clear BT6
  go_wp2_with fail
  rw [← hW7]
  rw [← hW7] at KX
  clear hW7 ct ft br6 cb6
  refine (CS.out W7 KX.out).mono ?_
  rintro e w6 ⟨rfl, hk6⟩
  have KW6 := Lib.hid (KX.out.trans hk6)
  have br6 := (BR7.out.keep hk6).cells
  have BZ6 := BZ7.out.keep hk6
  have BT6 := BT7.out.keep hk6
  have cz := BZ6.cells
  have fz := BZ6.thawed
  have ct := BT6.cells
  have ft := BT6.thawed
  clear hk6
  go_wp2_with fail
  refine ret_box (w := w) (b := w.heap.size + 1) (vs := #[.int .i64 (c : Int), .int .u32 (da + ro), .int .i64 2, .bool D, .int .i64 (c2 : Int), .int .u32 A, .int .u16 rp]) ?_ ?_ ?_
  · apply Box.conv
    · repeat (first | with_reducible exact BZ6 | with_reducible apply Box.set | apply Box.past ne4)
    · rfl
  · repeat (with_reducible refine Keep.setAt ?_ ?_ _; · first | omega | (simp; done) | (simp; omega))
    exact KW6.out
  intro W' hB' hK'
  have rz := hB'.cells
  exact bodyPost_ret (v := .agg #[.int .i64 (c : Int), .int .u32 (da + ro), .int .i64 2, .bool D, .int .i64 (c2 : Int), .int .u32 A, .int .u16 rp]) (by simp [results, Tryz.results79, go_sem, rz]; done) rfl ⟨rfl, hK'⟩
set_option maxHeartbeats 8000000 in
set_option maxRecDepth 100000 in
theorem lkinit3_any (b : Nat) (m : ManV) (vc vi vs vg : Value) (l : List ObjV) (vl : Value) (qs : List V4) (z ps ss is st ad bs : Value) (c : Nat) (P : List PartV) (ves : List Value) (p : PartV) (hp : P[c]? = some p) (hn : ves.length = P.length) (cc : CompV) (hc : m.comps[c]? = some cc) (S : List SpanV) (sp : SpanV) (sx : Nat) (hsx : S[sx]? = some sp) (gr : GrnV) (gx : Nat) (hgx : m.grns[gx]? = some gr) (ro rp : Int) (rc rn : ByteArray) (hix : idxL m.shrs rn 0 = (sx : Int)) (hig : idxF (grnF cc.name rn) m.grns 0 = (gx : Int)) (hm : ManMay m) (w : World) (h : LkAt w b m vc vi vs vg l vl qs z ps ss is st ad bs) (hP : SlAt w ps P.length (partRows P ves)) (hS : SlAt w ss S.length (spanRows S))
    (hb : N32 (p.data.at_ + ro)) :
    Calls Tryz.prog 79 #[.pointer (some ⟨b, 0, none⟩), .int .i64 (c : Int), .agg #[.int .i64 3, .int .u32 ro, .string rc, .string rn, .int .u16 rp]] w fun e w' => e = .returned (.agg #[.int .i64 (c : Int), .int .u32 (p.data.at_ + ro), .int .i64 3, .bool false, .int .i64 (sx : Int), .int .u32 sp.at_, .int .u16 gr.perm]) ∧ Keep w w' := by
  have CS : Hid (∀ W, Keep w W → Calls Tryz.prog 119 #[.pointer (some ⟨b, 0, none⟩), .string rn] W fun e w' => e = .returned (.int .i64 (sx : Int)) ∧ Keep W w') := Lib.hid (fun W hW => by
    have := lkshare_any b m vc vi vs vg l vl qs z ps ss is st ad bs rn W (h.keep hW) (by have := hm.shrs; omega)
    rw [hix] at this
    exact this)
  have CG : Hid (∀ W, Keep w W → Calls Tryz.prog 120 #[.pointer (some ⟨b, 0, none⟩), .int .i64 (c : Int), .string rn] W fun e w' => e = .returned (.int .i64 (gx : Int)) ∧ Keep W w') := Lib.hid (fun W hW => by
    have := lkgrant_any b m vc vi vs vg l vl qs z ps ss is st ad bs c cc rn hc W (h.keep hW) (by have := hm.grns; omega)
    rw [hig] at this
    exact this)
  obtain ⟨W0, hW0⟩ : ∃ W0, W0 = (w.alloc (.cells #[.int .i64 3, .int .u32 ro, .string rc, .string rn, .int .u16 rp] 137)).alloc (.cells #[.int .i64 0, .int .u32 0, .int .i64 0, .bool false, .int .i64 0, .int .u32 0, .int .u16 0] 130) := ⟨_, rfl⟩
  have K0 : Hid (Keep w W0) := Lib.hid (by rw [hW0]; exact ((Keep.refl _).alloc _).alloc _)
  have BR : Hid (Box W0 w.heap.size #[.int .i64 3, .int .u32 ro, .string rc, .string rn, .int .u16 rp]) := Lib.hid (by rw [hW0]; exact (Box.new _ _ _).alloc _)
  have BZ : Hid (Box W0 (w.heap.size + 1) #[.int .i64 0, .int .u32 0, .int .i64 0, .bool false, .int .i64 0, .int .u32 0, .int .u16 0]) := Lib.hid (by rw [hW0]; exact Box.new1 _ _ _ _)
  have HSZ : Hid (W0.heap.size = w.heap.size + 2) := Lib.hid (by rw [hW0]; simp)
  have hbl : b < w.heap.size := h.box.lt
  have HB := Lib.hid (h.box.keep K0.out)
  obtain ⟨b1, off1, cap1, ve, hps, hv, hb1, a0, a1, a2, a3, _⟩ := partsIn hn hP hp
  subst hps
  have HPA := Lib.hid (K0.out.cellOf a3)
  have hcl : c < P.length := (List.getElem?_eq_some_iff.1 hp).1
  obtain ⟨np, hnp⟩ : ∃ np, np = P.length := ⟨_, rfl⟩
  rw [← hnp] at hcl HB
  obtain ⟨da, hda⟩ : ∃ a, a = p.data.at_ := ⟨_, rfl⟩
  rw [← hda] at HPA hb ⊢
  have wr : IntKind.u32.wrap (da + ro) = da + ro := by
    obtain ⟨h0, h1⟩ := hb
    rw [IntKind.wrap_u32]; omega
  obtain ⟨pq, capq, hvg, hcq, hq⟩ := h.man.grnsAt
  obtain ⟨b3, off3, hpq, hb3, hq3⟩ := hq.resolve_left (fun e => by rw [e] at hgx; simp at hgx)
  subst hpq
  have HG := Lib.hid (K0.out.cellOf (hq3 gx gr hgx).2.2)
  have hgl : gx < m.grns.length := (List.getElem?_eq_some_iff.1 hgx).1
  obtain ⟨pw, capw, hvw, _, _, hw3⟩ := hS.rowsAt (m := 2) (fun _ => rfl)
  have hw3 := hw3.resolve_left (fun e => by rw [e] at hsx; simp at hsx)
  obtain ⟨b4, off4, hpw, hb4, hw4⟩ := hw3.resolve_left (fun e => by cases e)
  subst hpw
  have HS := Lib.hid (K0.out.cellOf (hw4 sx sp hsx 0 (.int .u32 sp.at_) (by decide) rfl))
  have hsl : sx < S.length := (List.getElem?_eq_some_iff.1 hsx).1
  rw [hvg, hvw] at HB
  obtain ⟨ng, hng⟩ : ∃ n, n = m.grns.length := ⟨_, rfl⟩
  obtain ⟨ns, hns⟩ : ∃ n, n = S.length := ⟨_, rfl⟩
  rw [← hng] at hgl HB
  rw [← hns] at hsl HB
  obtain ⟨sa, hsa⟩ : ∃ a, a = sp.at_ := ⟨_, rfl⟩
  obtain ⟨gp, hgp⟩ : ∃ a, a = gr.perm := ⟨_, rfl⟩
  rw [← hsa] at HS ⊢
  rw [← hgp] at HG ⊢
  clear hp hn h hP hS hb hv hb1 a0 a1 a2 a3 hnp hda hix hig hm hc hsx hgx hq hq3 hw3 hw4 hvg hvw hng hns hcq hsa hgp
  go_enter Tryz.func79, Tryz.ntmps79
  go_wp2_with fail
  rw [← hW0]
  clear hW0
  refine Rel.regionO (KeepBut (fun z => W0.heap.size ≤ z)) (butWay _) [17, 18] [0, 1, 2, 3, 4, 5, 6, 7, 8, 9, 10, 11, 12, 13, 14, 15, 16, 17, 18] (by kernel_rfl) (by kernel_rfl) (Keep.refl _) ?_
  repeat (first
    | (apply Rel.ordK_step (by rfl) (by rfl) (by rfl)
       · intro W' hW'
         have kw := hW'.keep fun z hz => hz
         have cb := (HB.out.keep kw).cells
         have cr := (BR.out.keep kw).cells
         have pa := kw.cellOf HPA.out
         go_simp
         exact ⟨rfl, Keep.refl _⟩
       go_simp))
  apply Rel.ordK_loose (by rfl) (by rfl) (by rfl)
  intro W1 hW1
  go_simp
  apply Rel.gives_value
  refine ⟨((Keep.refl _).alloc _).but _, ?_⟩
  have BT : Box (W1.alloc (.cells #[.int .i64 0, .int .u32 0, .int .i64 0, .bool false, .int .i64 0, .int .u32 0, .int .u16 0] 130)) W1.heap.size #[.int .i64 0, .int .u32 0, .int .i64 0, .bool false, .int .i64 0, .int .u32 0, .int .u16 0] := Box.new _ _ _
  have KA := hW1.alloc (.cells #[.int .i64 0, .int .u32 0, .int .i64 0, .bool false, .int .i64 0, .int .u32 0, .int .u16 0] 130)
  have hs : W0.heap.size ≤ W1.heap.size := hW1.size
  go_simp
  apply Rel.ordK_loose (by rfl) (by rfl) (by rfl)
  intro W3 hW3
  have K3 := KA.trans hW3
  have B3 := BT.keep hW3
  have f3 := B3.thawed
  have c3 := B3.cells
  go_simp
  apply Rel.gives_skip
  obtain ⟨W4, hW4⟩ : ∃ W4, W4 = (((((((W3.setCell ⟨W1.heap.size, 0, none⟩ (.int .i64 (c : Int))).setCell ⟨W1.heap.size, 1, none⟩ (.int .u32 (da + ro))).setCell ⟨W1.heap.size, 2, none⟩ (.int .i64 3)).setCell ⟨W1.heap.size, 3, none⟩ (.bool false)).setCell ⟨W1.heap.size, 4, none⟩ (.int .i64 0)).setCell ⟨W1.heap.size, 5, none⟩ (.int .u32 0)).setCell ⟨W1.heap.size, 6, none⟩ (.int .u16 0)) := ⟨_, rfl⟩
  rw [← hW4]
  have B4 : Box W4 W1.heap.size #[.int .i64 (c : Int), .int .u32 (da + ro), .int .i64 3, .bool false, .int .i64 0, .int .u32 0, .int .u16 0] := by
    rw [hW4]; simpa using ((((((B3.set 0 (.int .i64 (c : Int))).set 1 (.int .u32 (da + ro))).set 2 (.int .i64 3)).set 3 (.bool false)).set 4 (.int .i64 0)).set 5 (.int .u32 0)).set 6 (.int .u16 0)
  have K34 : KeepBut (fun z => W0.heap.size ≤ z) W3 W4 := by
    rw [hW4]
    repeat (with_reducible refine KeepBut.setAt ?_ ?_ _; · exact .inl hs)
    exact KeepBut.refl _ _
  have K4 : Keep W0 W4 := ((K3.but _).trans K34).keep (fun z hz => hz)
  refine ⟨K34, ?_⟩
  clear hW4 K34 B3 f3 c3 K3 hW3 KA BT hW1
  obtain ⟨tb, htb⟩ : ∃ tb, tb = W1.heap.size := ⟨_, rfl⟩
  rw [← htb] at B4 hs ⊢
  clear htb
  go_simp
  apply Rel.ordK_end
  intro W5 hW5
  have K5 := Lib.hid (K4.trans hW5)
  have BT5 := Lib.hid (B4.keep hW5)
  clear B4 hW5 K4
  have hsz := HSZ.out
  have hge : w.heap.size ≤ tb := by omega
  have ne1 : tb ≠ w.heap.size := by omega
  have ne2 : tb ≠ w.heap.size + 1 := by omega
  have ne3 : w.heap.size ≠ tb := by omega
  have ne4 : w.heap.size + 1 ≠ tb := by omega
  have ne5 : w.heap.size + 1 ≠ w.heap.size := by omega
  have ne6 : w.heap.size ≠ w.heap.size + 1 := by omega
  have ne7 : tb ≠ b := by omega
  have ne8 : b ≠ tb := by omega
  have ne9 : b ≠ w.heap.size + 1 := by omega
  have nea : w.heap.size + 1 ≠ b := by omega
  clear hsz
  have br5 := (BR.out.keep K5.out).cells
  go_wp2_with fail
  refine (CS.out W5 (K0.out.trans K5.out)).mono ?_
  rintro e w6 ⟨rfl, hk6⟩
  have K6 := Lib.hid (K5.out.trans hk6)
  have BT6 := BT5.out.keep hk6
  have ct := BT6.cells
  have ft := BT6.thawed
  clear hk6 br5
  have KX : Hid (Keep w (w6.setCell ⟨tb, 4, none⟩ (.int .i64 (sx : Int)))) := Lib.hid (Keep.setAt hge (K0.out.trans K6.out) _)
  have KX0 : Hid (KeepBut (fun z => z = tb) W0 (w6.setCell ⟨tb, 4, none⟩ (.int .i64 (sx : Int)))) := Lib.hid (KeepBut.setAt (S := fun z => z = tb) (.inl rfl) (K6.out.but _) _)
  obtain ⟨W7, hW7⟩ : ∃ W7, W7 = w6.setCell ⟨tb, 4, none⟩ (.int .i64 (sx : Int)) := ⟨_, rfl⟩
  have BT7 : Hid (Box W7 tb #[.int .i64 (c : Int), .int .u32 (da + ro), .int .i64 3, .bool false, .int .i64 (sx : Int), .int .u32 0, .int .u16 0]) := Lib.hid (by rw [hW7]; simpa using BT6.set 4 (.int .i64 (sx : Int)))
  have BR7 : Hid (Box W7 w.heap.size #[.int .i64 3, .int .u32 ro, .string rc, .string rn, .int .u16 rp]) := Lib.hid (by rw [hW7]; exact (BR.out.keep K6.out).other ne3 _)
  have BZ7 : Hid (Box W7 (w.heap.size + 1) #[.int .i64 0, .int .u32 0, .int .i64 0, .bool false, .int .i64 0, .int .u32 0, .int .u16 0]) := Lib.hid (by rw [hW7]; exact (BZ.out.keep K6.out).other ne4 _)
  have HB7 : Hid (Box W7 b _) := Lib.hid (by rw [hW7]; exact (HB.out.keep K6.out).other ne8 _)
  clear BT6
  go_wp2_with fail
  rw [← hW7]
  rw [← hW7] at KX KX0
  clear hW7 ct ft
  have HS7 : Hid (W7.cell? ⟨b4, off4 + sx * 2, none⟩ = some (.int .u32 sa)) := Lib.hid (by
    have := HS.out
    rw [Nat.add_zero] at this
    exact ocell_but KX0.out (Nat.lt_of_lt_of_le hb4 K0.out.size) (by omega) this)
  have HG7 : Hid (W7.cell? ⟨b3, off3 + gx * 3 + 2, none⟩ = some (.int .u16 gp)) := Lib.hid (ocell_but KX0.out (Nat.lt_of_lt_of_le hb3 K0.out.size) (by omega) HG.out)
  refine region_grows_tail 11 (Keep W7) (by kernel_rfl) (by kernel_rfl) (Keep.refl _).drew ?_
  simp only [List.take_succ_cons, List.take_zero, List.drop_succ_cons, List.drop_zero]
  repeat (first
    | (apply text_pass (by rfl); go_simp)
    | (apply text_step (by rfl)
       · intro W hW
         have cb := (HB7.out.keep hW).cells
         have ct := (BT7.out.keep hW).cells
         have s0 := hW.cellOf HS7.out
         go_simp
         exact ⟨rfl, hW⟩
       go_simp))
  apply text_end
  intro W8 hW8
  have BT8 := BT7.out.keep hW8
  have ct8 := BT8.cells
  have ft8 := BT8.thawed
  have KY : Hid (Keep w (W8.setCell ⟨tb, 5, none⟩ (.int .u32 sa))) := Lib.hid (Keep.setAt hge (KX.out.trans hW8) _)
  have KY0 : Hid (KeepBut (fun z => z = tb) W7 (W8.setCell ⟨tb, 5, none⟩ (.int .u32 sa))) := Lib.hid (KeepBut.setAt (S := fun z => z = tb) (.inl rfl) (hW8.but _) _)
  obtain ⟨W9, hW9⟩ : ∃ W9, W9 = W8.setCell ⟨tb, 5, none⟩ (.int .u32 sa) := ⟨_, rfl⟩
  have BT9 : Hid (Box W9 tb #[.int .i64 (c : Int), .int .u32 (da + ro), .int .i64 3, .bool false, .int .i64 (sx : Int), .int .u32 sa, .int .u16 0]) := Lib.hid (by rw [hW9]; simpa using BT8.set 5 (.int .u32 sa))
  have BR9 : Hid (Box W9 w.heap.size #[.int .i64 3, .int .u32 ro, .string rc, .string rn, .int .u16 rp]) := Lib.hid (by rw [hW9]; exact (BR7.out.keep hW8).other ne3 _)
  have BZ9 : Hid (Box W9 (w.heap.size + 1) #[.int .i64 0, .int .u32 0, .int .i64 0, .bool false, .int .i64 0, .int .u32 0, .int .u16 0]) := Lib.hid (by rw [hW9]; exact (BZ7.out.keep hW8).other ne4 _)
  have HB9 : Hid (Box W9 b _) := Lib.hid (by rw [hW9]; exact (HB7.out.keep hW8).other ne8 _)
  clear BT8 hW8
  go_wp2_with fail
  rw [← hW9]
  rw [← hW9] at KY KY0
  clear hW9 ct8 ft8
  have HG9 : Hid (W9.cell? ⟨b3, off3 + gx * 3 + 2, none⟩ = some (.int .u16 gp)) := Lib.hid (ocell_but KY0.out (Nat.lt_of_lt_of_le hb3 KX.out.size) (by omega) HG7.out)
  refine region_grows_tail 14 (Keep W9) (by kernel_rfl) (by kernel_rfl) (Keep.refl _).drew ?_
  simp only [List.take_succ_cons, List.take_zero, List.drop_succ_cons, List.drop_zero]
  repeat (first
    | (apply text_pass (by rfl); go_simp)
    | (apply text_step (by rfl)
       · intro W hW
         have cb := (HB9.out.keep hW).cells
         have ct := (BT9.out.keep hW).cells
         have cr := (BR9.out.keep hW).cells
         have g0 := hW.cellOf HG9.out
         go_simp
         first
           | (apply yes_enter; go_at_call 120; refine (CG.out _ (KY.out.trans hW)).mono ?_; rintro e w' ⟨rfl, hk⟩; exact ⟨rfl, hW.trans hk⟩)
           | exact ⟨rfl, hW⟩
       go_simp))
  apply text_end
  intro w6 hW6
  have KW6 := Lib.hid (KY.out.trans hW6)
  have BZ6 := BZ9.out.keep hW6
  have BT6 := BT9.out.keep hW6
  have cz := BZ6.cells
  have fz := BZ6.thawed
  have ct := BT6.cells
  have ft := BT6.thawed
  clear hW6
  go_wp2_with fail
  refine ret_box (w := w) (b := w.heap.size + 1) (vs := #[.int .i64 (c : Int), .int .u32 (da + ro), .int .i64 3, .bool false, .int .i64 (sx : Int), .int .u32 sa, .int .u16 gp]) ?_ ?_ ?_
  · apply Box.conv
    · repeat (first | with_reducible exact BZ6 | with_reducible apply Box.set | apply Box.past ne4)
    · rfl
  · repeat (with_reducible refine Keep.setAt ?_ ?_ _; · first | omega | (simp; done) | (simp; omega))
    exact KW6.out
  intro W' hB' hK'
  have rz := hB'.cells
  exact bodyPost_ret (v := .agg #[.int .i64 (c : Int), .int .u32 (da + ro), .int .i64 3, .bool false, .int .i64 (sx : Int), .int .u32 sa, .int .u16 gp]) (by simp [results, Tryz.results79, go_sem, rz]; done) rfl ⟨rfl, hK'⟩
end Go.Proofs.YtbmjnfnekmeegaaGreatDoor
