/- ManPIdx, ManPRoom: The program's Index, shareIndex; slices.IndexFunc of comps, shares, grants, whatever is asked of each; slices.Index of imports. -/
import Derived.Test.YtbmjnfnekmeegaaGreatDoorGManA
import Derived.Test.YtbmjnfnekmeegaaGreatDoorGBase
import Derived.Shelf.Abstract
import Derived.Laws.StructEq
import Derived.Test.YtbmjnfnekmeegaaGreatDoorGObjPA
import Derived.Test.YtbmjnfnekmeegaaGreatDoorObjNz
/- The program's Index, shareIndex; slices.IndexFunc of comps, shares, grants, whatever is asked of each; slices.Index of imports. -/
namespace Go.Proofs.YtbmjnfnekmeegaaGreatDoor
set_option linter.unusedVariables false
set_option linter.unusedSimpArgs false
open Go.RowKit
theorem idxF_go {α : Type} {f : α → Bool} {l : List α} {k : Nat} {x : α} (h : l[k]? = some x) (hf : f x = false) : idxF f (l.drop k) k = idxF f (l.drop (k + 1)) (k + 1) := by
  obtain ⟨hk, rfl⟩ := List.getElem?_eq_some_iff.1 h
  rw [List.drop_eq_getElem_cons hk]
  show (if f l[k] = true then (k : Int) else idxF f (l.drop (k + 1)) (k + 1)) = _
  rw [if_neg (by rw [hf]; decide)]
theorem idxF_hit {α : Type} {f : α → Bool} {l : List α} {k : Nat} {x : α} (h : l[k]? = some x) (hf : f x = true) : idxF f (l.drop k) k = (k : Int) := by
  obtain ⟨hk, rfl⟩ := List.getElem?_eq_some_iff.1 h
  rw [List.drop_eq_getElem_cons hk]
  show (if f l[k] = true then (k : Int) else idxF f (l.drop (k + 1)) (k + 1)) = _
  rw [if_pos hf]
theorem idxF_none {α : Type} {f : α → Bool} {l : List α} {k : Nat} (h : l.length ≤ k) : idxF f (l.drop k) k = -1 := by
  rw [List.drop_eq_nil_of_le h]; rfl
theorem mstr_beq (a b : ByteArray) : (a.toList == b.toList) = decide (a = b) := by
  by_cases h : a = b
  · subst h; simp
  · rw [decide_eq_false h]
    apply beq_eq_false_iff_ne.2
    intro e
    apply h
    apply ByteArray.ext
    apply Array.ext'
    rw [← ByteArray.toList_eq, ← ByteArray.toList_eq]; exact e
def compVal (c : CompV) : Value := .agg #[.string c.name, .int .u32 c.stack]
def impVal (c : ImpV) : Value := .agg #[.string c.comp, .string c.from_, .string c.name]
def grnVal (c : GrnV) : Value := .agg #[.string c.comp, .string c.share, .int .u16 c.perm]
theorem impRow_length (c : ImpV) : (impRow c).length = 3 := rfl

set_option maxHeartbeats 4000000 in
set_option maxRecDepth 100000 in
theorem pidxC_any (l : List CompV) (p : Option Addr) (cap : Nat) (g : FuncId) (cp : Value) (f : CompV → Bool) (w : World) (few : l.length ≤ 1000000) (hl : SlAt w (.slice p l.length cap) l.length (l.flatMap compRow)) (he : ∀ args w, (callFunc g args).run Tryz.prog w = .ok (.enter g args) w)
    (hc : ∀ (c : CompV) (W : World), c ∈ l → Keep w W → Calls Tryz.prog g #[compVal c, cp] W fun e w' => e = .returned (.bool (f c)) ∧ Keep W w') :
    Calls Tryz.prog 126 #[.slice p l.length cap, .func (.func g) #[] #[cp]] w fun e w' => e = .returned (.int .i64 (idxF f l 0)) ∧ Keep w w' := by
  have HC := Lib.hid hc
  have HL := Lib.hid hl
  clear hc hl
  obtain ⟨res, hres⟩ : ∃ res, res = idxF f l 0 := ⟨_, rfl⟩
  rw [← hres]
  have HR : Hid (res = idxF f (l.drop 0) 0) := Lib.hid (by rw [List.drop_zero]; exact hres)
  clear hres
  go_enter Tryz.func126, Tryz.ntmps126
  go_wp2_with fail
  go_loopw [5, 8] (fun _ i wr => ∃ k : Nat, k ≤ l.length ∧ i = .int .i64 (k : Int) ∧ res = idxF f (l.drop k) k ∧ Keep w wr) (fun _ i _ => l.length - (intOf i).toNat)
  case atStart => exact ⟨0, Nat.zero_le _, rfl, HR.out, Keep.refl _⟩
  case round =>
    obtain ⟨k, hk, rfl, hfi, hK⟩ := hrel
    have HFI := Lib.hid hfi
    have KW := Lib.hid hK
    clear hfi hK
    by_cases hlt : k < l.length
    · have hki : (k : Int) < (l.length : Int) := by omega
      obtain ⟨x, hx⟩ : ∃ x, l[k]? = some x := ⟨_, List.getElem?_eq_getElem hlt⟩
      have HX := Lib.hid hx
      have CC := Lib.hid (HC.out x wr (List.mem_of_getElem? hx) KW.out)
      unfold compVal at CC
      clear hx
      obtain ⟨b, off, cap', e0, hcap, n0⟩ := SlAt.cellOf compRow_length HL.out HX.out (j := 0) (x := .string x.name) rfl
      cases e0
      obtain ⟨b1, off1, cap1, e1, _, n1⟩ := SlAt.cellOf compRow_length HL.out HX.out (j := 1) (x := .int .u32 x.stack) rfl
      cases e1
      replace n0 := KW.out.cellOf n0
      replace n1 := KW.out.cellOf n1
      rw [Nat.add_zero] at n0
      rw [← Nat.add_assoc] at n1
      obtain ⟨y, hy⟩ : ∃ y, f x = y := ⟨_, rfl⟩
      rw [hy] at CC
      cases y with
      | true =>
        have HN := Lib.hid (HFI.out.trans (idxF_hit HX.out hy))
        clear hy
        go_wp2_with fail
        go_at_fn g
        refine CC.out.mono ?_
        rintro e w2 ⟨rfl, hk2⟩
        have HK2 := Lib.hid (KW.out.trans hk2)
        clear hk2
        go_wp2_with fail
        go_ret
        exact ⟨by rw [HN.out]; rfl, HK2.out⟩
      | false =>
        have HN := Lib.hid (HFI.out.trans (idxF_go HX.out hy))
        clear hy
        go_wp2_with fail
        go_at_fn g
        refine CC.out.mono ?_
        rintro e w2 ⟨rfl, hk2⟩
        have HK2 := Lib.hid (KW.out.trans hk2)
        clear hk2
        go_wp2_with fail
        go_roundw
        case rel => exact ⟨k + 1, hlt, by go_num, HN.out, HK2.out⟩
        case measure => simp [intOf]; omega
    · obtain rfl : k = l.length := by omega
      have HN : Hid (res = -1) := Lib.hid (HFI.out.trans (idxF_none (Nat.le_refl _)))
      go_wp2_with fail
      go_ret
      exact ⟨by rw [HN.out]; rfl, KW.out⟩

set_option maxHeartbeats 4000000 in
set_option maxRecDepth 100000 in
theorem pidxS_any (l : List CompV) (p : Option Addr) (cap : Nat) (g : FuncId) (cp : Value) (f : CompV → Bool) (w : World) (few : l.length ≤ 1000000) (hl : SlAt w (.slice p l.length cap) l.length (l.flatMap compRow)) (he : ∀ args w, (callFunc g args).run Tryz.prog w = .ok (.enter g args) w)
    (hc : ∀ (c : CompV) (W : World), c ∈ l → Keep w W → Calls Tryz.prog g #[compVal c, cp] W fun e w' => e = .returned (.bool (f c)) ∧ Keep W w') :
    Calls Tryz.prog 165 #[.slice p l.length cap, .func (.func g) #[] #[cp]] w fun e w' => e = .returned (.int .i64 (idxF f l 0)) ∧ Keep w w' := by
  have HC := Lib.hid hc
  have HL := Lib.hid hl
  clear hc hl
  obtain ⟨res, hres⟩ : ∃ res, res = idxF f l 0 := ⟨_, rfl⟩
  rw [← hres]
  have HR : Hid (res = idxF f (l.drop 0) 0) := Lib.hid (by rw [List.drop_zero]; exact hres)
  clear hres
  go_enter Tryz.func165, Tryz.ntmps165
  go_wp2_with fail
  go_loopw [5, 8] (fun _ i wr => ∃ k : Nat, k ≤ l.length ∧ i = .int .i64 (k : Int) ∧ res = idxF f (l.drop k) k ∧ Keep w wr) (fun _ i _ => l.length - (intOf i).toNat)
  case atStart => exact ⟨0, Nat.zero_le _, rfl, HR.out, Keep.refl _⟩
  case round =>
    obtain ⟨k, hk, rfl, hfi, hK⟩ := hrel
    have HFI := Lib.hid hfi
    have KW := Lib.hid hK
    clear hfi hK
    by_cases hlt : k < l.length
    · have hki : (k : Int) < (l.length : Int) := by omega
      obtain ⟨x, hx⟩ : ∃ x, l[k]? = some x := ⟨_, List.getElem?_eq_getElem hlt⟩
      have HX := Lib.hid hx
      have CC := Lib.hid (HC.out x wr (List.mem_of_getElem? hx) KW.out)
      unfold compVal at CC
      clear hx
      obtain ⟨b, off, cap', e0, hcap, n0⟩ := SlAt.cellOf compRow_length HL.out HX.out (j := 0) (x := .string x.name) rfl
      cases e0
      obtain ⟨b1, off1, cap1, e1, _, n1⟩ := SlAt.cellOf compRow_length HL.out HX.out (j := 1) (x := .int .u32 x.stack) rfl
      cases e1
      replace n0 := KW.out.cellOf n0
      replace n1 := KW.out.cellOf n1
      rw [Nat.add_zero] at n0
      rw [← Nat.add_assoc] at n1
      obtain ⟨y, hy⟩ : ∃ y, f x = y := ⟨_, rfl⟩
      rw [hy] at CC
      cases y with
      | true =>
        have HN := Lib.hid (HFI.out.trans (idxF_hit HX.out hy))
        clear hy
        go_wp2_with fail
        go_at_fn g
        refine CC.out.mono ?_
        rintro e w2 ⟨rfl, hk2⟩
        have HK2 := Lib.hid (KW.out.trans hk2)
        clear hk2
        go_wp2_with fail
        go_ret
        exact ⟨by rw [HN.out]; rfl, HK2.out⟩
      | false =>
        have HN := Lib.hid (HFI.out.trans (idxF_go HX.out hy))
        clear hy
        go_wp2_with fail
        go_at_fn g
        refine CC.out.mono ?_
        rintro e w2 ⟨rfl, hk2⟩
        have HK2 := Lib.hid (KW.out.trans hk2)
        clear hk2
        go_wp2_with fail
        go_roundw
        case rel => exact ⟨k + 1, hlt, by go_num, HN.out, HK2.out⟩
        case measure => simp [intOf]; omega
    · obtain rfl : k = l.length := by omega
      have HN : Hid (res = -1) := Lib.hid (HFI.out.trans (idxF_none (Nat.le_refl _)))
      go_wp2_with fail
      go_ret
      exact ⟨by rw [HN.out]; rfl, KW.out⟩

set_option maxHeartbeats 4000000 in
set_option maxRecDepth 100000 in
theorem pidxG_any (l : List GrnV) (p : Option Addr) (cap : Nat) (g : FuncId) (cp : Value) (f : GrnV → Bool) (w : World) (few : l.length ≤ 1000000) (hl : SlAt w (.slice p l.length cap) l.length (l.flatMap grnRow)) (he : ∀ args w, (callFunc g args).run Tryz.prog w = .ok (.enter g args) w)
    (hc : ∀ (c : GrnV) (W : World), c ∈ l → Keep w W → Calls Tryz.prog g #[grnVal c, cp] W fun e w' => e = .returned (.bool (f c)) ∧ Keep W w') :
    Calls Tryz.prog 167 #[.slice p l.length cap, .func (.func g) #[] #[cp]] w fun e w' => e = .returned (.int .i64 (idxF f l 0)) ∧ Keep w w' := by
  have HC := Lib.hid hc
  have HL := Lib.hid hl
  clear hc hl
  obtain ⟨res, hres⟩ : ∃ res, res = idxF f l 0 := ⟨_, rfl⟩
  rw [← hres]
  have HR : Hid (res = idxF f (l.drop 0) 0) := Lib.hid (by rw [List.drop_zero]; exact hres)
  clear hres
  go_enter Tryz.func167, Tryz.ntmps167
  go_wp2_with fail
  go_loopw [5, 8] (fun _ i wr => ∃ k : Nat, k ≤ l.length ∧ i = .int .i64 (k : Int) ∧ res = idxF f (l.drop k) k ∧ Keep w wr) (fun _ i _ => l.length - (intOf i).toNat)
  case atStart => exact ⟨0, Nat.zero_le _, rfl, HR.out, Keep.refl _⟩
  case round =>
    obtain ⟨k, hk, rfl, hfi, hK⟩ := hrel
    have HFI := Lib.hid hfi
    have KW := Lib.hid hK
    clear hfi hK
    by_cases hlt : k < l.length
    · have hki : (k : Int) < (l.length : Int) := by omega
      obtain ⟨x, hx⟩ : ∃ x, l[k]? = some x := ⟨_, List.getElem?_eq_getElem hlt⟩
      have HX := Lib.hid hx
      have CC := Lib.hid (HC.out x wr (List.mem_of_getElem? hx) KW.out)
      unfold grnVal at CC
      clear hx
      obtain ⟨b, off, cap', e0, hcap, n0⟩ := SlAt.cellOf grnRow_length HL.out HX.out (j := 0) (x := .string x.comp) rfl
      cases e0
      obtain ⟨b1, off1, cap1, e1, _, n1⟩ := SlAt.cellOf grnRow_length HL.out HX.out (j := 1) (x := .string x.share) rfl
      cases e1
      obtain ⟨b2, off2, cap2, e2, _, n2⟩ := SlAt.cellOf grnRow_length HL.out HX.out (j := 2) (x := .int .u16 x.perm) rfl
      cases e2
      replace n0 := KW.out.cellOf n0
      replace n1 := KW.out.cellOf n1
      replace n2 := KW.out.cellOf n2
      rw [Nat.add_zero] at n0
      rw [← Nat.add_assoc] at n1
      rw [← Nat.add_assoc] at n2
      obtain ⟨y, hy⟩ : ∃ y, f x = y := ⟨_, rfl⟩
      rw [hy] at CC
      cases y with
      | true =>
        have HN := Lib.hid (HFI.out.trans (idxF_hit HX.out hy))
        clear hy
        go_wp2_with fail
        go_at_fn g
        refine CC.out.mono ?_
        rintro e w2 ⟨rfl, hk2⟩
        have HK2 := Lib.hid (KW.out.trans hk2)
        clear hk2
        go_wp2_with fail
        go_ret
        exact ⟨by rw [HN.out]; rfl, HK2.out⟩
      | false =>
        have HN := Lib.hid (HFI.out.trans (idxF_go HX.out hy))
        clear hy
        go_wp2_with fail
        go_at_fn g
        refine CC.out.mono ?_
        rintro e w2 ⟨rfl, hk2⟩
        have HK2 := Lib.hid (KW.out.trans hk2)
        clear hk2
        go_wp2_with fail
        go_roundw
        case rel => exact ⟨k + 1, hlt, by go_num, HN.out, HK2.out⟩
        case measure => simp [intOf]; omega
    · obtain rfl : k = l.length := by omega
      have HN : Hid (res = -1) := Lib.hid (HFI.out.trans (idxF_none (Nat.le_refl _)))
      go_wp2_with fail
      go_ret
      exact ⟨by rw [HN.out]; rfl, KW.out⟩

theorem pidxC1_any (c : CompV) (b : Nat) (n : ByteArray) (w : World) (hB : Box w b #[.string n]) : Calls Tryz.prog 127 #[compVal c, .pointer (some ⟨b, 0, none⟩)] w fun e w' => e = .returned (.bool (decide (c.name = n))) ∧ Keep w w' := by
  unfold compVal
  have c1 := fun o => (hB.alloc o).cells
  rw [← mstr_beq]
  clear hB
  go_enter Tryz.func127, Tryz.ntmps127
  go_wp2_with fail
  go_ret
  exact ⟨rfl, (Keep.refl _).alloc _⟩

theorem pidxS1_any (c : CompV) (b : Nat) (n : ByteArray) (w : World) (hB : Box w b #[.string n]) : Calls Tryz.prog 180 #[compVal c, .pointer (some ⟨b, 0, none⟩)] w fun e w' => e = .returned (.bool (decide (c.name = n))) ∧ Keep w w' := by
  unfold compVal
  have c1 := fun o => (hB.alloc o).cells
  rw [← mstr_beq]
  clear hB
  go_enter Tryz.func180, Tryz.ntmps180
  go_wp2_with fail
  go_ret
  exact ⟨rfl, (Keep.refl _).alloc _⟩

set_option maxHeartbeats 4000000 in
set_option maxRecDepth 100000 in
theorem pindexM_any (m : ManV) (vc vi vs vg : Value) (n : ByteArray) (w : World) (h : ManAt w m vc vi vs vg) (few : m.comps.length ≤ 1000000) :
    Calls Tryz.prog 80 #[manVal m vc vi vs vg, .string n] w fun e w' => e = .returned (.int .i64 (idxL m.comps n 0)) ∧ Keep w w' := by
  have HS := h.comps
  obtain ⟨p, cap, rfl, _, _, _⟩ := h.comps
  unfold manVal
  clear h
  obtain ⟨W0, hW0⟩ : ∃ W0, W0 = (w.alloc (.cells #[.slice p m.comps.length cap, vi, vs, vg, .string m.start.comp, .string m.start.from_, .string m.start.name] 29)).alloc (.cells #[.string n] 9) := ⟨_, rfl⟩
  have K0 : Hid (Keep w W0) := Lib.hid (by rw [hW0]; exact ((Keep.refl _).alloc _).alloc _)
  have B1 : Hid (Box W0 (w.heap.size + 1) #[.string n]) := Lib.hid (by rw [hW0]; exact Box.new1 _ _ _ _)
  have C := Lib.hid (pidxC_any m.comps p cap 127 (.pointer (some ⟨w.heap.size + 1, 0, none⟩)) (fun c => decide (c.name = n)) W0 few (HS.keep K0.out) (enters_of Tryz.func127 (by kernel_rfl) rfl) (fun c W _ hk => pidxC1_any c (w.heap.size + 1) n W (B1.out.keep hk)))
  have EI := Lib.hid (idxL_F n m.comps 0)
  clear HS
  go_enter Tryz.func80, Tryz.ntmps80
  go_wp2_with fail
  rw [← hW0]
  refine C.out.mono ?_
  rintro e w1 ⟨rfl, hk⟩
  have HK := Lib.hid (K0.out.trans hk)
  clear hk hW0
  go_wp2_with fail
  go_ret
  exact ⟨by rw [EI.out]; rfl, HK.out⟩

set_option maxHeartbeats 4000000 in
set_option maxRecDepth 100000 in
theorem pshareIdx_any (m : ManV) (vc vi vs vg : Value) (n : ByteArray) (w : World) (h : ManAt w m vc vi vs vg) (few : m.shrs.length ≤ 1000000) :
    Calls Tryz.prog 151 #[manVal m vc vi vs vg, .string n] w fun e w' => e = .returned (.int .i64 (idxL m.shrs n 0)) ∧ Keep w w' := by
  have HS := h.shrs
  obtain ⟨p, cap, rfl, _, _, _⟩ := h.shrs
  unfold manVal
  clear h
  obtain ⟨W0, hW0⟩ : ∃ W0, W0 = (w.alloc (.cells #[vc, vi, .slice p m.shrs.length cap, vg, .string m.start.comp, .string m.start.from_, .string m.start.name] 29)).alloc (.cells #[.string n] 9) := ⟨_, rfl⟩
  have K0 : Hid (Keep w W0) := Lib.hid (by rw [hW0]; exact ((Keep.refl _).alloc _).alloc _)
  have B1 : Hid (Box W0 (w.heap.size + 1) #[.string n]) := Lib.hid (by rw [hW0]; exact Box.new1 _ _ _ _)
  have C := Lib.hid (pidxS_any m.shrs p cap 180 (.pointer (some ⟨w.heap.size + 1, 0, none⟩)) (fun c => decide (c.name = n)) W0 few (HS.keep K0.out) (enters_of Tryz.func180 (by kernel_rfl) rfl) (fun c W _ hk => pidxS1_any c (w.heap.size + 1) n W (B1.out.keep hk)))
  have EI := Lib.hid (idxL_F n m.shrs 0)
  clear HS
  go_enter Tryz.func151, Tryz.ntmps151
  go_wp2_with fail
  rw [← hW0]
  refine C.out.mono ?_
  rintro e w1 ⟨rfl, hk⟩
  have HK := Lib.hid (K0.out.trans hk)
  clear hk hW0
  go_wp2_with fail
  go_ret
  exact ⟨by rw [EI.out]; rfl, HK.out⟩
end Go.Proofs.YtbmjnfnekmeegaaGreatDoor

/- The program's man: fault, permWord, room; what a list's first hit says. -/
namespace Go.Proofs.YtbmjnfnekmeegaaGreatDoor
set_option linter.unusedVariables false
set_option linter.unusedSimpArgs false
open Go.RowKit
/-! ### Plain -/
theorem idxF_neg {α : Type} {f : α → Bool} : ∀ (l : List α) (k : Nat), decide (idxF f l k < 0) = !l.any f
  | [], k => by rfl
  | y :: r, k => by
    unfold idxF
    rw [List.any_cons]
    by_cases hy : f y = true
    · rw [if_pos hy, hy, Bool.true_or]
      apply decide_eq_false; omega
    · rw [if_neg hy, (Bool.not_eq_true _).mp hy, Bool.false_or, idxF_neg r (k + 1)]
theorem idxL_neg (l : List CompV) (n : ByteArray) : decide (idxL l n 0 < 0) = !hasC l n := by
  rw [idxL_F, idxF_neg]; rfl
theorem idxL_lt {l : List CompV} {i : Nat} {c : CompV} (h : l[i]? = some c) : decide (idxL l c.name 0 < (i : Int)) = hasC (l.take i) c.name := by
  rw [idxL_F]
  have := idxF_lt (f := fun d => decide (d.name = c.name)) l 0 i c h (decide_eq_true rfl)
  rw [Nat.zero_add] at this
  exact this
/-- A Perm in words: of none that may be, nothing. -/
def permS (p : Int) : ByteArray := if p = 1 then bsL [114] else if p = 2 then bsL [119] else if p = 3 then bsL [114, 119] else ⟨#[]⟩
/-! ### fault, permWord -/
theorem mfault_any (part : ByteArray) (at_ n : Int) (w : World) :
    Calls Tryz.prog 144 #[.string part, .int .i64 at_, .int .i64 n] w fun e w' => ∃ q, e = .returned (faultP q) ∧ w.heap.size ≤ q ∧ Box w' q #[.string part, .int .i64 at_, .iface 139 (.int .i64 n)] ∧ Keep w w' := by
  unfold faultP
  go_enter Tryz.func144, Tryz.ntmps144
  go_wp2_with fail
  go_ret
  exact ⟨_, rfl, Nat.le_refl _, Box.new _ _ _, (Keep.refl _).alloc _⟩
theorem mpermWord_any (p : Int) (w : World) : Calls Tryz.prog 182 #[.int .u16 p] w fun e w' => e = .returned (.string (permS p)) ∧ w = w' := by
  unfold permS
  by_cases h1 : p = 1
  · subst h1
    rw [if_pos rfl]
    go_enter Tryz.func182, Tryz.ntmps182
    go_wp2_with fail
    go_ret
    exact ⟨rfl, rfl⟩
  have q1 : (p == 1) = false := beq_eq_false_iff_ne.2 h1
  by_cases h2 : p = 2
  · subst h2
    rw [if_neg h1, if_pos rfl]
    go_enter Tryz.func182, Tryz.ntmps182
    go_wp2_with fail
    go_ret
    exact ⟨rfl, rfl⟩
  have q2 : (p == 2) = false := beq_eq_false_iff_ne.2 h2
  by_cases h3 : p = 3
  · subst h3
    rw [if_neg h1, if_neg h2, if_pos rfl]
    go_enter Tryz.func182, Tryz.ntmps182
    go_wp2_with fail
    go_ret
    exact ⟨rfl, rfl⟩
  have q3 : (p == 3) = false := beq_eq_false_iff_ne.2 h3
  rw [if_neg h1, if_neg h2, if_neg h3]
  go_enter Tryz.func182, Tryz.ntmps182
  go_wp2_with fail
  go_ret
  exact ⟨rfl, rfl⟩
/-! ### room -/
theorem mroom_any (n : ByteArray) (tw : Bool) (z : Int) (hn : n.size ≤ 140737488355328) (hz : 0 ≤ z) (hz2 : z < 4294967296) (w : World) :
    Calls Tryz.prog 147 #[.string n, .bool tw, .int .u32 z] w fun e w' => e = .returned (.int .i64 (sizedE n tw z)) ∧ w = w' := by
  have CG := Lib.hid (fun W => pname_any n hn W)
  unfold sizedE
  clear hn
  cases g : goodB n with
  | false =>
    rw [g] at CG
    rw [if_pos rfl]
    go_enter Tryz.func147, Tryz.ntmps147
    go_wp2_with ((with_reducible refine (CG.out _).mono ?_); rintro e w' ⟨rfl, rfl⟩)
    go_ret
    exact ⟨rfl, rfl⟩
  | true =>
    rw [g] at CG
    rw [if_neg (by decide)]
    cases tw with
    | true =>
      rw [if_pos rfl]
      go_enter Tryz.func147, Tryz.ntmps147
      go_wp2_with ((with_reducible refine (CG.out _).mono ?_); rintro e w' ⟨rfl, rfl⟩)
      go_ret
      exact ⟨rfl, rfl⟩
    | false =>
      rw [if_neg (by decide)]
      by_cases h16 : z % 16 = 0
      rotate_left
      · have q : (z % 16 != 0) = true := by simpa using h16
        rw [if_pos h16]
        go_enter Tryz.func147, Tryz.ntmps147
        go_wp2_with ((with_reducible refine (CG.out _).mono ?_); rintro e w' ⟨rfl, rfl⟩)
        go_ret
        exact ⟨rfl, rfl⟩
      have q : (z % 16 != 0) = false := by simpa using h16
      rw [if_neg (by simpa using h16)]
      by_cases h0 : z = 0
      · subst h0
        rw [show (if (0 : Int) = 0 ∨ (4096 : Int) < 0 then (14 : Int) else 0) = 14 from rfl]
        go_enter Tryz.func147, Tryz.ntmps147
        go_wp2_with ((with_reducible refine (CG.out _).mono ?_); rintro e w' ⟨rfl, rfl⟩)
        go_ret
        exact ⟨rfl, rfl⟩
      have q0 : (z == 0) = false := beq_eq_false_iff_ne.2 h0
      by_cases h4 : 4096 < z
      · have q4 : decide ((4096 : Int) < z) = true := decide_eq_true h4
        rw [if_pos (.inr h4)]
        go_enter Tryz.func147, Tryz.ntmps147
        go_wp2_with ((with_reducible refine (CG.out _).mono ?_); rintro e w' ⟨rfl, rfl⟩)
        go_ret
        exact ⟨rfl, rfl⟩
      · have q4 : decide ((4096 : Int) < z) = false := decide_eq_false h4
        rw [if_neg (by rintro (h | h); exact h0 h; exact h4 h)]
        go_enter Tryz.func147, Tryz.ntmps147
        go_wp2_with ((with_reducible refine (CG.out _).mono ?_); rintro e w' ⟨rfl, rfl⟩)
        go_ret
        exact ⟨rfl, rfl⟩
end Go.Proofs.YtbmjnfnekmeegaaGreatDoor
