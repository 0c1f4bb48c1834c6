/- The program's Index, shareIndex; slices.IndexFunc of comps, shares, grants, whatever is asked of each; slices.Index of imports. -/
import Derived.Test.YteddflbidafebaaGreatDoorManAt
import Derived.Test.YteddflbidafebaaGreatDoorGBase
import Derived.Shelf.Abstract
import Derived.Laws.StructEq
namespace Go.Proofs.YteddflbidafebaaGreatDoor
set_option linter.unusedVariables false
set_option linter.unusedSimpArgs false
open Go.RowKit
/-- The first of a list of which something holds; -1: none. -/
def idxF {α : Type} (f : α → Bool) : List α → Nat → Int
  | [], _ => -1
  | x :: r, i => if f x = true then (i : Int) else idxF f r (i + 1)
theorem idxF_go {α : Type} {f : α → Bool} {l : List α} {k : Nat} {x : α} (h : l[k]? = some x) (hf : f x = false) : idxF f (l.drop k) k = idxF f (l.drop (k + 1)) (k + 1) := by
  obtain ⟨hk, rfl⟩ := List.getElem?_eq_some_iff.1 h
  rw [List.drop_eq_getElem_cons hk]
  show (if f l[k] = true then (k : Int) else idxF f (l.drop (k + 1)) (k + 1)) = _
  rw [if_neg (by rw [hf]; decide)]
theorem idxF_hit {α : Type} {f : α → Bool} {l : List α} {k : Nat} {x : α} (h : l[k]? = some x) (hf : f x = true) : idxF f (l.drop k) k = (k : Int) := by
  obtain ⟨hk, rfl⟩ := List.getElem?_eq_some_iff.1 h
  rw [List.drop_eq_getElem_cons hk]
  show (if f l[k] = true then (k : Int) else idxF f (l.drop (k + 1)) (k + 1)) = _
  rw [if_pos hf]
theorem idxF_none {α : Type} {f : α → Bool} {l : List α} {k : Nat} (h : l.length ≤ k) : idxF f (l.drop k) k = -1 := by
  rw [List.drop_eq_nil_of_le h]; rfl
theorem idxL_F (n : ByteArray) : ∀ (l : List CompV) (i : Nat), idxL l n i = idxF (fun c => decide (c.name = n)) l i
  | [], _ => rfl
  | c :: r, i => by
    unfold idxL idxF
    rw [idxL_F n r (i + 1)]
    by_cases h : c.name = n
    · rw [if_pos h, if_pos (decide_eq_true h)]
    · rw [if_neg h, if_neg (by simpa using h)]
theorem mstr_beq (a b : ByteArray) : (a.toList == b.toList) = decide (a = b) := by
  by_cases h : a = b
  · subst h; simp
  · rw [decide_eq_false h]
    apply beq_eq_false_iff_ne.2
    intro e
    apply h
    apply ByteArray.ext
    apply Array.ext'
    rw [← ByteArray.toList_eq, ← ByteArray.toList_eq]; exact e
def compVal (c : CompV) : Value := .agg #[.string c.name, .int .u32 c.stack]
def impVal (c : ImpV) : Value := .agg #[.string c.comp, .string c.from_, .string c.name]
def grnVal (c : GrnV) : Value := .agg #[.string c.comp, .string c.share, .int .u16 c.perm]
theorem impRow_length (c : ImpV) : (impRow c).length = 3 := rfl

set_option maxHeartbeats 4000000 in
set_option maxRecDepth 100000 in
theorem pidxC_any (l : List CompV) (p : Option Addr) (cap : Nat) (g : FuncId) (cp : Value) (f : CompV → Bool) (w : World) (few : l.length ≤ 1000000) (hl : SlAt w (.slice p l.length cap) l.length (l.flatMap compRow)) (he : ∀ args w, (callFunc g args).run Tryz.prog w = .ok (.enter g args) w)
    (hc : ∀ (c : CompV) (W : World), c ∈ l → Keep w W → Calls Tryz.prog g #[compVal c, cp] W fun e w' => e = .returned (.bool (f c)) ∧ Keep W w') :
    Calls Tryz.prog 23 #[.slice p l.length cap, .func (.func g) #[] #[cp]] w fun e w' => e = .returned (.int .i64 (idxF f l 0)) ∧ Keep w w' := by
  have HC := Lib.hid hc
  have HL := Lib.hid hl
  clear hc hl
  obtain ⟨res, hres⟩ : ∃ res, res = idxF f l 0 := ⟨_, rfl⟩
  rw [← hres]
  have HR : Hid (res = idxF f (l.drop 0) 0) := Lib.hid (by rw [List.drop_zero]; exact hres)
  clear hres
  go_enter Tryz.func23, Tryz.ntmps23
  go_wp2_with fail
  go_loopw [5, 8] (fun _ i wr => ∃ k : Nat, k ≤ l.length ∧ i = .int .i64 (k : Int) ∧ res = idxF f (l.drop k) k ∧ Keep w wr) (fun _ i _ => l.length - (intOf i).toNat)
  case atStart => exact ⟨0, Nat.zero_le _, rfl, HR.out, Keep.refl _⟩
  case round =>
    obtain ⟨k, hk, rfl, hfi, hK⟩ := hrel
    have HFI := Lib.hid hfi
    have KW := Lib.hid hK
    clear hfi hK
    by_cases hlt : k < l.length
    · have hki : (k : Int) < (l.length : Int) := by omega
      obtain ⟨x, hx⟩ : ∃ x, l[k]? = some x := ⟨_, List.getElem?_eq_getElem hlt⟩
      have HX := Lib.hid hx
      have CC := Lib.hid (HC.out x wr (List.mem_of_getElem? hx) KW.out)
      unfold compVal at CC
      clear hx
      obtain ⟨b, off, cap', e0, hcap, n0⟩ := SlAt.cellOf compRow_length HL.out HX.out (j := 0) (x := .string x.name) rfl
      cases e0
      obtain ⟨b1, off1, cap1, e1, _, n1⟩ := SlAt.cellOf compRow_length HL.out HX.out (j := 1) (x := .int .u32 x.stack) rfl
      cases e1
      replace n0 := KW.out.cellOf n0
      replace n1 := KW.out.cellOf n1
      rw [Nat.add_zero] at n0
      rw [← Nat.add_assoc] at n1
      obtain ⟨y, hy⟩ : ∃ y, f x = y := ⟨_, rfl⟩
      rw [hy] at CC
      cases y with
      | true =>
        have HN := Lib.hid (HFI.out.trans (idxF_hit HX.out hy))
        clear hy
        go_wp2_with fail
        go_at_fn g
        refine CC.out.mono ?_
        rintro e w2 ⟨rfl, hk2⟩
        have HK2 := Lib.hid (KW.out.trans hk2)
        clear hk2
        go_wp2_with fail
        go_ret
        exact ⟨by rw [HN.out]; rfl, HK2.out⟩
      | false =>
        have HN := Lib.hid (HFI.out.trans (idxF_go HX.out hy))
        clear hy
        go_wp2_with fail
        go_at_fn g
        refine CC.out.mono ?_
        rintro e w2 ⟨rfl, hk2⟩
        have HK2 := Lib.hid (KW.out.trans hk2)
        clear hk2
        go_wp2_with fail
        go_roundw
        case rel => exact ⟨k + 1, hlt, by go_num, HN.out, HK2.out⟩
        case measure => simp [intOf]; omega
    · obtain rfl : k = l.length := by omega
      have HN : Hid (res = -1) := Lib.hid (HFI.out.trans (idxF_none (Nat.le_refl _)))
      go_wp2_with fail
      go_ret
      exact ⟨by rw [HN.out]; rfl, KW.out⟩

set_option maxHeartbeats 4000000 in
set_option maxRecDepth 100000 in
theorem pidxS_any (l : List CompV) (p : Option Addr) (cap : Nat) (g : FuncId) (cp : Value) (f : CompV → Bool) (w : World) (few : l.length ≤ 1000000) (hl : SlAt w (.slice p l.length cap) l.length (l.flatMap compRow)) (he : ∀ args w, (callFunc g args).run Tryz.prog w = .ok (.enter g args) w)
    (hc : ∀ (c : CompV) (W : World), c ∈ l → Keep w W → Calls Tryz.prog g #[compVal c, cp] W fun e w' => e = .returned (.bool (f c)) ∧ Keep W w') :
    Calls Tryz.prog 68 #[.slice p l.length cap, .func (.func g) #[] #[cp]] w fun e w' => e = .returned (.int .i64 (idxF f l 0)) ∧ Keep w w' := by
  have HC := Lib.hid hc
  have HL := Lib.hid hl
  clear hc hl
  obtain ⟨res, hres⟩ : ∃ res, res = idxF f l 0 := ⟨_, rfl⟩
  rw [← hres]
  have HR : Hid (res = idxF f (l.drop 0) 0) := Lib.hid (by rw [List.drop_zero]; exact hres)
  clear hres
  go_enter Tryz.func68, Tryz.ntmps68
  go_wp2_with fail
  go_loopw [5, 8] (fun _ i wr => ∃ k : Nat, k ≤ l.length ∧ i = .int .i64 (k : Int) ∧ res = idxF f (l.drop k) k ∧ Keep w wr) (fun _ i _ => l.length - (intOf i).toNat)
  case atStart => exact ⟨0, Nat.zero_le _, rfl, HR.out, Keep.refl _⟩
  case round =>
    obtain ⟨k, hk, rfl, hfi, hK⟩ := hrel
    have HFI := Lib.hid hfi
    have KW := Lib.hid hK
    clear hfi hK
    by_cases hlt : k < l.length
    · have hki : (k : Int) < (l.length : Int) := by omega
      obtain ⟨x, hx⟩ : ∃ x, l[k]? = some x := ⟨_, List.getElem?_eq_getElem hlt⟩
      have HX := Lib.hid hx
      have CC := Lib.hid (HC.out x wr (List.mem_of_getElem? hx) KW.out)
      unfold compVal at CC
      clear hx
      obtain ⟨b, off, cap', e0, hcap, n0⟩ := SlAt.cellOf compRow_length HL.out HX.out (j := 0) (x := .string x.name) rfl
      cases e0
      obtain ⟨b1, off1, cap1, e1, _, n1⟩ := SlAt.cellOf compRow_length HL.out HX.out (j := 1) (x := .int .u32 x.stack) rfl
      cases e1
      replace n0 := KW.out.cellOf n0
      replace n1 := KW.out.cellOf n1
      rw [Nat.add_zero] at n0
      rw [← Nat.add_assoc] at n1
      obtain ⟨y, hy⟩ : ∃ y, f x = y := ⟨_, rfl⟩
      rw [hy] at CC
      cases y with
      | true =>
        have HN := Lib.hid (HFI.out.trans (idxF_hit HX.out hy))
        clear hy
        go_wp2_with fail
        go_at_fn g
        refine CC.out.mono ?_
        rintro e w2 ⟨rfl, hk2⟩
        have HK2 := Lib.hid (KW.out.trans hk2)
        clear hk2
        go_wp2_with fail
        go_ret
        exact ⟨by rw [HN.out]; rfl, HK2.out⟩
      | false =>
        have HN := Lib.hid (HFI.out.trans (idxF_go HX.out hy))
        clear hy
        go_wp2_with fail
        go_at_fn g
        refine CC.out.mono ?_
        rintro e w2 ⟨rfl, hk2⟩
        have HK2 := Lib.hid (KW.out.trans hk2)
        clear hk2
        go_wp2_with fail
        go_roundw
        case rel => exact ⟨k + 1, hlt, by go_num, HN.out, HK2.out⟩
        case measure => simp [intOf]; omega
    · obtain rfl : k = l.length := by omega
      have HN : Hid (res = -1) := Lib.hid (HFI.out.trans (idxF_none (Nat.le_refl _)))
      go_wp2_with fail
      go_ret
      exact ⟨by rw [HN.out]; rfl, KW.out⟩

set_option maxHeartbeats 4000000 in
set_option maxRecDepth 100000 in
theorem pidxG_any (l : List GrnV) (p : Option Addr) (cap : Nat) (g : FuncId) (cp : Value) (f : GrnV → Bool) (w : World) (few : l.length ≤ 1000000) (hl : SlAt w (.slice p l.length cap) l.length (l.flatMap grnRow)) (he : ∀ args w, (callFunc g args).run Tryz.prog w = .ok (.enter g args) w)
    (hc : ∀ (c : GrnV) (W : World), c ∈ l → Keep w W → Calls Tryz.prog g #[grnVal c, cp] W fun e w' => e = .returned (.bool (f c)) ∧ Keep W w') :
    Calls Tryz.prog 71 #[.slice p l.length cap, .func (.func g) #[] #[cp]] w fun e w' => e = .returned (.int .i64 (idxF f l 0)) ∧ Keep w w' := by
  have HC := Lib.hid hc
  have HL := Lib.hid hl
  clear hc hl
  obtain ⟨res, hres⟩ : ∃ res, res = idxF f l 0 := ⟨_, rfl⟩
  rw [← hres]
  have HR : Hid (res = idxF f (l.drop 0) 0) := Lib.hid (by rw [List.drop_zero]; exact hres)
  clear hres
  go_enter Tryz.func71, Tryz.ntmps71
  go_wp2_with fail
  go_loopw [5, 8] (fun _ i wr => ∃ k : Nat, k ≤ l.length ∧ i = .int .i64 (k : Int) ∧ res = idxF f (l.drop k) k ∧ Keep w wr) (fun _ i _ => l.length - (intOf i).toNat)
  case atStart => exact ⟨0, Nat.zero_le _, rfl, HR.out, Keep.refl _⟩
  case round =>
    obtain ⟨k, hk, rfl, hfi, hK⟩ := hrel
    have HFI := Lib.hid hfi
    have KW := Lib.hid hK
    clear hfi hK
    by_cases hlt : k < l.length
    · have hki : (k : Int) < (l.length : Int) := by omega
      obtain ⟨x, hx⟩ : ∃ x, l[k]? = some x := ⟨_, List.getElem?_eq_getElem hlt⟩
      have HX := Lib.hid hx
      have CC := Lib.hid (HC.out x wr (List.mem_of_getElem? hx) KW.out)
      unfold grnVal at CC
      clear hx
      obtain ⟨b, off, cap', e0, hcap, n0⟩ := SlAt.cellOf grnRow_length HL.out HX.out (j := 0) (x := .string x.comp) rfl
      cases e0
      obtain ⟨b1, off1, cap1, e1, _, n1⟩ := SlAt.cellOf grnRow_length HL.out HX.out (j := 1) (x := .string x.share) rfl
      cases e1
      obtain ⟨b2, off2, cap2, e2, _, n2⟩ := SlAt.cellOf grnRow_length HL.out HX.out (j := 2) (x := .int .u16 x.perm) rfl
      cases e2
      replace n0 := KW.out.cellOf n0
      replace n1 := KW.out.cellOf n1
      replace n2 := KW.out.cellOf n2
      rw [Nat.add_zero] at n0
      rw [← Nat.add_assoc] at n1
      rw [← Nat.add_assoc] at n2
      obtain ⟨y, hy⟩ : ∃ y, f x = y := ⟨_, rfl⟩
      rw [hy] at CC
      cases y with
      | true =>
        have HN := Lib.hid (HFI.out.trans (idxF_hit HX.out hy))
        clear hy
        go_wp2_with fail
        go_at_fn g
        refine CC.out.mono ?_
        rintro e w2 ⟨rfl, hk2⟩
        have HK2 := Lib.hid (KW.out.trans hk2)
        clear hk2
        go_wp2_with fail
        go_ret
        exact ⟨by rw [HN.out]; rfl, HK2.out⟩
      | false =>
        have HN := Lib.hid (HFI.out.trans (idxF_go HX.out hy))
        clear hy
        go_wp2_with fail
        go_at_fn g
        refine CC.out.mono ?_
        rintro e w2 ⟨rfl, hk2⟩
        have HK2 := Lib.hid (KW.out.trans hk2)
        clear hk2
        go_wp2_with fail
        go_roundw
        case rel => exact ⟨k + 1, hlt, by go_num, HN.out, HK2.out⟩
        case measure => simp [intOf]; omega
    · obtain rfl : k = l.length := by omega
      have HN : Hid (res = -1) := Lib.hid (HFI.out.trans (idxF_none (Nat.le_refl _)))
      go_wp2_with fail
      go_ret
      exact ⟨by rw [HN.out]; rfl, KW.out⟩

theorem pidxC1_any (c : CompV) (b : Nat) (n : ByteArray) (w : World) (hB : Box w b #[.string n]) : Calls Tryz.prog 24 #[compVal c, .pointer (some ⟨b, 0, none⟩)] w fun e w' => e = .returned (.bool (decide (c.name = n))) ∧ Keep w w' := by
  unfold compVal
  have c1 := fun o => (hB.alloc o).cells
  rw [← mstr_beq]
  clear hB
  go_enter Tryz.func24, Tryz.ntmps24
  go_wp2_with fail
  go_ret
  exact ⟨rfl, (Keep.refl _).alloc _⟩

theorem pidxS1_any (c : CompV) (b : Nat) (n : ByteArray) (w : World) (hB : Box w b #[.string n]) : Calls Tryz.prog 69 #[compVal c, .pointer (some ⟨b, 0, none⟩)] w fun e w' => e = .returned (.bool (decide (c.name = n))) ∧ Keep w w' := by
  unfold compVal
  have c1 := fun o => (hB.alloc o).cells
  rw [← mstr_beq]
  clear hB
  go_enter Tryz.func69, Tryz.ntmps69
  go_wp2_with fail
  go_ret
  exact ⟨rfl, (Keep.refl _).alloc _⟩

set_option maxHeartbeats 4000000 in
set_option maxRecDepth 100000 in
theorem pindexM_any (m : ManV) (vc vi vs vg : Value) (n : ByteArray) (w : World) (h : ManAt w m vc vi vs vg) (few : m.comps.length ≤ 1000000) :
    Calls Tryz.prog 9 #[manVal m vc vi vs vg, .string n] w fun e w' => e = .returned (.int .i64 (idxL m.comps n 0)) ∧ Keep w w' := by
  have HS := h.comps
  obtain ⟨p, cap, rfl, _, _, _⟩ := h.comps
  unfold manVal
  clear h
  obtain ⟨W0, hW0⟩ : ∃ W0, W0 = (w.alloc (.cells #[.slice p m.comps.length cap, vi, vs, vg, .string m.start.comp, .string m.start.from_, .string m.start.name] 34)).alloc (.cells #[.string n] 9) := ⟨_, rfl⟩
  have K0 : Hid (Keep w W0) := Lib.hid (by rw [hW0]; exact ((Keep.refl _).alloc _).alloc _)
  have B1 : Hid (Box W0 (w.heap.size + 1) #[.string n]) := Lib.hid (by rw [hW0]; exact Box.new1 _ _ _ _)
  have C := Lib.hid (pidxC_any m.comps p cap 24 (.pointer (some ⟨w.heap.size + 1, 0, none⟩)) (fun c => decide (c.name = n)) W0 few (HS.keep K0.out) (enters_of Tryz.func24 (by kernel_rfl) rfl) (fun c W _ hk => pidxC1_any c (w.heap.size + 1) n W (B1.out.keep hk)))
  have EI := Lib.hid (idxL_F n m.comps 0)
  clear HS
  go_enter Tryz.func9, Tryz.ntmps9
  go_wp2_with fail
  rw [← hW0]
  refine C.out.mono ?_
  rintro e w1 ⟨rfl, hk⟩
  have HK := Lib.hid (K0.out.trans hk)
  clear hk hW0
  go_wp2_with fail
  go_ret
  exact ⟨by rw [EI.out]; rfl, HK.out⟩

set_option maxHeartbeats 4000000 in
set_option maxRecDepth 100000 in
theorem pshareIdx_any (m : ManV) (vc vi vs vg : Value) (n : ByteArray) (w : World) (h : ManAt w m vc vi vs vg) (few : m.shrs.length ≤ 1000000) :
    Calls Tryz.prog 49 #[manVal m vc vi vs vg, .string n] w fun e w' => e = .returned (.int .i64 (idxL m.shrs n 0)) ∧ Keep w w' := by
  have HS := h.shrs
  obtain ⟨p, cap, rfl, _, _, _⟩ := h.shrs
  unfold manVal
  clear h
  obtain ⟨W0, hW0⟩ : ∃ W0, W0 = (w.alloc (.cells #[vc, vi, .slice p m.shrs.length cap, vg, .string m.start.comp, .string m.start.from_, .string m.start.name] 34)).alloc (.cells #[.string n] 9) := ⟨_, rfl⟩
  have K0 : Hid (Keep w W0) := Lib.hid (by rw [hW0]; exact ((Keep.refl _).alloc _).alloc _)
  have B1 : Hid (Box W0 (w.heap.size + 1) #[.string n]) := Lib.hid (by rw [hW0]; exact Box.new1 _ _ _ _)
  have C := Lib.hid (pidxS_any m.shrs p cap 69 (.pointer (some ⟨w.heap.size + 1, 0, none⟩)) (fun c => decide (c.name = n)) W0 few (HS.keep K0.out) (enters_of Tryz.func69 (by kernel_rfl) rfl) (fun c W _ hk => pidxS1_any c (w.heap.size + 1) n W (B1.out.keep hk)))
  have EI := Lib.hid (idxL_F n m.shrs 0)
  clear HS
  go_enter Tryz.func49, Tryz.ntmps49
  go_wp2_with fail
  rw [← hW0]
  refine C.out.mono ?_
  rintro e w1 ⟨rfl, hk⟩
  have HK := Lib.hid (K0.out.trans hk)
  clear hk hW0
  go_wp2_with fail
  go_ret
  exact ⟨by rw [EI.out]; rfl, HK.out⟩
end Go.Proofs.YteddflbidafebaaGreatDoor
