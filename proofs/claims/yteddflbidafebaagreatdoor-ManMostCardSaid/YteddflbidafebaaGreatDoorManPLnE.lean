/- The program's line: I to T, I to N, S to S. -/
import Derived.Test.YteddflbidafebaaGreatDoorManPLh
namespace Go.Proofs.YteddflbidafebaaGreatDoor
set_option linter.unusedVariables false
set_option linter.unusedSimpArgs false
open Go.RowKit
set_option maxHeartbeats 8000000 in
set_option maxRecDepth 100000 in
theorem mline_I_T (s : ByteArray) (w : World) (r : Nat) (m : ManV) (vc vi vs vg : Value) (h : RdM w r m ⟨#[105, 109, 112, 111, 114, 116]⟩ vc vi vs vg) (hR : RngV w) (hM : MaxL w) (hL : LowS (RdS r vc vi vs vg)) (hm : ManBig m)
    (cwI : ∀ W, KeepBut (RdS r vc vi vs vg) w W → MaxL W → Calls Tryz.prog 33 #[.string s, .string ⟨#[105, 109, 112, 111, 114, 116]⟩, .int .i64 3] W fun e w' => WordsR W 3 e w' none)
    (cwS : ∀ W, KeepBut (RdS r vc vi vs vg) w W → MaxL W → Calls Tryz.prog 33 #[.string s, .string ⟨#[115, 104, 97, 114, 101]⟩, .int .i64 2] W fun e w' => WordsR W 2 e w' none)
    (cwG : ∀ W, KeepBut (RdS r vc vi vs vg) w W → MaxL W → Calls Tryz.prog 33 #[.string s, .string ⟨#[103, 114, 97, 110, 116]⟩, .int .i64 3] W fun e w' => WordsR W 3 e w' none)
    (a b : List UInt8) (hxl : b.length ≤ 5000) (cwT : ∀ W, KeepBut (RdS r vc vi vs vg) w W → MaxL W → Calls Tryz.prog 33 #[.string s, .string ⟨#[115, 116, 97, 114, 116]⟩, .int .i64 2] W fun e w' => WordsR W 2 e w' (some [a, b])) :
    Calls Tryz.prog 13 #[.pointer (some ⟨r, 0, none⟩), .string s] w (LineR w r (RdS r vc vi vs vg) (.ok ({ m with start := ⟨⟨#[]⟩, bsL a, bsL b⟩ }, 5))) := by
  have P : Hid (LnS w r (RdS r vc vi vs vg) m (rdBox m ⟨#[105, 109, 112, 111, 114, 116]⟩ vc vi vs vg) vc vi vs vg w) := Lib.hid ⟨h, KeepBut.refl _ _, hR, hM⟩
  obtain ⟨res, hres⟩ : ∃ res : Except Int (ManV × Nat), res = (.ok ({ m with start := ⟨⟨#[]⟩, bsL a, bsL b⟩ }, 5)) := ⟨_, rfl⟩
  rw [← hres]
  have HRES := Lib.hid hres
  have HL := Lib.hid hL
  have MB := Lib.hid hm
  have CWI := Lib.hid cwI
  have CWS := Lib.hid cwS
  have CWG := Lib.hid cwG
  have CWT := Lib.hid cwT
  have LB := Lib.hid hxl
  clear h hR hM hL hm hres cwI cwS cwG cwT hxl
  have cr := P.out.rd.bx.cells
  unfold rdBox at cr
  go_enter Tryz.func13, Tryz.ntmps13
  go_wp2_with fail
  clear cr
  refine (CWI.out _ P.out.kb P.out.max).mono ?_
  rintro e w1 hwr
  obtain ⟨hk, v, rfl⟩ := hwr
  have PP := Lib.hid (P.out.keep hk)
  clear P
  have P := Lib.hid PP.out
  clear PP
  clear hk
  go_wp2_with fail
  refine (CWS.out _ P.out.kb P.out.max).mono ?_
  rintro e w1 hwr
  obtain ⟨hk, v, rfl⟩ := hwr
  have PP := Lib.hid (P.out.keep hk)
  clear P
  have P := Lib.hid PP.out
  clear PP
  clear hk
  go_wp2_with fail
  refine (CWG.out _ P.out.kb P.out.max).mono ?_
  rintro e w1 hwr
  obtain ⟨hk, v, rfl⟩ := hwr
  have PP := Lib.hid (P.out.keep hk)
  clear P
  have P := Lib.hid PP.out
  clear PP
  clear hk
  go_wp2_with fail
  refine (CWT.out _ P.out.kb P.out.max).mono ?_
  rintro e w1 hwr
  obtain ⟨hk, g, cap, rfl, hcap, hg, hc⟩ := hwr
  have NS : ¬ RdS r vc vi vs vg g := fun h => by have := P.out.rd.old h; omega
  have PP := Lib.hid (P.out.keep hk)
  clear P
  have P := Lib.hid PP.out
  clear PP
  have WD : Hid (WdS (RdS r vc vi vs vg) g [a, b] w1) := Lib.hid ⟨NS, hc⟩
  have hcap0 : (2 : Int) ≤ (cap : Int) := by omega
  clear hk hg hc NS hcap
  have cr := P.out.rd.bx.cells
  have fr := P.out.rd.bx.thawed
  unfold rdBox at cr
  go_wp2_with fail
  clear cr fr
  have PP := Lib.hid (P.out.set HL.out (.inl rfl) 7 (.string ⟨#[]⟩))
  clear P
  have P := Lib.hid PP.out
  clear PP
  have WD2 := Lib.hid (WD.out.but (setS (.inl rfl) w1 7 (.string ⟨#[]⟩)))
  clear WD
  have WD := Lib.hid WD2.out
  clear WD2
  obtain ⟨WS, hWS⟩ : ∃ WS, WS = w1.setCell ⟨r, 7, none⟩ (.string ⟨#[]⟩) := ⟨_, rfl⟩
  rw [← hWS] at P WD ⊢
  clear hWS
  refine Rel.regionO (KeepBut (RdS r vc vi vs vg)) (butWay _) [11] [0, 1, 2, 3, 4, 5, 6, 7, 8, 9, 10, 11] (by kernel_rfl) (by kernel_rfl) (Keep.refl _) ?_
  repeat (apply Rel.ordK_step (by rfl) (by rfl) (by rfl)
          · intro W' hW'
            have q0 := (WD.out.but hW').cells 0 a rfl
            have q1 := (WD.out.but hW').cells 1 b rfl
            go_simp
            exact ⟨rfl, Keep.refl _⟩
          go_simp)
  apply Rel.ordK_loose (by rfl) (by rfl) (by rfl)
  intro W7 h7
  have PP := Lib.hid (P.out.keep h7)
  clear P
  have P := Lib.hid PP.out
  clear PP
  have c7 := P.out.rd.bx.cells
  have f7 := P.out.rd.bx.thawed
  unfold rdBox at c7
  clear h7
  go_simp
  apply Rel.gives_skip
  refine ⟨((setS (.inl rfl) _ _ _).trans (setS (.inl rfl) _ _ _)).trans (setS (.inl rfl) _ _ _), ?_⟩
  have PP := Lib.hid (((P.out.set HL.out (.inl rfl) 4 (.string ⟨#[]⟩)).set HL.out (.inl rfl) 5 (.string (bsL a))).set HL.out (.inl rfl) 6 (.string (bsL b)))
  clear P
  have P := Lib.hid PP.out
  clear PP
  obtain ⟨W8, hW8⟩ : ∃ W8, W8 = ((W7.setCell ⟨r, 4, none⟩ (.string ⟨#[]⟩)).setCell ⟨r, 5, none⟩ (.string (bsL a))).setCell ⟨r, 6, none⟩ (.string (bsL b)) := ⟨_, rfl⟩
  rw [← hW8] at P ⊢
  clear hW8 c7 f7
  go_simp
  apply Rel.ordK_end
  intro W9 h9
  have PP := Lib.hid (P.out.keep h9)
  clear P
  have P := Lib.hid PP.out
  clear PP
  clear h9
  go_wp2_with fail
  go_ret
  exact LineR.ok (ph' := 5) HRES.out P.out.kb (RdM.of (m := { m with start := ⟨⟨#[]⟩, bsL a, bsL b⟩ }) (kd := ⟨#[]⟩) ⟨P.out.rd.box, P.out.rd.comps, P.out.rd.imps, P.out.rd.shrs, P.out.rd.grns⟩ rfl)
set_option maxHeartbeats 8000000 in
set_option maxRecDepth 100000 in
theorem mline_I_N (s : ByteArray) (w : World) (r : Nat) (m : ManV) (vc vi vs vg : Value) (h : RdM w r m ⟨#[105, 109, 112, 111, 114, 116]⟩ vc vi vs vg) (hR : RngV w) (hM : MaxL w) (hL : LowS (RdS r vc vi vs vg)) (hm : ManBig m)
    (cwI : ∀ W, KeepBut (RdS r vc vi vs vg) w W → MaxL W → Calls Tryz.prog 33 #[.string s, .string ⟨#[105, 109, 112, 111, 114, 116]⟩, .int .i64 3] W fun e w' => WordsR W 3 e w' none)
    (cwS : ∀ W, KeepBut (RdS r vc vi vs vg) w W → MaxL W → Calls Tryz.prog 33 #[.string s, .string ⟨#[115, 104, 97, 114, 101]⟩, .int .i64 2] W fun e w' => WordsR W 2 e w' none)
    (cwG : ∀ W, KeepBut (RdS r vc vi vs vg) w W → MaxL W → Calls Tryz.prog 33 #[.string s, .string ⟨#[103, 114, 97, 110, 116]⟩, .int .i64 3] W fun e w' => WordsR W 3 e w' none)
    (cwT : ∀ W, KeepBut (RdS r vc vi vs vg) w W → MaxL W → Calls Tryz.prog 33 #[.string s, .string ⟨#[115, 116, 97, 114, 116]⟩, .int .i64 2] W fun e w' => WordsR W 2 e w' none) :
    Calls Tryz.prog 13 #[.pointer (some ⟨r, 0, none⟩), .string s] w (LineR w r (RdS r vc vi vs vg) (.error 11)) := by
  have P : Hid (LnS w r (RdS r vc vi vs vg) m (rdBox m ⟨#[105, 109, 112, 111, 114, 116]⟩ vc vi vs vg) vc vi vs vg w) := Lib.hid ⟨h, KeepBut.refl _ _, hR, hM⟩
  obtain ⟨res, hres⟩ : ∃ res : Except Int (ManV × Nat), res = (.error 11) := ⟨_, rfl⟩
  rw [← hres]
  have HRES := Lib.hid hres
  have HL := Lib.hid hL
  have MB := Lib.hid hm
  have CWI := Lib.hid cwI
  have CWS := Lib.hid cwS
  have CWG := Lib.hid cwG
  have CWT := Lib.hid cwT
  clear h hR hM hL hm hres cwI cwS cwG cwT
  have cr := P.out.rd.bx.cells
  unfold rdBox at cr
  go_enter Tryz.func13, Tryz.ntmps13
  go_wp2_with fail
  clear cr
  refine (CWI.out _ P.out.kb P.out.max).mono ?_
  rintro e w1 hwr
  obtain ⟨hk, v, rfl⟩ := hwr
  have PP := Lib.hid (P.out.keep hk)
  clear P
  have P := Lib.hid PP.out
  clear PP
  clear hk
  go_wp2_with fail
  refine (CWS.out _ P.out.kb P.out.max).mono ?_
  rintro e w1 hwr
  obtain ⟨hk, v, rfl⟩ := hwr
  have PP := Lib.hid (P.out.keep hk)
  clear P
  have P := Lib.hid PP.out
  clear PP
  clear hk
  go_wp2_with fail
  refine (CWG.out _ P.out.kb P.out.max).mono ?_
  rintro e w1 hwr
  obtain ⟨hk, v, rfl⟩ := hwr
  have PP := Lib.hid (P.out.keep hk)
  clear P
  have P := Lib.hid PP.out
  clear PP
  clear hk
  go_wp2_with fail
  refine (CWT.out _ P.out.kb P.out.max).mono ?_
  rintro e w1 hwr
  obtain ⟨hk, v, rfl⟩ := hwr
  have PP := Lib.hid (P.out.keep hk)
  clear P
  have P := Lib.hid PP.out
  clear PP
  clear hk
  go_wp2_with fail
  go_ret
  exact LineR.err HRES.out (by decide) P.out.kb
set_option maxHeartbeats 8000000 in
set_option maxRecDepth 100000 in
theorem mline_S_S (s : ByteArray) (w : World) (r : Nat) (m : ManV) (vc vi vs vg : Value) (h : RdM w r m ⟨#[115, 104, 97, 114, 101]⟩ vc vi vs vg) (hR : RngV w) (hM : MaxL w) (hL : LowS (RdS r vc vi vs vg)) (hm : ManBig m)
    (a b : List UInt8) (hxl : b.length ≤ 5000) (cwS : ∀ W, KeepBut (RdS r vc vi vs vg) w W → MaxL W → Calls Tryz.prog 33 #[.string s, .string ⟨#[115, 104, 97, 114, 101]⟩, .int .i64 2] W fun e w' => WordsR W 2 e w' (some [a, b])) :
    Calls Tryz.prog 13 #[.pointer (some ⟨r, 0, none⟩), .string s] w (LineR w r (RdS r vc vi vs vg) (match numD b with | .error e => .error e | .ok n => .ok ({ m with shrs := m.shrs ++ [⟨bsL a, n⟩] }, 3))) := by
  have P : Hid (LnS w r (RdS r vc vi vs vg) m (rdBox m ⟨#[115, 104, 97, 114, 101]⟩ vc vi vs vg) vc vi vs vg w) := Lib.hid ⟨h, KeepBut.refl _ _, hR, hM⟩
  obtain ⟨res, hres⟩ : ∃ res : Except Int (ManV × Nat), res = (match numD b with | .error e => .error e | .ok n => .ok ({ m with shrs := m.shrs ++ [⟨bsL a, n⟩] }, 3)) := ⟨_, rfl⟩
  rw [← hres]
  have HRES := Lib.hid hres
  have HL := Lib.hid hL
  have MB := Lib.hid hm
  have CWS := Lib.hid cwS
  have LB := Lib.hid hxl
  clear h hR hM hL hm hres cwS hxl
  have cr := P.out.rd.bx.cells
  unfold rdBox at cr
  go_enter Tryz.func13, Tryz.ntmps13
  go_wp2_with fail
  clear cr
  refine (CWS.out _ P.out.kb P.out.max).mono ?_
  rintro e w1 hwr
  obtain ⟨hk, g, cap, rfl, hcap, hg, hc⟩ := hwr
  have NS : ¬ RdS r vc vi vs vg g := fun h => by have := P.out.rd.old h; omega
  have PP := Lib.hid (P.out.keep hk)
  clear P
  have P := Lib.hid PP.out
  clear PP
  have WD : Hid (WdS (RdS r vc vi vs vg) g [a, b] w1) := Lib.hid ⟨NS, hc⟩
  have hcap0 : (2 : Int) ≤ (cap : Int) := by omega
  clear hk hg hc NS hcap
  have CN := Lib.hid (fun W (hR : RngV W) => mnumber_any b LB.out W hR)
  obtain ⟨nv1, hv1⟩ : ∃ x, (numV b).1 = x := ⟨_, rfl⟩
  obtain ⟨nv2, hv2⟩ : ∃ x, (numV b).2 = x := ⟨_, rfl⟩
  rw [hv1, hv2] at CN
  have V1 := Lib.hid hv1
  have V2 := Lib.hid hv2
  clear hv1 hv2
  obtain ⟨i0, hi, hz0, hz1, hz2⟩ := info_parts mrowsS
  have cr := P.out.rd.bx.cells
  have fr := P.out.rd.bx.thawed
  unfold rdBox at cr
  have n9 := (WD.out.but (setS (.inl rfl) w1 7 (.string ⟨#[115, 104, 97, 114, 101]⟩))).cells 1 b rfl
  go_wp2_with fail
  clear cr fr n9
  have PP := Lib.hid (P.out.set HL.out (.inl rfl) 7 (.string ⟨#[115, 104, 97, 114, 101]⟩))
  clear P
  have P := Lib.hid PP.out
  clear PP
  have WD2 := Lib.hid (WD.out.but (setS (.inl rfl) w1 7 (.string ⟨#[115, 104, 97, 114, 101]⟩)))
  clear WD
  have WD := Lib.hid WD2.out
  clear WD2
  obtain ⟨WS, hWS⟩ : ∃ WS, WS = w1.setCell ⟨r, 7, none⟩ (.string ⟨#[115, 104, 97, 114, 101]⟩) := ⟨_, rfl⟩
  rw [← hWS] at P WD ⊢
  clear hWS
  refine (CN.out _ P.out.rng).mono ?_
  rintro e w2 ⟨rfl, hk2⟩
  have PP := Lib.hid (P.out.keep hk2)
  clear P
  have P := Lib.hid PP.out
  clear PP
  have WD2 := Lib.hid (WD.out.keep hk2)
  clear WD
  have WD := Lib.hid WD2.out
  clear WD2 hk2
  go_wp2_with fail
  refine Rel.regionP (KeepBut (RdS r vc vi vs vg)) (butWay _) [] [0, 1, 2, 3, 4, 6, 7, 8, 9, 10] 7 (by kernel_rfl) (by kernel_rfl) (Keep.refl _) ?_
  repeat (apply Rel.pre_step (by rfl) (by rfl) (by rfl)
          · intro W' hW'
            have q0 := (WD.out.but hW').cells 0 a rfl
            go_simp
            exact ⟨rfl, Keep.refl _⟩
          go_simp)
  apply Rel.pre_end
  refine Rel.every_two 5 11 (by kernel_rfl) (by rfl) (by rfl) (by rfl) (by rfl) ?_ ?_
  · skip
    intro W1 h1
    have PP := Lib.hid (P.out.keep h1)
    clear P
    have P := Lib.hid PP.out
    clear PP
    have cx := P.out.rd.bx.cells
    unfold rdBox at cx
    go_simp
    apply Rel.gives_value
    refine ⟨KeepBut.refl _ _, ?_⟩
    clear h1 cx
    go_simp
    apply Rel.every_one 11 (by kernel_rfl) (by rfl) (by rfl)
    intro W2 h2
    go_simp
    apply Rel.gives_value
    refine ⟨((Keep.refl _).alloc _).but _, ?_⟩
    have PP := Lib.hid (P.out.keep (h2.alloc (.cells #[.string (bsL a), .int .u32 nv1] 74)))
    clear P
    have P := Lib.hid PP.out
    clear PP
    have BZ := Lib.hid (Box.new W2 #[.string (bsL a), .int .u32 nv1] 74)
    obtain ⟨gb, hgb⟩ : ∃ gb, gb = W2.heap.size := ⟨_, rfl⟩
    rw [← hgb] at BZ ⊢
    obtain ⟨WB, hWB⟩ : ∃ WB, WB = W2.alloc (.cells #[.string (bsL a), .int .u32 nv1] 74) := ⟨_, rfl⟩
    rw [← hWB] at P BZ ⊢
    clear hWB hgb h2
    go_simp
    apply Rel.every_one 12 (by kernel_rfl) (by rfl) (by rfl)
    intro W4 h4
    have PP := Lib.hid (P.out.keep h4)
    clear P
    have P := Lib.hid PP.out
    clear PP
    have B4 := BZ.out.keep h4
    clear h4
    refine gives_append W4 (.tmp 116) (.tmp 122) 29 rfl (r + 1) 74 i0 _ 2 24 Tryz.underlying29 hi hz0 hz1 hz2 rfl (by decide) vs m.shrs.length (m.shrs.flatMap compRow) rfl P.out.rd.shrs ⟨gb, 0, none⟩ 1 1 (compRow ⟨bsL a, nv1⟩) rfl rfl (mcells_box B4 rfl) (by intro u hu; simp [compRow] at hu; rcases hu with rfl | rfl <;> rfl) (by have := MB.out.shrs; unfold maxLen; omega) (by have := MB.out.shrs; omega) (by have := P.out.rd.lt; omega) ?_
    intro v5 V5 o5 g5
    have KG := grown_but g5 (RdS r vc vi vs vg) (fun z hz => .inr (.inr (.inr (.inl hz))))
    refine ⟨KG, ?_⟩
    have PP := Lib.hid (P.out.next HL.out (P.out.rd.addS ⟨bsL a, nv1⟩ g5 o5) KG)
    clear P
    have P := Lib.hid PP.out
    clear PP
    obtain ⟨ao, n', cap5, hv5⟩ : ∃ ao n' cap5, v5 = .slice ao n' cap5 := by
      rcases o5.2 with ⟨hv, _⟩ | ⟨g6, cap6, cur6, hv, _⟩
      · exact ⟨_, _, _, hv⟩
      · exact ⟨_, _, _, hv⟩
    subst hv5
    clear o5 g5 KG B4 BZ
    go_simp
    apply Rel.every_one 13 (by kernel_rfl) (by rfl) (by rfl)
    intro W6 h6
    have PP := Lib.hid (P.out.keep h6)
    clear P
    have P := Lib.hid PP.out
    clear PP
    clear h6
    go_simp
    apply Rel.gives_value
    refine ⟨KeepBut.refl _ _, ?_⟩
    go_simp
    apply Rel.every_one 14 (by kernel_rfl) (by rfl) (by rfl)
    intro W6 h6
    have PP := Lib.hid (P.out.keep h6)
    clear P
    have P := Lib.hid PP.out
    clear PP
    clear h6
    go_simp
    apply Rel.gives_value
    refine ⟨KeepBut.refl _ _, ?_⟩
    go_simp
    apply Rel.every_one 15 (by kernel_rfl) (by rfl) (by rfl)
    intro W6 h6
    have PP := Lib.hid (P.out.keep h6)
    clear P
    have P := Lib.hid PP.out
    clear PP
    clear h6
    go_simp
    apply Rel.gives_value
    refine ⟨KeepBut.refl _ _, ?_⟩
    go_simp
    apply Rel.every_one 16 (by kernel_rfl) (by rfl) (by rfl)
    intro W7 h7
    have PP := Lib.hid (P.out.keep h7)
    clear P
    have P := Lib.hid PP.out
    clear PP
    have c7 := P.out.rd.bx.cells
    have f7 := P.out.rd.bx.thawed
    unfold rdBox at c7
    clear h7
    go_simp
    apply Rel.gives_skip
    refine ⟨setS (.inl rfl) _ _ _, ?_⟩
    have PP := Lib.hid (P.out.set HL.out (.inl rfl) 2 (.slice ao n' cap5))
    clear P
    have P := Lib.hid PP.out
    clear PP
    obtain ⟨W8, hW8⟩ : ∃ W8, W8 = W7.setCell ⟨r, 2, none⟩ (.slice ao n' cap5) := ⟨_, rfl⟩
    rw [← hW8] at P ⊢
    clear hW8 c7 f7
    go_simp
    refine Rel.every_end (by kernel_rfl) ?_
    intro W9 h9
    have PP := Lib.hid (P.out.keep h9)
    clear P
    have P := Lib.hid PP.out
    clear PP
    clear h9
    go_wp2_with fail
    go_ret
    exact LineR.ofNum (f := fun z => { m with shrs := m.shrs ++ [⟨bsL a, z⟩] }) (ph' := 3) V1.out V2.out HRES.out P.out.kb (RdM.of P.out.rd rfl)
  · skip
    intro W2 h2
    go_simp
    apply Rel.gives_value
    refine ⟨((Keep.refl _).alloc _).but _, ?_⟩
    have PP := Lib.hid (P.out.keep (h2.alloc (.cells #[.string (bsL a), .int .u32 nv1] 74)))
    clear P
    have P := Lib.hid PP.out
    clear PP
    have BZ := Lib.hid (Box.new W2 #[.string (bsL a), .int .u32 nv1] 74)
    obtain ⟨gb, hgb⟩ : ∃ gb, gb = W2.heap.size := ⟨_, rfl⟩
    rw [← hgb] at BZ ⊢
    obtain ⟨WB, hWB⟩ : ∃ WB, WB = W2.alloc (.cells #[.string (bsL a), .int .u32 nv1] 74) := ⟨_, rfl⟩
    rw [← hWB] at P BZ ⊢
    clear hWB hgb h2
    go_simp
    apply Rel.every_one 5 (by kernel_rfl) (by rfl) (by rfl)
    intro W1 h1
    have PP := Lib.hid (P.out.keep h1)
    clear P
    have P := Lib.hid PP.out
    clear PP
    have BZ2 := Lib.hid (BZ.out.keep h1)
    clear BZ
    have BZ := Lib.hid BZ2.out
    clear BZ2
    have cx := P.out.rd.bx.cells
    unfold rdBox at cx
    go_simp
    apply Rel.gives_value
    refine ⟨KeepBut.refl _ _, ?_⟩
    clear h1 cx
    go_simp
    apply Rel.every_one 12 (by kernel_rfl) (by rfl) (by rfl)
    intro W4 h4
    have PP := Lib.hid (P.out.keep h4)
    clear P
    have P := Lib.hid PP.out
    clear PP
    have B4 := BZ.out.keep h4
    clear h4
    refine gives_append W4 (.tmp 116) (.tmp 122) 29 rfl (r + 1) 74 i0 _ 2 24 Tryz.underlying29 hi hz0 hz1 hz2 rfl (by decide) vs m.shrs.length (m.shrs.flatMap compRow) rfl P.out.rd.shrs ⟨gb, 0, none⟩ 1 1 (compRow ⟨bsL a, nv1⟩) rfl rfl (mcells_box B4 rfl) (by intro u hu; simp [compRow] at hu; rcases hu with rfl | rfl <;> rfl) (by have := MB.out.shrs; unfold maxLen; omega) (by have := MB.out.shrs; omega) (by have := P.out.rd.lt; omega) ?_
    intro v5 V5 o5 g5
    have KG := grown_but g5 (RdS r vc vi vs vg) (fun z hz => .inr (.inr (.inr (.inl hz))))
    refine ⟨KG, ?_⟩
    have PP := Lib.hid (P.out.next HL.out (P.out.rd.addS ⟨bsL a, nv1⟩ g5 o5) KG)
    clear P
    have P := Lib.hid PP.out
    clear PP
    obtain ⟨ao, n', cap5, hv5⟩ : ∃ ao n' cap5, v5 = .slice ao n' cap5 := by
      rcases o5.2 with ⟨hv, _⟩ | ⟨g6, cap6, cur6, hv, _⟩
      · exact ⟨_, _, _, hv⟩
      · exact ⟨_, _, _, hv⟩
    subst hv5
    clear o5 g5 KG B4 BZ
    go_simp
    apply Rel.every_one 13 (by kernel_rfl) (by rfl) (by rfl)
    intro W6 h6
    have PP := Lib.hid (P.out.keep h6)
    clear P
    have P := Lib.hid PP.out
    clear PP
    clear h6
    go_simp
    apply Rel.gives_value
    refine ⟨KeepBut.refl _ _, ?_⟩
    go_simp
    apply Rel.every_one 14 (by kernel_rfl) (by rfl) (by rfl)
    intro W6 h6
    have PP := Lib.hid (P.out.keep h6)
    clear P
    have P := Lib.hid PP.out
    clear PP
    clear h6
    go_simp
    apply Rel.gives_value
    refine ⟨KeepBut.refl _ _, ?_⟩
    go_simp
    apply Rel.every_one 15 (by kernel_rfl) (by rfl) (by rfl)
    intro W6 h6
    have PP := Lib.hid (P.out.keep h6)
    clear P
    have P := Lib.hid PP.out
    clear PP
    clear h6
    go_simp
    apply Rel.gives_value
    refine ⟨KeepBut.refl _ _, ?_⟩
    go_simp
    apply Rel.every_one 16 (by kernel_rfl) (by rfl) (by rfl)
    intro W7 h7
    have PP := Lib.hid (P.out.keep h7)
    clear P
    have P := Lib.hid PP.out
    clear PP
    have c7 := P.out.rd.bx.cells
    have f7 := P.out.rd.bx.thawed
    unfold rdBox at c7
    clear h7
    go_simp
    apply Rel.gives_skip
    refine ⟨setS (.inl rfl) _ _ _, ?_⟩
    have PP := Lib.hid (P.out.set HL.out (.inl rfl) 2 (.slice ao n' cap5))
    clear P
    have P := Lib.hid PP.out
    clear PP
    obtain ⟨W8, hW8⟩ : ∃ W8, W8 = W7.setCell ⟨r, 2, none⟩ (.slice ao n' cap5) := ⟨_, rfl⟩
    rw [← hW8] at P ⊢
    clear hW8 c7 f7
    go_simp
    refine Rel.every_end (by kernel_rfl) ?_
    intro W9 h9
    have PP := Lib.hid (P.out.keep h9)
    clear P
    have P := Lib.hid PP.out
    clear PP
    clear h9
    go_wp2_with fail
    go_ret
    exact LineR.ofNum (f := fun z => { m with shrs := m.shrs ++ [⟨bsL a, z⟩] }) (ph' := 3) V1.out V2.out HRES.out P.out.kb (RdM.of P.out.rd rfl)
end Go.Proofs.YteddflbidafebaaGreatDoor
