/- The program's line: C to C, C to I. -/
import Derived.Test.YteddflbidafebaaGreatDoorManPLh
namespace Go.Proofs.YteddflbidafebaaGreatDoor
set_option linter.unusedVariables false
set_option linter.unusedSimpArgs false
open Go.RowKit
set_option maxHeartbeats 8000000 in
set_option maxRecDepth 100000 in
theorem mline_C_C (s : ByteArray) (w : World) (r : Nat) (m : ManV) (vc vi vs vg : Value) (h : RdM w r m ⟨#[99, 111, 109, 112]⟩ vc vi vs vg) (hR : RngV w) (hM : MaxL w) (hL : LowS (RdS r vc vi vs vg)) (hm : ManBig m)
    (a b : List UInt8) (hxl : b.length ≤ 5000) (cwC : ∀ W, KeepBut (RdS r vc vi vs vg) w W → MaxL W → Calls Tryz.prog 33 #[.string s, .string ⟨#[99, 111, 109, 112]⟩, .int .i64 2] W fun e w' => WordsR W 2 e w' (some [a, b])) :
    Calls Tryz.prog 13 #[.pointer (some ⟨r, 0, none⟩), .string s] w (LineR w r (RdS r vc vi vs vg) (match numD b with | .error e => .error e | .ok n => .ok ({ m with comps := m.comps ++ [⟨bsL a, n⟩] }, 1))) := by
  have P : Hid (LnS w r (RdS r vc vi vs vg) m (rdBox m ⟨#[99, 111, 109, 112]⟩ vc vi vs vg) vc vi vs vg w) := Lib.hid ⟨h, KeepBut.refl _ _, hR, hM⟩
  obtain ⟨res, hres⟩ : ∃ res : Except Int (ManV × Nat), res = (match numD b with | .error e => .error e | .ok n => .ok ({ m with comps := m.comps ++ [⟨bsL a, n⟩] }, 1)) := ⟨_, rfl⟩
  rw [← hres]
  have HRES := Lib.hid hres
  have HL := Lib.hid hL
  have MB := Lib.hid hm
  have CWC := Lib.hid cwC
  have LB := Lib.hid hxl
  clear h hR hM hL hm hres cwC hxl
  have cr := P.out.rd.bx.cells
  unfold rdBox at cr
  go_enter Tryz.func13, Tryz.ntmps13
  go_wp2_with fail
  clear cr
  refine (CWC.out _ P.out.kb P.out.max).mono ?_
  rintro e w1 hwr
  obtain ⟨hk, g, cap, rfl, hcap, hg, hc⟩ := hwr
  have NS : ¬ RdS r vc vi vs vg g := fun h => by have := P.out.rd.old h; omega
  have PP := Lib.hid (P.out.keep hk)
  clear P
  have P := Lib.hid PP.out
  clear PP
  have WD : Hid (WdS (RdS r vc vi vs vg) g [a, b] w1) := Lib.hid ⟨NS, hc⟩
  have hcap0 : (2 : Int) ≤ (cap : Int) := by omega
  clear hk hg hc NS hcap
  have CN := Lib.hid (fun W (hR : RngV W) => mnumber_any b LB.out W hR)
  obtain ⟨nv1, hv1⟩ : ∃ x, (numV b).1 = x := ⟨_, rfl⟩
  obtain ⟨nv2, hv2⟩ : ∃ x, (numV b).2 = x := ⟨_, rfl⟩
  rw [hv1, hv2] at CN
  have V1 := Lib.hid hv1
  have V2 := Lib.hid hv2
  clear hv1 hv2
  obtain ⟨i0, hi, hz0, hz1, hz2⟩ := info_parts mrows
  have n0 := WD.out.cells 0 a rfl
  have n1 := WD.out.cells 1 b rfl
  go_wp2_with fail
  clear n0 n1
  refine (CN.out _ P.out.rng).mono ?_
  rintro e w2 ⟨rfl, hk2⟩
  have PP := Lib.hid (P.out.keep hk2)
  clear P
  have P := Lib.hid PP.out
  clear PP
  have WD2 := Lib.hid (WD.out.keep hk2)
  clear WD
  have WD := Lib.hid WD2.out
  clear WD2 hk2
  go_wp2_with fail
  refine Rel.regionP (KeepBut (RdS r vc vi vs vg)) (butWay _) [] [0, 1, 2, 3, 4, 6, 7, 8, 9, 10] 7 (by kernel_rfl) (by kernel_rfl) (Keep.refl _) ?_
  repeat (apply Rel.pre_step (by rfl) (by rfl) (by rfl)
          · intro W' hW'
            have q0 := (WD.out.but hW').cells 0 a rfl
            go_simp
            exact ⟨rfl, Keep.refl _⟩
          go_simp)
  apply Rel.pre_end
  refine Rel.every_two 5 11 (by kernel_rfl) (by rfl) (by rfl) (by rfl) (by rfl) ?_ ?_
  · skip
    intro W1 h1
    have PP := Lib.hid (P.out.keep h1)
    clear P
    have P := Lib.hid PP.out
    clear PP
    have cx := P.out.rd.bx.cells
    unfold rdBox at cx
    go_simp
    apply Rel.gives_value
    refine ⟨KeepBut.refl _ _, ?_⟩
    clear h1 cx
    go_simp
    apply Rel.every_one 11 (by kernel_rfl) (by rfl) (by rfl)
    intro W2 h2
    go_simp
    apply Rel.gives_value
    refine ⟨((Keep.refl _).alloc _).but _, ?_⟩
    have PP := Lib.hid (P.out.keep (h2.alloc (.cells #[.string (bsL a), .int .u32 nv1] 44)))
    clear P
    have P := Lib.hid PP.out
    clear PP
    have BZ := Lib.hid (Box.new W2 #[.string (bsL a), .int .u32 nv1] 44)
    obtain ⟨gb, hgb⟩ : ∃ gb, gb = W2.heap.size := ⟨_, rfl⟩
    rw [← hgb] at BZ ⊢
    obtain ⟨WB, hWB⟩ : ∃ WB, WB = W2.alloc (.cells #[.string (bsL a), .int .u32 nv1] 44) := ⟨_, rfl⟩
    rw [← hWB] at P BZ ⊢
    clear hWB hgb h2
    go_simp
    apply Rel.every_one 12 (by kernel_rfl) (by rfl) (by rfl)
    intro W4 h4
    have PP := Lib.hid (P.out.keep h4)
    clear P
    have P := Lib.hid PP.out
    clear PP
    have B4 := BZ.out.keep h4
    clear h4
    refine gives_append W4 (.tmp 53) (.tmp 59) 27 rfl (r + 1) 44 i0 _ 2 24 Tryz.underlying27 hi hz0 hz1 hz2 rfl (by decide) vc m.comps.length (m.comps.flatMap compRow) rfl P.out.rd.comps ⟨gb, 0, none⟩ 1 1 (compRow ⟨bsL a, nv1⟩) rfl rfl (mcells_box B4 rfl) (by intro u hu; simp [compRow] at hu; rcases hu with rfl | rfl <;> rfl) (by have := MB.out.comps; unfold maxLen; omega) (by have := MB.out.comps; omega) (by have := P.out.rd.lt; omega) ?_
    intro v5 V5 o5 g5
    have KG := grown_but g5 (RdS r vc vi vs vg) (fun z hz => .inr (.inl hz))
    refine ⟨KG, ?_⟩
    have PP := Lib.hid (P.out.next HL.out (P.out.rd.addC ⟨bsL a, nv1⟩ g5 o5) KG)
    clear P
    have P := Lib.hid PP.out
    clear PP
    obtain ⟨ao, n', cap5, hv5⟩ : ∃ ao n' cap5, v5 = .slice ao n' cap5 := by
      rcases o5.2 with ⟨hv, _⟩ | ⟨g6, cap6, cur6, hv, _⟩
      · exact ⟨_, _, _, hv⟩
      · exact ⟨_, _, _, hv⟩
    subst hv5
    clear o5 g5 KG B4 BZ
    go_simp
    apply Rel.every_one 13 (by kernel_rfl) (by rfl) (by rfl)
    intro W6 h6
    have PP := Lib.hid (P.out.keep h6)
    clear P
    have P := Lib.hid PP.out
    clear PP
    clear h6
    go_simp
    apply Rel.gives_value
    refine ⟨KeepBut.refl _ _, ?_⟩
    go_simp
    apply Rel.every_one 14 (by kernel_rfl) (by rfl) (by rfl)
    intro W6 h6
    have PP := Lib.hid (P.out.keep h6)
    clear P
    have P := Lib.hid PP.out
    clear PP
    clear h6
    go_simp
    apply Rel.gives_value
    refine ⟨KeepBut.refl _ _, ?_⟩
    go_simp
    apply Rel.every_one 15 (by kernel_rfl) (by rfl) (by rfl)
    intro W6 h6
    have PP := Lib.hid (P.out.keep h6)
    clear P
    have P := Lib.hid PP.out
    clear PP
    clear h6
    go_simp
    apply Rel.gives_value
    refine ⟨KeepBut.refl _ _, ?_⟩
    go_simp
    apply Rel.every_one 16 (by kernel_rfl) (by rfl) (by rfl)
    intro W7 h7
    have PP := Lib.hid (P.out.keep h7)
    clear P
    have P := Lib.hid PP.out
    clear PP
    have c7 := P.out.rd.bx.cells
    have f7 := P.out.rd.bx.thawed
    unfold rdBox at c7
    clear h7
    go_simp
    apply Rel.gives_skip
    refine ⟨setS (.inl rfl) _ _ _, ?_⟩
    have PP := Lib.hid (P.out.set HL.out (.inl rfl) 0 (.slice ao n' cap5))
    clear P
    have P := Lib.hid PP.out
    clear PP
    obtain ⟨W8, hW8⟩ : ∃ W8, W8 = W7.setCell ⟨r, 0, none⟩ (.slice ao n' cap5) := ⟨_, rfl⟩
    rw [← hW8] at P ⊢
    clear hW8 c7 f7
    go_simp
    refine Rel.every_end (by kernel_rfl) ?_
    intro W9 h9
    have PP := Lib.hid (P.out.keep h9)
    clear P
    have P := Lib.hid PP.out
    clear PP
    clear h9
    go_wp2_with fail
    go_ret
    exact LineR.ofNum (f := fun z => { m with comps := m.comps ++ [⟨bsL a, z⟩] }) (ph' := 1) V1.out V2.out HRES.out P.out.kb (RdM.of P.out.rd rfl)
  · skip
    intro W2 h2
    go_simp
    apply Rel.gives_value
    refine ⟨((Keep.refl _).alloc _).but _, ?_⟩
    have PP := Lib.hid (P.out.keep (h2.alloc (.cells #[.string (bsL a), .int .u32 nv1] 44)))
    clear P
    have P := Lib.hid PP.out
    clear PP
    have BZ := Lib.hid (Box.new W2 #[.string (bsL a), .int .u32 nv1] 44)
    obtain ⟨gb, hgb⟩ : ∃ gb, gb = W2.heap.size := ⟨_, rfl⟩
    rw [← hgb] at BZ ⊢
    obtain ⟨WB, hWB⟩ : ∃ WB, WB = W2.alloc (.cells #[.string (bsL a), .int .u32 nv1] 44) := ⟨_, rfl⟩
    rw [← hWB] at P BZ ⊢
    clear hWB hgb h2
    go_simp
    apply Rel.every_one 5 (by kernel_rfl) (by rfl) (by rfl)
    intro W1 h1
    have PP := Lib.hid (P.out.keep h1)
    clear P
    have P := Lib.hid PP.out
    clear PP
    have BZ2 := Lib.hid (BZ.out.keep h1)
    clear BZ
    have BZ := Lib.hid BZ2.out
    clear BZ2
    have cx := P.out.rd.bx.cells
    unfold rdBox at cx
    go_simp
    apply Rel.gives_value
    refine ⟨KeepBut.refl _ _, ?_⟩
    clear h1 cx
    go_simp
    apply Rel.every_one 12 (by kernel_rfl) (by rfl) (by rfl)
    intro W4 h4
    have PP := Lib.hid (P.out.keep h4)
    clear P
    have P := Lib.hid PP.out
    clear PP
    have B4 := BZ.out.keep h4
    clear h4
    refine gives_append W4 (.tmp 53) (.tmp 59) 27 rfl (r + 1) 44 i0 _ 2 24 Tryz.underlying27 hi hz0 hz1 hz2 rfl (by decide) vc m.comps.length (m.comps.flatMap compRow) rfl P.out.rd.comps ⟨gb, 0, none⟩ 1 1 (compRow ⟨bsL a, nv1⟩) rfl rfl (mcells_box B4 rfl) (by intro u hu; simp [compRow] at hu; rcases hu with rfl | rfl <;> rfl) (by have := MB.out.comps; unfold maxLen; omega) (by have := MB.out.comps; omega) (by have := P.out.rd.lt; omega) ?_
    intro v5 V5 o5 g5
    have KG := grown_but g5 (RdS r vc vi vs vg) (fun z hz => .inr (.inl hz))
    refine ⟨KG, ?_⟩
    have PP := Lib.hid (P.out.next HL.out (P.out.rd.addC ⟨bsL a, nv1⟩ g5 o5) KG)
    clear P
    have P := Lib.hid PP.out
    clear PP
    obtain ⟨ao, n', cap5, hv5⟩ : ∃ ao n' cap5, v5 = .slice ao n' cap5 := by
      rcases o5.2 with ⟨hv, _⟩ | ⟨g6, cap6, cur6, hv, _⟩
      · exact ⟨_, _, _, hv⟩
      · exact ⟨_, _, _, hv⟩
    subst hv5
    clear o5 g5 KG B4 BZ
    go_simp
    apply Rel.every_one 13 (by kernel_rfl) (by rfl) (by rfl)
    intro W6 h6
    have PP := Lib.hid (P.out.keep h6)
    clear P
    have P := Lib.hid PP.out
    clear PP
    clear h6
    go_simp
    apply Rel.gives_value
    refine ⟨KeepBut.refl _ _, ?_⟩
    go_simp
    apply Rel.every_one 14 (by kernel_rfl) (by rfl) (by rfl)
    intro W6 h6
    have PP := Lib.hid (P.out.keep h6)
    clear P
    have P := Lib.hid PP.out
    clear PP
    clear h6
    go_simp
    apply Rel.gives_value
    refine ⟨KeepBut.refl _ _, ?_⟩
    go_simp
    apply Rel.every_one 15 (by kernel_rfl) (by rfl) (by rfl)
    intro W6 h6
    have PP := Lib.hid (P.out.keep h6)
    clear P
    have P := Lib.hid PP.out
    clear PP
    clear h6
    go_simp
    apply Rel.gives_value
    refine ⟨KeepBut.refl _ _, ?_⟩
    go_simp
    apply Rel.every_one 16 (by kernel_rfl) (by rfl) (by rfl)
    intro W7 h7
    have PP := Lib.hid (P.out.keep h7)
    clear P
    have P := Lib.hid PP.out
    clear PP
    have c7 := P.out.rd.bx.cells
    have f7 := P.out.rd.bx.thawed
    unfold rdBox at c7
    clear h7
    go_simp
    apply Rel.gives_skip
    refine ⟨setS (.inl rfl) _ _ _, ?_⟩
    have PP := Lib.hid (P.out.set HL.out (.inl rfl) 0 (.slice ao n' cap5))
    clear P
    have P := Lib.hid PP.out
    clear PP
    obtain ⟨W8, hW8⟩ : ∃ W8, W8 = W7.setCell ⟨r, 0, none⟩ (.slice ao n' cap5) := ⟨_, rfl⟩
    rw [← hW8] at P ⊢
    clear hW8 c7 f7
    go_simp
    refine Rel.every_end (by kernel_rfl) ?_
    intro W9 h9
    have PP := Lib.hid (P.out.keep h9)
    clear P
    have P := Lib.hid PP.out
    clear PP
    clear h9
    go_wp2_with fail
    go_ret
    exact LineR.ofNum (f := fun z => { m with comps := m.comps ++ [⟨bsL a, z⟩] }) (ph' := 1) V1.out V2.out HRES.out P.out.kb (RdM.of P.out.rd rfl)
set_option maxHeartbeats 8000000 in
set_option maxRecDepth 100000 in
theorem mline_C_I (s : ByteArray) (w : World) (r : Nat) (m : ManV) (vc vi vs vg : Value) (h : RdM w r m ⟨#[99, 111, 109, 112]⟩ vc vi vs vg) (hR : RngV w) (hM : MaxL w) (hL : LowS (RdS r vc vi vs vg)) (hm : ManBig m)
    (cwC : ∀ W, KeepBut (RdS r vc vi vs vg) w W → MaxL W → Calls Tryz.prog 33 #[.string s, .string ⟨#[99, 111, 109, 112]⟩, .int .i64 2] W fun e w' => WordsR W 2 e w' none)
    (a b c : List UInt8) (hxl : c.length ≤ 5000) (cwI : ∀ W, KeepBut (RdS r vc vi vs vg) w W → MaxL W → Calls Tryz.prog 33 #[.string s, .string ⟨#[105, 109, 112, 111, 114, 116]⟩, .int .i64 3] W fun e w' => WordsR W 3 e w' (some [a, b, c])) :
    Calls Tryz.prog 13 #[.pointer (some ⟨r, 0, none⟩), .string s] w (LineR w r (RdS r vc vi vs vg) (.ok ({ m with imps := m.imps ++ [⟨bsL a, bsL b, bsL c⟩] }, 2))) := by
  have P : Hid (LnS w r (RdS r vc vi vs vg) m (rdBox m ⟨#[99, 111, 109, 112]⟩ vc vi vs vg) vc vi vs vg w) := Lib.hid ⟨h, KeepBut.refl _ _, hR, hM⟩
  obtain ⟨res, hres⟩ : ∃ res : Except Int (ManV × Nat), res = (.ok ({ m with imps := m.imps ++ [⟨bsL a, bsL b, bsL c⟩] }, 2)) := ⟨_, rfl⟩
  rw [← hres]
  have HRES := Lib.hid hres
  have HL := Lib.hid hL
  have MB := Lib.hid hm
  have CWC := Lib.hid cwC
  have CWI := Lib.hid cwI
  have LB := Lib.hid hxl
  clear h hR hM hL hm hres cwC cwI hxl
  have cr := P.out.rd.bx.cells
  unfold rdBox at cr
  go_enter Tryz.func13, Tryz.ntmps13
  go_wp2_with fail
  clear cr
  refine (CWC.out _ P.out.kb P.out.max).mono ?_
  rintro e w1 hwr
  obtain ⟨hk, v, rfl⟩ := hwr
  have PP := Lib.hid (P.out.keep hk)
  clear P
  have P := Lib.hid PP.out
  clear PP
  clear hk
  go_wp2_with fail
  refine (CWI.out _ P.out.kb P.out.max).mono ?_
  rintro e w1 hwr
  obtain ⟨hk, g, cap, rfl, hcap, hg, hc⟩ := hwr
  have NS : ¬ RdS r vc vi vs vg g := fun h => by have := P.out.rd.old h; omega
  have PP := Lib.hid (P.out.keep hk)
  clear P
  have P := Lib.hid PP.out
  clear PP
  have WD : Hid (WdS (RdS r vc vi vs vg) g [a, b, c] w1) := Lib.hid ⟨NS, hc⟩
  have hcap0 : (3 : Int) ≤ (cap : Int) := by omega
  clear hk hg hc NS hcap
  obtain ⟨i0, hi, hz0, hz1, hz2⟩ := info_parts mrowsI
  have cr := P.out.rd.bx.cells
  have fr := P.out.rd.bx.thawed
  unfold rdBox at cr
  go_wp2_with fail
  clear cr fr
  have PP := Lib.hid (P.out.set HL.out (.inl rfl) 7 (.string ⟨#[105, 109, 112, 111, 114, 116]⟩))
  clear P
  have P := Lib.hid PP.out
  clear PP
  have WD2 := Lib.hid (WD.out.but (setS (.inl rfl) w1 7 (.string ⟨#[105, 109, 112, 111, 114, 116]⟩)))
  clear WD
  have WD := Lib.hid WD2.out
  clear WD2
  obtain ⟨WS, hWS⟩ : ∃ WS, WS = w1.setCell ⟨r, 7, none⟩ (.string ⟨#[105, 109, 112, 111, 114, 116]⟩) := ⟨_, rfl⟩
  rw [← hWS] at P WD ⊢
  clear hWS
  refine Rel.regionP (KeepBut (RdS r vc vi vs vg)) (butWay _) [] [0, 1, 2, 3, 4, 6, 7, 8, 9, 10, 11, 12, 13, 14, 15] 7 (by kernel_rfl) (by kernel_rfl) (Keep.refl _) ?_
  repeat (apply Rel.pre_step (by rfl) (by rfl) (by rfl)
          · intro W' hW'
            have q0 := (WD.out.but hW').cells 0 a rfl
            have q1 := (WD.out.but hW').cells 1 b rfl
            have q2 := (WD.out.but hW').cells 2 c rfl
            go_simp
            exact ⟨rfl, Keep.refl _⟩
          go_simp)
  apply Rel.pre_end
  refine Rel.every_two 5 16 (by kernel_rfl) (by rfl) (by rfl) (by rfl) (by rfl) ?_ ?_
  · skip
    intro W1 h1
    have PP := Lib.hid (P.out.keep h1)
    clear P
    have P := Lib.hid PP.out
    clear PP
    have cx := P.out.rd.bx.cells
    unfold rdBox at cx
    go_simp
    apply Rel.gives_value
    refine ⟨KeepBut.refl _ _, ?_⟩
    clear h1 cx
    go_simp
    apply Rel.every_one 16 (by kernel_rfl) (by rfl) (by rfl)
    intro W2 h2
    go_simp
    apply Rel.gives_value
    refine ⟨((Keep.refl _).alloc _).but _, ?_⟩
    have PP := Lib.hid (P.out.keep (h2.alloc (.cells #[.string (bsL a), .string (bsL b), .string (bsL c)] 32)))
    clear P
    have P := Lib.hid PP.out
    clear PP
    have BZ := Lib.hid (Box.new W2 #[.string (bsL a), .string (bsL b), .string (bsL c)] 32)
    obtain ⟨gb, hgb⟩ : ∃ gb, gb = W2.heap.size := ⟨_, rfl⟩
    rw [← hgb] at BZ ⊢
    obtain ⟨WB, hWB⟩ : ∃ WB, WB = W2.alloc (.cells #[.string (bsL a), .string (bsL b), .string (bsL c)] 32) := ⟨_, rfl⟩
    rw [← hWB] at P BZ ⊢
    clear hWB hgb h2
    go_simp
    apply Rel.every_one 17 (by kernel_rfl) (by rfl) (by rfl)
    intro W4 h4
    have PP := Lib.hid (P.out.keep h4)
    clear P
    have P := Lib.hid PP.out
    clear PP
    have B4 := BZ.out.keep h4
    clear h4
    refine gives_append W4 (.tmp 79) (.tmp 90) 28 rfl (r + 1) 32 i0 _ 3 48 Tryz.underlying28 hi hz0 hz1 hz2 rfl (by decide) vi m.imps.length (m.imps.flatMap impRow) rfl P.out.rd.imps ⟨gb, 0, none⟩ 1 1 (impRow ⟨bsL a, bsL b, bsL c⟩) rfl rfl (mcells_box B4 rfl) (by intro u hu; simp [impRow] at hu; rcases hu with rfl | rfl | rfl <;> rfl) (by have := MB.out.imps; unfold maxLen; omega) (by have := MB.out.imps; omega) (by have := P.out.rd.lt; omega) ?_
    intro v5 V5 o5 g5
    have KG := grown_but g5 (RdS r vc vi vs vg) (fun z hz => .inr (.inr (.inl hz)))
    refine ⟨KG, ?_⟩
    have PP := Lib.hid (P.out.next HL.out (P.out.rd.addI ⟨bsL a, bsL b, bsL c⟩ g5 o5) KG)
    clear P
    have P := Lib.hid PP.out
    clear PP
    obtain ⟨ao, n', cap5, hv5⟩ : ∃ ao n' cap5, v5 = .slice ao n' cap5 := by
      rcases o5.2 with ⟨hv, _⟩ | ⟨g6, cap6, cur6, hv, _⟩
      · exact ⟨_, _, _, hv⟩
      · exact ⟨_, _, _, hv⟩
    subst hv5
    clear o5 g5 KG B4 BZ
    go_simp
    apply Rel.every_one 18 (by kernel_rfl) (by rfl) (by rfl)
    intro W6 h6
    have PP := Lib.hid (P.out.keep h6)
    clear P
    have P := Lib.hid PP.out
    clear PP
    clear h6
    go_simp
    apply Rel.gives_value
    refine ⟨KeepBut.refl _ _, ?_⟩
    go_simp
    apply Rel.every_one 19 (by kernel_rfl) (by rfl) (by rfl)
    intro W6 h6
    have PP := Lib.hid (P.out.keep h6)
    clear P
    have P := Lib.hid PP.out
    clear PP
    clear h6
    go_simp
    apply Rel.gives_value
    refine ⟨KeepBut.refl _ _, ?_⟩
    go_simp
    apply Rel.every_one 20 (by kernel_rfl) (by rfl) (by rfl)
    intro W6 h6
    have PP := Lib.hid (P.out.keep h6)
    clear P
    have P := Lib.hid PP.out
    clear PP
    clear h6
    go_simp
    apply Rel.gives_value
    refine ⟨KeepBut.refl _ _, ?_⟩
    go_simp
    apply Rel.every_one 21 (by kernel_rfl) (by rfl) (by rfl)
    intro W7 h7
    have PP := Lib.hid (P.out.keep h7)
    clear P
    have P := Lib.hid PP.out
    clear PP
    have c7 := P.out.rd.bx.cells
    have f7 := P.out.rd.bx.thawed
    unfold rdBox at c7
    clear h7
    go_simp
    apply Rel.gives_skip
    refine ⟨setS (.inl rfl) _ _ _, ?_⟩
    have PP := Lib.hid (P.out.set HL.out (.inl rfl) 1 (.slice ao n' cap5))
    clear P
    have P := Lib.hid PP.out
    clear PP
    obtain ⟨W8, hW8⟩ : ∃ W8, W8 = W7.setCell ⟨r, 1, none⟩ (.slice ao n' cap5) := ⟨_, rfl⟩
    rw [← hW8] at P ⊢
    clear hW8 c7 f7
    go_simp
    refine Rel.every_end (by kernel_rfl) ?_
    intro W9 h9
    have PP := Lib.hid (P.out.keep h9)
    clear P
    have P := Lib.hid PP.out
    clear PP
    clear h9
    go_wp2_with fail
    go_ret
    exact LineR.ok (ph' := 2) HRES.out P.out.kb (RdM.of P.out.rd rfl)
  · skip
    intro W2 h2
    go_simp
    apply Rel.gives_value
    refine ⟨((Keep.refl _).alloc _).but _, ?_⟩
    have PP := Lib.hid (P.out.keep (h2.alloc (.cells #[.string (bsL a), .string (bsL b), .string (bsL c)] 32)))
    clear P
    have P := Lib.hid PP.out
    clear PP
    have BZ := Lib.hid (Box.new W2 #[.string (bsL a), .string (bsL b), .string (bsL c)] 32)
    obtain ⟨gb, hgb⟩ : ∃ gb, gb = W2.heap.size := ⟨_, rfl⟩
    rw [← hgb] at BZ ⊢
    obtain ⟨WB, hWB⟩ : ∃ WB, WB = W2.alloc (.cells #[.string (bsL a), .string (bsL b), .string (bsL c)] 32) := ⟨_, rfl⟩
    rw [← hWB] at P BZ ⊢
    clear hWB hgb h2
    go_simp
    apply Rel.every_one 5 (by kernel_rfl) (by rfl) (by rfl)
    intro W1 h1
    have PP := Lib.hid (P.out.keep h1)
    clear P
    have P := Lib.hid PP.out
    clear PP
    have BZ2 := Lib.hid (BZ.out.keep h1)
    clear BZ
    have BZ := Lib.hid BZ2.out
    clear BZ2
    have cx := P.out.rd.bx.cells
    unfold rdBox at cx
    go_simp
    apply Rel.gives_value
    refine ⟨KeepBut.refl _ _, ?_⟩
    clear h1 cx
    go_simp
    apply Rel.every_one 17 (by kernel_rfl) (by rfl) (by rfl)
    intro W4 h4
    have PP := Lib.hid (P.out.keep h4)
    clear P
    have P := Lib.hid PP.out
    clear PP
    have B4 := BZ.out.keep h4
    clear h4
    refine gives_append W4 (.tmp 79) (.tmp 90) 28 rfl (r + 1) 32 i0 _ 3 48 Tryz.underlying28 hi hz0 hz1 hz2 rfl (by decide) vi m.imps.length (m.imps.flatMap impRow) rfl P.out.rd.imps ⟨gb, 0, none⟩ 1 1 (impRow ⟨bsL a, bsL b, bsL c⟩) rfl rfl (mcells_box B4 rfl) (by intro u hu; simp [impRow] at hu; rcases hu with rfl | rfl | rfl <;> rfl) (by have := MB.out.imps; unfold maxLen; omega) (by have := MB.out.imps; omega) (by have := P.out.rd.lt; omega) ?_
    intro v5 V5 o5 g5
    have KG := grown_but g5 (RdS r vc vi vs vg) (fun z hz => .inr (.inr (.inl hz)))
    refine ⟨KG, ?_⟩
    have PP := Lib.hid (P.out.next HL.out (P.out.rd.addI ⟨bsL a, bsL b, bsL c⟩ g5 o5) KG)
    clear P
    have P := Lib.hid PP.out
    clear PP
    obtain ⟨ao, n', cap5, hv5⟩ : ∃ ao n' cap5, v5 = .slice ao n' cap5 := by
      rcases o5.2 with ⟨hv, _⟩ | ⟨g6, cap6, cur6, hv, _⟩
      · exact ⟨_, _, _, hv⟩
      · exact ⟨_, _, _, hv⟩
    subst hv5
    clear o5 g5 KG B4 BZ
    go_simp
    apply Rel.every_one 18 (by kernel_rfl) (by rfl) (by rfl)
    intro W6 h6
    have PP := Lib.hid (P.out.keep h6)
    clear P
    have P := Lib.hid PP.out
    clear PP
    clear h6
    go_simp
    apply Rel.gives_value
    refine ⟨KeepBut.refl _ _, ?_⟩
    go_simp
    apply Rel.every_one 19 (by kernel_rfl) (by rfl) (by rfl)
    intro W6 h6
    have PP := Lib.hid (P.out.keep h6)
    clear P
    have P := Lib.hid PP.out
    clear PP
    clear h6
    go_simp
    apply Rel.gives_value
    refine ⟨KeepBut.refl _ _, ?_⟩
    go_simp
    apply Rel.every_one 20 (by kernel_rfl) (by rfl) (by rfl)
    intro W6 h6
    have PP := Lib.hid (P.out.keep h6)
    clear P
    have P := Lib.hid PP.out
    clear PP
    clear h6
    go_simp
    apply Rel.gives_value
    refine ⟨KeepBut.refl _ _, ?_⟩
    go_simp
    apply Rel.every_one 21 (by kernel_rfl) (by rfl) (by rfl)
    intro W7 h7
    have PP := Lib.hid (P.out.keep h7)
    clear P
    have P := Lib.hid PP.out
    clear PP
    have c7 := P.out.rd.bx.cells
    have f7 := P.out.rd.bx.thawed
    unfold rdBox at c7
    clear h7
    go_simp
    apply Rel.gives_skip
    refine ⟨setS (.inl rfl) _ _ _, ?_⟩
    have PP := Lib.hid (P.out.set HL.out (.inl rfl) 1 (.slice ao n' cap5))
    clear P
    have P := Lib.hid PP.out
    clear PP
    obtain ⟨W8, hW8⟩ : ∃ W8, W8 = W7.setCell ⟨r, 1, none⟩ (.slice ao n' cap5) := ⟨_, rfl⟩
    rw [← hW8] at P ⊢
    clear hW8 c7 f7
    go_simp
    refine Rel.every_end (by kernel_rfl) ?_
    intro W9 h9
    have PP := Lib.hid (P.out.keep h9)
    clear P
    have P := Lib.hid PP.out
    clear PP
    clear h9
    go_wp2_with fail
    go_ret
    exact LineR.ok (ph' := 2) HRES.out P.out.kb (RdM.of P.out.rd rfl)
end Go.Proofs.YteddflbidafebaaGreatDoor
