/- LkLnk, LnkP: The program's Link. -/
import Derived.Test.YtbmjnfnekmeegaaGreatDoorGLkD
import Derived.Test.YtbmjnfnekmeegaaGreatDoorLkFl1
import Derived.Test.YtbmjnfnekmeegaaGreatDoorLkPl1
import Derived.Test.YtbmjnfnekmeegaaGreatDoorGIm
/- The program's Link. -/

namespace Go.Proofs.YtbmjnfnekmeegaaGreatDoor
set_option linter.unusedVariables false
set_option linter.unusedSimpArgs false
open Go Go.RowKit Go.Extern.Stop Go.Stop Go.Extern
/-- An error stays whatever block of other than three cells turns. -/
theorem LErr.set {w w' : World} {u : Value} {x : Option LnkW} {F : Nat} {vs : Array Value} (h : LErr w u x) (hF : Box w F vs) (h3 : vs.size ≠ 3) (k : KeepBut (fun z => z = F) w w') : LErr w' u x := by
  have ne : ∀ {q : Nat} {a c d : Value}, Box w q #[a, c, d] → ¬ q = F := by
    rintro q a c d hq rfl
    obtain ⟨t, h1⟩ := hq
    obtain ⟨t2, h2⟩ := hF
    rw [h1] at h2
    cases h2
    exact h3 rfl
  unfold LErr at h ⊢
  split at h
  · exact h
  · rename_i o i
    rcases h with ⟨a, b, c⟩ | ⟨a, q, q2, b, c, d⟩
    · refine .inl ⟨a, b, ?_⟩
      rcases c with ⟨c1, c2⟩ | ⟨q, p, at_, n, hn, he, hu, hB⟩
      · exact .inl ⟨c1, c2⟩
      · exact .inr ⟨q, p, at_, n, hn, he, hu, hB.but k (ne hB)⟩
    · exact .inr ⟨a, q, q2, b, c.but k (ne c), d.but k (ne d)⟩
/-- What lies once place has been. -/
structure LkS (m : ManV) (l : List ObjV) (b : Nat) (X : Value → Value → Array Value) (w W : World) (psv ssv : Value) (ves : List Value) (hi : Nat) : Prop where
  but : KeepBut (fun z => z = b) w W
  box : Box W b (X psv ssv)
  le : hi ≤ W.heap.size
  parts : RowOf w.heap.size hi W psv (lparts l m.comps 16).length (partRows (lparts l m.comps 16) ves)
  nves : ves.length = (lparts l m.comps 16).length
  ents : ∀ (j : Nat) (p : PartV) (v : Value), (lparts l m.comps 16)[j]? = some p → ves[j]? = some v → RowOf w.heap.size hi W v p.entries.length (p.entries.map u32V)
  shares : RowOf w.heap.size hi W ssv (lshares m.shrs (lend l m.comps 16)).length (spanRows (lshares m.shrs (lend l m.comps 16)))
theorem LkS.keep {m : ManV} {l : List ObjV} {b : Nat} {X : Value → Value → Array Value} {w W W' : World} {psv ssv : Value} {ves : List Value} {hi : Nat} (h : LkS m l b X w W psv ssv ves hi) (k : Keep W W') : LkS m l b X w W' psv ssv ves hi :=
  ⟨h.but.trans (k.but _), h.box.keep k, Nat.le_trans h.le k.size, h.parts.but (k.but (fun _ => False)) (fun _ _ _ e => e), h.nves, fun j p v a c => (h.ents j p v a c).but (k.but (fun _ => False)) (fun _ _ _ e => e), h.shares.but (k.but (fun _ => False)) (fun _ _ _ e => e)⟩
theorem PlD.lks {m : ManV} {l : List ObjV} {b : Nat} {X : Value → Value → Array Value} {w w' : World} {psv ssv : Value} {ves : List Value} (h : PlD b m l X w w' psv ssv ves) {w1 : World} (k : Keep w1 w) : LkS m l b X w1 w' psv ssv ves w'.heap.size :=
  ⟨(k.but _).trans h.but, h.box, Nat.le_refl _, h.parts.wide (by have := k.size; omega) (Nat.le_refl _), h.nves, fun j p v a c => (h.ents j p v a c).wide (by have := k.size; omega) (Nat.le_refl _), h.shares.wide (by have := k.size; omega) (Nat.le_refl _)⟩
set_option maxHeartbeats 16000000 in
set_option maxRecDepth 100000 in
theorem lLink : PLink ErrT := by
  intro m vc vi vs vg l vl qs size w hM hmm hO hf hsz hE
  obtain ⟨p0, c0, rfl, _⟩ := hM.comps
  obtain ⟨p1, c1, rfl, _⟩ := hM.imps
  obtain ⟨p2, c2, rfl, _⟩ := hM.shrs
  obtain ⟨p3, c3, rfl, _⟩ := hM.grns
  obtain ⟨p4, c4, rfl, _⟩ := hO.row
  obtain ⟨rb, hrb⟩ : ∃ b, b = w.heap.size + 1 := ⟨_, rfl⟩
  obtain ⟨b, hb⟩ : ∃ b, b = w.heap.size + 1 + 1 := ⟨_, rfl⟩
  obtain ⟨fb, hfb⟩ : ∃ b, b = w.heap.size + 1 + 1 + 1 := ⟨_, rfl⟩
  obtain ⟨sb, hsb⟩ : ∃ b, b = w.heap.size + 1 + 1 + 1 + 1 := ⟨_, rfl⟩
  obtain ⟨W1, hW1⟩ : ∃ W1, W1 = ((((w.alloc (.cells #[.slice p0 m.comps.length c0, .slice p1 m.imps.length c1, .slice p2 m.shrs.length c2, .slice p3 m.grns.length c3, .string m.start.comp, .string m.start.from_, .string m.start.name] 29)).alloc (.cells #[.int .u32 0, .slice none 0 0, .slice none 0 0, .slice none 0 0, .int .i64 0, .int .u32 0, .slice none 0 0] 40)).alloc (.cells #[.slice p0 m.comps.length c0, .slice p1 m.imps.length c1, .slice p2 m.shrs.length c2, .slice p3 m.grns.length c3, .string m.start.comp, .string m.start.from_, .string m.start.name, .slice p4 l.length c4, .int .u32 size, .slice none 0 0, .slice none 0 0, .slice none 0 0, .int .i64 0, .int .u32 0, .slice none 0 0] 97)).alloc (.cells #[.pointer none] 98)).alloc (.cells #[.func (.func 21) #[.pointer (some ⟨b, 0, none⟩)] #[], .func (.func 22) #[.pointer (some ⟨b, 0, none⟩)] #[], .func (.func 23) #[.pointer (some ⟨b, 0, none⟩)] #[], .func (.func 24) #[.pointer (some ⟨b, 0, none⟩)] #[], .func (.func 25) #[.pointer (some ⟨b, 0, none⟩)] #[], .func (.func 26) #[.pointer (some ⟨b, 0, none⟩)] #[], .func (.func 27) #[.pointer (some ⟨b, 0, none⟩)] #[], .func (.func 28) #[.pointer (some ⟨b, 0, none⟩)] #[]] 99) := ⟨_, rfl⟩
  have K1 : Hid (Keep w W1) := Lib.hid (by rw [hW1]; exact (((((Keep.refl _).alloc _).alloc _).alloc _).alloc _).alloc _)
  have BI : Hid (Box W1 rb #[.int .u32 0, .slice none 0 0, .slice none 0 0, .slice none 0 0, .int .i64 0, .int .u32 0, .slice none 0 0]) := Lib.hid (by rw [hW1, hrb]; exact (((obox_at _ _ _ _ (by simp)).alloc _).alloc _).alloc _)
  have BL : Hid (Box W1 b #[.slice p0 m.comps.length c0, .slice p1 m.imps.length c1, .slice p2 m.shrs.length c2, .slice p3 m.grns.length c3, .string m.start.comp, .string m.start.from_, .string m.start.name, .slice p4 l.length c4, .int .u32 size, .slice none 0 0, .slice none 0 0, .slice none 0 0, .int .i64 0, .int .u32 0, .slice none 0 0]) := Lib.hid (by rw [hW1, hb]; exact ((obox_at _ _ _ _ (by simp)).alloc _).alloc _)
  have BF : Hid (Box W1 fb #[.pointer none]) := Lib.hid (by rw [hW1, hfb]; exact (obox_at _ _ _ _ (by simp)).alloc _)
  have BS : Hid (Box W1 sb #[.func (.func 21) #[.pointer (some ⟨b, 0, none⟩)] #[], .func (.func 22) #[.pointer (some ⟨b, 0, none⟩)] #[], .func (.func 23) #[.pointer (some ⟨b, 0, none⟩)] #[], .func (.func 24) #[.pointer (some ⟨b, 0, none⟩)] #[], .func (.func 25) #[.pointer (some ⟨b, 0, none⟩)] #[], .func (.func 26) #[.pointer (some ⟨b, 0, none⟩)] #[], .func (.func 27) #[.pointer (some ⟨b, 0, none⟩)] #[], .func (.func 28) #[.pointer (some ⟨b, 0, none⟩)] #[]]) := Lib.hid (by rw [hW1, hsb]; exact obox_at _ _ _ _ (by simp))
  have HZ : Hid (W1.heap.size = w.heap.size + 5) := Lib.hid (by rw [hW1]; simp)
  have HW1 := Lib.hid hW1
  have HM := Lib.hid hM
  have HO := Lib.hid hO
  have HF := Lib.hid hf
  have HMM := Lib.hid hmm
  have HSZ := Lib.hid hsz
  have HE := Lib.hid hE
  have HBB := Lib.hid (And.intro hrb (And.intro hb (And.intro hfb hsb)))
  have hglw : 0 < w.heap.size := hE.lt
  have HNQ : Hid (qs.length = l.length) := Lib.hid hO.nqs
  have LK : Hid (∀ W, Keep W1 W → LkAt W b m (.slice p0 m.comps.length c0) (.slice p1 m.imps.length c1) (.slice p2 m.shrs.length c2) (.slice p3 m.grns.length c3) l (.slice p4 l.length c4) qs (.int .u32 size) (.slice none 0 0) (.slice none 0 0) (.slice none 0 0) (.int .i64 0) (.int .u32 0) (.slice none 0 0)) := Lib.hid (fun W k => ⟨BL.out.keep k, HM.out.keep (K1.out.trans k), HO.out.keep (K1.out.trans k)⟩)
  have S0 : Hid (∀ W, (∀ j, j < 0 → stepE m l size j = none) → Keep W1 W → Calls Tryz.prog 21 #[.pointer (some ⟨b, 0, none⟩)] W fun e w' => ∃ u, e = .returned u ∧ LErr w' u (stepE m l size 0) ∧ Keep W w') := Lib.hid (fun W hp k => lkChkMan_any b m _ _ _ _ l _ qs (.int .u32 size) (.slice none 0 0) (.slice none 0 0) (.slice none 0 0) (.int .i64 0) (.int .u32 0) (.slice none 0 0) HMM.out W (LK.out W k) (HE.out.keep (K1.out.trans k)))
  have S1 : Hid (∀ W, (∀ j, j < 1 → stepE m l size j = none) → Keep W1 W → Calls Tryz.prog 22 #[.pointer (some ⟨b, 0, none⟩)] W fun e w' => ∃ u, e = .returned u ∧ LErr w' u (stepE m l size 1) ∧ Keep W w') := Lib.hid (fun W hp k => lkChkObjs_any b m _ _ _ _ l _ qs (.int .u32 size) (.slice none 0 0) (.slice none 0 0) (.slice none 0 0) (.int .i64 0) (.int .u32 0) (.slice none 0 0) HMM.out HF.out W (LK.out W k) (HE.out.keep (K1.out.trans k)))
  have S2 : Hid (∀ W, (∀ j, j < 2 → stepE m l size j = none) → Keep W1 W → Calls Tryz.prog 23 #[.pointer (some ⟨b, 0, none⟩)] W fun e w' => ∃ u, e = .returned u ∧ LErr w' u (stepE m l size 2) ∧ Keep W w') := Lib.hid (fun W hp k => lkChkComps_any b m _ _ _ _ l _ qs (.int .u32 size) (.slice none 0 0) (.slice none 0 0) (.slice none 0 0) (.int .i64 0) (.int .u32 0) (.slice none 0 0) HMM.out HF.out W (LK.out W k))
  have S3 : Hid (∀ W, (∀ j, j < 3 → stepE m l size j = none) → Keep W1 W → Calls Tryz.prog 24 #[.pointer (some ⟨b, 0, none⟩)] W fun e w' => ∃ u, e = .returned u ∧ LErr w' u (stepE m l size 3) ∧ Keep W w') := Lib.hid (fun W hp k => lkChkCount_any b m _ _ _ _ l _ qs (.int .u32 size) (.slice none 0 0) (.slice none 0 0) (.slice none 0 0) (.int .i64 0) (.int .u32 0) (.slice none 0 0) HF.out W (LK.out W k))
  have S4 : Hid (∀ W, (∀ j, j < 4 → stepE m l size j = none) → Keep W1 W → Calls Tryz.prog 25 #[.pointer (some ⟨b, 0, none⟩)] W fun e w' => ∃ u, e = .returned u ∧ LErr w' u (stepE m l size 4) ∧ Keep W w') := Lib.hid (fun W hp k => lkChkImps_any b m _ _ _ _ l _ qs (.int .u32 size) (.slice none 0 0) (.slice none 0 0) (.slice none 0 0) (.int .i64 0) (.int .u32 0) (.slice none 0 0) HMM.out HF.out (lkAll_of HNQ.out (hp 2 (by omega))) (lkFroms (manO_none.1 (hp 0 (by omega)))) W (LK.out W k))
  have S5 : Hid (∀ W, (∀ j, j < 5 → stepE m l size j = none) → Keep W1 W → Calls Tryz.prog 26 #[.pointer (some ⟨b, 0, none⟩)] W fun e w' => ∃ u, e = .returned u ∧ LErr w' u (stepE m l size 5) ∧ Keep W w') := Lib.hid (fun W hp k => lkChkRels_any b m _ _ _ _ l _ qs (.int .u32 size) (.slice none 0 0) (.slice none 0 0) (.slice none 0 0) (.int .i64 0) (.int .u32 0) (.slice none 0 0) HMM.out HF.out (lkAll_of HNQ.out (hp 2 (by omega))) (lkGrants (manO_none.1 (hp 0 (by omega)))) W (LK.out W k))
  have S6 : Hid (∀ W, (∀ j, j < 6 → stepE m l size j = none) → Keep W1 W → Calls Tryz.prog 27 #[.pointer (some ⟨b, 0, none⟩)] W fun e w' => ∃ u, e = .returned u ∧ LErr w' u (stepE m l size 6) ∧ Keep W w') := Lib.hid (fun W hp k => lkChkStart_any b m _ _ _ _ l _ qs (.int .u32 size) (.slice none 0 0) (.slice none 0 0) (.slice none 0 0) (.int .i64 0) (.int .u32 0) (.slice none 0 0) HMM.out HF.out (lkAll_of HNQ.out (hp 2 (by omega))) (manW_more (manO_none.1 (hp 0 (by omega)))).start.1 W (LK.out W k))
  have S7 : Hid (∀ W, (∀ j, j < 7 → stepE m l size j = none) → Keep W1 W → Calls Tryz.prog 28 #[.pointer (some ⟨b, 0, none⟩)] W fun e w' => ∃ u, e = .returned u ∧ LErr w' u (stepE m l size 7) ∧ ∃ psv ssv ves hi, LkS m l b (fun a c => #[.slice p0 m.comps.length c0, .slice p1 m.imps.length c1, .slice p2 m.shrs.length c2, .slice p3 m.grns.length c3, .string m.start.comp, .string m.start.from_, .string m.start.name, .slice p4 l.length c4, .int .u32 size, a, c, .slice none 0 0, .int .i64 0, .int .u32 0, .slice none 0 0]) W1 w' psv ssv ves hi) := Lib.hid (fun W hp k => by
    refine (lkplace_any b m _ _ _ _ l _ qs _ _ _ _ size HSZ.out HMM.out HF.out (lkAll_of HNQ.out (hp 2 (by omega))) (plH_of HMM.out HF.out (lnkE_none.1 (lnkE_steps HF.out hp))) w W HM.out HO.out (K1.out.trans k) (by have := HBB.out; omega) (BL.out.keep k)).mono ?_
    rintro e w' ⟨u, psv, ssv, ves, rfl, hL, hD⟩
    exact ⟨u, rfl, hL, psv, ssv, ves, _, hD.lks k⟩)
  clear hM hO hf hmm hsz hE hW1
  unfold manVal
  go_enter Tryz.func9, Tryz.ntmps9
  go_wp2_with fail
  rw [← hsb, ← hfb, ← hb, ← hrb, ← HW1.out]
  have hbs : w.heap.size < rb ∧ rb < b ∧ b < fb ∧ fb < sb := by omega
  obtain ⟨hb1, hb2, hb3, hb4⟩ := hbs
  have hsl : sb < W1.heap.size := BS.out.lt
  clear hsb hfb hb hrb HW1
  go_loopw [36] (fun i wr => ∃ k : Nat, k ≤ 8 ∧ i = .int .i64 (k : Int) ∧ (∀ j, j < k → stepE m l size j = none) ∧ (k < 8 → Keep W1 wr) ∧ (k = 8 → ∃ psv ssv ves hi, LkS m l b (fun a c => #[.slice p0 m.comps.length c0, .slice p1 m.imps.length c1, .slice p2 m.shrs.length c2, .slice p3 m.grns.length c3, .string m.start.comp, .string m.start.from_, .string m.start.name, .slice p4 l.length c4, .int .u32 size, a, c, .slice none 0 0, .int .i64 0, .int .u32 0, .slice none 0 0]) W1 wr psv ssv ves hi)) (fun i _ => 8 - (intOf i).toNat)
  case atStart => exact ⟨0, by omega, rfl, fun j hj => absurd hj (by omega), fun _ => Keep.refl _, fun h => absurd h (by omega)⟩
  case round =>
    obtain ⟨k, hk, rfl, hp, hK, hL8⟩ := hrel
    obtain ⟨wq, hwq⟩ : ∃ x, x = wr := ⟨_, rfl⟩
    subst hwq
    have HP := Lib.hid hp
    have HL8 := Lib.hid hL8
    by_cases hlt : k < 8
    · have HK := Lib.hid (hK hlt)
      clear hp hK hL8 HL8
      have hcase : k = 0 ∨ k = 1 ∨ k = 2 ∨ k = 3 ∨ k = 4 ∨ k = 5 ∨ k = 6 ∨ k = 7 := by omega
      clear hk hlt
      rcases hcase with rfl | rfl | rfl | rfl | rfl | rfl | rfl | rfl
      · have CC := Lib.hid (S0.out wq HP.out HK.out)
        have ck := (BS.out.keep HK.out).cells
        go_wp2_with fail
        first | go_at_fn 21 | go_at_call 21 | skip
        refine CC.out.mono ?_
        rintro e w2 ⟨u, rfl, hL, hk2⟩
        have HL := Lib.hid hL
        have HK2 := Lib.hid hk2
        clear hL hk2 CC ck
        have HPX := HP.out
        rcases hx : stepE m l size 0 with _ | x
        · obtain rfl : u = .nilIface := by
            have h := HL.out
            rw [hx] at h
            exact h
          have HX := Lib.hid hx
          clear hx HPX
          go_wp2_with fail
          refine (as_nilL fb w2).mono ?_
          rintro e w3 ⟨rfl, hk3⟩
          have HK3 := Lib.hid hk3
          clear hk3
          go_wp2_with fail
          go_roundw
          case rel =>
            refine ⟨1, by omega, by go_num, fun j hj => ?_, fun _ => (HK.out.trans HK2.out).trans HK3.out, ?_⟩
            · by_cases e : j = 0
              · rw [e]; exact HX.out
              · exact HP.out j (by omega)
            · intro h
              exact absurd h (by omega)
          case measure => simp [intOf]
        · have hL2 := HL.out
          rw [hx] at hL2
          obtain ⟨q, rfl⟩ := hL2.bad
          have hlk := lnkL_step HF.out hx HPX
          have KB2 : KeepBut (fun z => z = b) W1 w2 := (HK.out.trans HK2.out).but _
          have BF2 : Box w2 fb #[.pointer none] := BF.out.but KB2 (by omega)
          have E2 : ErrT w2 := HE.out.keep (K1.out.butNew KB2 (fun x hx => by omega))
          have KB := Lib.hid KB2
          have BF3 := Lib.hid BF2
          have E3 := Lib.hid E2
          have HLK := Lib.hid hlk
          have HL2 := Lib.hid hL2
          clear hx HPX hL2 hlk KB2 BF2 E2 HL HK2
          unfold faultP
          go_wp2_with fail
          refine (as_once fb q (.pointer none) w2 E3.out BF3.out (by omega)).mono ?_
          rintro e w3 ⟨rfl, hs3, hB3⟩
          have HS3 := Lib.hid hs3.1
          have HB3 := Lib.hid hB3
          have BI3 := Lib.hid ((BI.out.but KB.out (by omega)).but hs3.1 (by omega))
          clear hs3 hB3
          go_wp2_with fail
          refine Rel.regionP (KeepBut (fun z => z = rb)) (butWay _) [] [0, 1, 2] 2 (by kernel_rfl) (by kernel_rfl) (Keep.refl _) ?_
          repeat (apply Rel.pre_step (by rfl) (by rfl) (by rfl)
                  · intro W' hW'
                    have cf := (HB3.out.but hW' (by omega)).cells
                    go_simp
                    exact ⟨rfl, Keep.refl _⟩
                  go_simp)
          apply Rel.pre_end
          apply Rel.every_one 3 (by kernel_rfl) (by rfl) (by rfl)
          intro W9 h9
          have ci := (BI3.out.keep h9).cells
          have fi := (BI3.out.keep h9).thawed
          go_simp
          apply Rel.gives_skip
          obtain ⟨W7, hW7⟩ : ∃ W7, W7 = (((((((W9.setCell ⟨rb, 0, none⟩ (.int .u32 0)).setCell ⟨rb, 1, none⟩ (.slice none 0 0)).setCell ⟨rb, 2, none⟩ (.slice none 0 0)).setCell ⟨rb, 3, none⟩ (.slice none 0 0)).setCell ⟨rb, 4, none⟩ (.int .i64 0)).setCell ⟨rb, 5, none⟩ (.int .u32 0)).setCell ⟨rb, 6, none⟩ (.slice none 0 0)) := ⟨_, rfl⟩
          rw [← hW7]
          have K97 : KeepBut (fun z => z = rb) W9 W7 := by
            rw [hW7]
            repeat (with_reducible refine KeepBut.setAt (S := fun z => z = rb) (.inl rfl) ?_ _)
            exact KeepBut.refl _ _
          have B7 : Hid (Box W7 rb #[.int .u32 0, .slice none 0 0, .slice none 0 0, .slice none 0 0, .int .i64 0, .int .u32 0, .slice none 0 0]) := Lib.hid (by
            rw [hW7]
            simpa using (((((((BI3.out.keep h9).set 0 (.int .u32 0)).set 1 (.slice none 0 0)).set 2 (.slice none 0 0)).set 3 (.slice none 0 0)).set 4 (.int .i64 0)).set 5 (.int .u32 0)).set 6 (.slice none 0 0))
          refine ⟨K97, ?_⟩
          have K37 := Lib.hid ((h9.but (fun z => z = rb)).trans K97)
          clear hW7 K97 ci fi h9
          go_simp
          apply Rel.every_one 4 (by kernel_rfl) (by rfl) (by rfl)
          intro W8 h8
          go_simp
          apply Rel.gives_value
          refine ⟨KeepBut.refl _ _, ?_⟩
          go_simp
          refine Rel.every_end (by kernel_rfl) ?_
          intro WA hA
          have BZ := Lib.hid ((B7.out.keep h8).keep hA)
          have KZ := Lib.hid ((K37.out.trans (h8.but _)).trans (hA.but _))
          have cz := BZ.out.cells
          clear hA h8 B7 K37
          go_wp2_with fail
          refine bodyPost_ret (v := .tuple #[.agg #[.int .u32 0, .slice none 0 0, .slice none 0 0, .slice none 0 0, .int .i64 0, .int .u32 0, .slice none 0 0], .iface 98 (.pointer (some ⟨q, 0, none⟩))]) (by simp [results, Tryz.results9, go_sem, cz]; done) rfl ?_
          have hlk := HLK.out
          have eV : lnkV m l size = noImg := by unfold lnkV; rw [hlk]
          have eW : lnkW m l size = some x := by unfold lnkW; rw [hlk]
          rw [eV, eW]
          have kall : KeepBut (fun z => z = b ∨ z = fb ∨ z = rb) w WA := (((K1.out.but _).trans (KB.out.mono (fun _ _ e => .inl e))).trans (HS3.out.mono (fun _ _ e => .inr (.inl e)))).trans (KZ.out.mono (fun _ _ e => .inr (.inr e)))
          refine ⟨kall.keep (by rintro z (rfl | rfl | rfl) <;> omega), .slice none 0 0, .slice none 0 0, .slice none 0 0, .slice none 0 0, [], faultP q, rfl, ?_, ((HL2.out.set BF3.out (by simp) HS3.out).set BI3.out (by simp) KZ.out)⟩
          have nl : SlAt WA (.slice none 0 0) 0 [] := ⟨none, 0, rfl, Nat.le_refl _, by unfold maxLen; omega, .inl rfl⟩
          exact ⟨nl, rfl, fun j p v a _ => by simp [noImg] at a, nl, nl, nl⟩
      · have CC := Lib.hid (S1.out wq HP.out HK.out)
        have ck := (BS.out.keep HK.out).cells
        go_wp2_with fail
        first | go_at_fn 22 | go_at_call 22 | skip
        refine CC.out.mono ?_
        rintro e w2 ⟨u, rfl, hL, hk2⟩
        have HL := Lib.hid hL
        have HK2 := Lib.hid hk2
        clear hL hk2 CC ck
        have HPX := HP.out
        rcases hx : stepE m l size 1 with _ | x
        · obtain rfl : u = .nilIface := by
            have h := HL.out
            rw [hx] at h
            exact h
          have HX := Lib.hid hx
          clear hx HPX
          go_wp2_with fail
          refine (as_nilL fb w2).mono ?_
          rintro e w3 ⟨rfl, hk3⟩
          have HK3 := Lib.hid hk3
          clear hk3
          go_wp2_with fail
          go_roundw
          case rel =>
            refine ⟨2, by omega, by go_num, fun j hj => ?_, fun _ => (HK.out.trans HK2.out).trans HK3.out, ?_⟩
            · by_cases e : j = 1
              · rw [e]; exact HX.out
              · exact HP.out j (by omega)
            · intro h
              exact absurd h (by omega)
          case measure => simp [intOf]
        · have hL2 := HL.out
          rw [hx] at hL2
          obtain ⟨q, rfl⟩ := hL2.bad
          have hlk := lnkL_step HF.out hx HPX
          have KB2 : KeepBut (fun z => z = b) W1 w2 := (HK.out.trans HK2.out).but _
          have BF2 : Box w2 fb #[.pointer none] := BF.out.but KB2 (by omega)
          have E2 : ErrT w2 := HE.out.keep (K1.out.butNew KB2 (fun x hx => by omega))
          have KB := Lib.hid KB2
          have BF3 := Lib.hid BF2
          have E3 := Lib.hid E2
          have HLK := Lib.hid hlk
          have HL2 := Lib.hid hL2
          clear hx HPX hL2 hlk KB2 BF2 E2 HL HK2
          unfold faultP
          go_wp2_with fail
          refine (as_once fb q (.pointer none) w2 E3.out BF3.out (by omega)).mono ?_
          rintro e w3 ⟨rfl, hs3, hB3⟩
          have HS3 := Lib.hid hs3.1
          have HB3 := Lib.hid hB3
          have BI3 := Lib.hid ((BI.out.but KB.out (by omega)).but hs3.1 (by omega))
          clear hs3 hB3
          go_wp2_with fail
          refine Rel.regionP (KeepBut (fun z => z = rb)) (butWay _) [] [0, 1, 2] 2 (by kernel_rfl) (by kernel_rfl) (Keep.refl _) ?_
          repeat (apply Rel.pre_step (by rfl) (by rfl) (by rfl)
                  · intro W' hW'
                    have cf := (HB3.out.but hW' (by omega)).cells
                    go_simp
                    exact ⟨rfl, Keep.refl _⟩
                  go_simp)
          apply Rel.pre_end
          apply Rel.every_one 3 (by kernel_rfl) (by rfl) (by rfl)
          intro W9 h9
          have ci := (BI3.out.keep h9).cells
          have fi := (BI3.out.keep h9).thawed
          go_simp
          apply Rel.gives_skip
          obtain ⟨W7, hW7⟩ : ∃ W7, W7 = (((((((W9.setCell ⟨rb, 0, none⟩ (.int .u32 0)).setCell ⟨rb, 1, none⟩ (.slice none 0 0)).setCell ⟨rb, 2, none⟩ (.slice none 0 0)).setCell ⟨rb, 3, none⟩ (.slice none 0 0)).setCell ⟨rb, 4, none⟩ (.int .i64 0)).setCell ⟨rb, 5, none⟩ (.int .u32 0)).setCell ⟨rb, 6, none⟩ (.slice none 0 0)) := ⟨_, rfl⟩
          rw [← hW7]
          have K97 : KeepBut (fun z => z = rb) W9 W7 := by
            rw [hW7]
            repeat (with_reducible refine KeepBut.setAt (S := fun z => z = rb) (.inl rfl) ?_ _)
            exact KeepBut.refl _ _
          have B7 : Hid (Box W7 rb #[.int .u32 0, .slice none 0 0, .slice none 0 0, .slice none 0 0, .int .i64 0, .int .u32 0, .slice none 0 0]) := Lib.hid (by
            rw [hW7]
            simpa using (((((((BI3.out.keep h9).set 0 (.int .u32 0)).set 1 (.slice none 0 0)).set 2 (.slice none 0 0)).set 3 (.slice none 0 0)).set 4 (.int .i64 0)).set 5 (.int .u32 0)).set 6 (.slice none 0 0))
          refine ⟨K97, ?_⟩
          have K37 := Lib.hid ((h9.but (fun z => z = rb)).trans K97)
          clear hW7 K97 ci fi h9
          go_simp
          apply Rel.every_one 4 (by kernel_rfl) (by rfl) (by rfl)
          intro W8 h8
          go_simp
          apply Rel.gives_value
          refine ⟨KeepBut.refl _ _, ?_⟩
          go_simp
          refine Rel.every_end (by kernel_rfl) ?_
          intro WA hA
          have BZ := Lib.hid ((B7.out.keep h8).keep hA)
          have KZ := Lib.hid ((K37.out.trans (h8.but _)).trans (hA.but _))
          have cz := BZ.out.cells
          clear hA h8 B7 K37
          go_wp2_with fail
          refine bodyPost_ret (v := .tuple #[.agg #[.int .u32 0, .slice none 0 0, .slice none 0 0, .slice none 0 0, .int .i64 0, .int .u32 0, .slice none 0 0], .iface 98 (.pointer (some ⟨q, 0, none⟩))]) (by simp [results, Tryz.results9, go_sem, cz]; done) rfl ?_
          have hlk := HLK.out
          have eV : lnkV m l size = noImg := by unfold lnkV; rw [hlk]
          have eW : lnkW m l size = some x := by unfold lnkW; rw [hlk]
          rw [eV, eW]
          have kall : KeepBut (fun z => z = b ∨ z = fb ∨ z = rb) w WA := (((K1.out.but _).trans (KB.out.mono (fun _ _ e => .inl e))).trans (HS3.out.mono (fun _ _ e => .inr (.inl e)))).trans (KZ.out.mono (fun _ _ e => .inr (.inr e)))
          refine ⟨kall.keep (by rintro z (rfl | rfl | rfl) <;> omega), .slice none 0 0, .slice none 0 0, .slice none 0 0, .slice none 0 0, [], faultP q, rfl, ?_, ((HL2.out.set BF3.out (by simp) HS3.out).set BI3.out (by simp) KZ.out)⟩
          have nl : SlAt WA (.slice none 0 0) 0 [] := ⟨none, 0, rfl, Nat.le_refl _, by unfold maxLen; omega, .inl rfl⟩
          exact ⟨nl, rfl, fun j p v a _ => by simp [noImg] at a, nl, nl, nl⟩
      · have CC := Lib.hid (S2.out wq HP.out HK.out)
        have ck := (BS.out.keep HK.out).cells
        go_wp2_with fail
        first | go_at_fn 23 | go_at_call 23 | skip
        refine CC.out.mono ?_
        rintro e w2 ⟨u, rfl, hL, hk2⟩
        have HL := Lib.hid hL
        have HK2 := Lib.hid hk2
        clear hL hk2 CC ck
        have HPX := HP.out
        rcases hx : stepE m l size 2 with _ | x
        · obtain rfl : u = .nilIface := by
            have h := HL.out
            rw [hx] at h
            exact h
          have HX := Lib.hid hx
          clear hx HPX
          go_wp2_with fail
          refine (as_nilL fb w2).mono ?_
          rintro e w3 ⟨rfl, hk3⟩
          have HK3 := Lib.hid hk3
          clear hk3
          go_wp2_with fail
          go_roundw
          case rel =>
            refine ⟨3, by omega, by go_num, fun j hj => ?_, fun _ => (HK.out.trans HK2.out).trans HK3.out, ?_⟩
            · by_cases e : j = 2
              · rw [e]; exact HX.out
              · exact HP.out j (by omega)
            · intro h
              exact absurd h (by omega)
          case measure => simp [intOf]
        · have hL2 := HL.out
          rw [hx] at hL2
          obtain ⟨q, rfl⟩ := hL2.bad
          have hlk := lnkL_step HF.out hx HPX
          have KB2 : KeepBut (fun z => z = b) W1 w2 := (HK.out.trans HK2.out).but _
          have BF2 : Box w2 fb #[.pointer none] := BF.out.but KB2 (by omega)
          have E2 : ErrT w2 := HE.out.keep (K1.out.butNew KB2 (fun x hx => by omega))
          have KB := Lib.hid KB2
          have BF3 := Lib.hid BF2
          have E3 := Lib.hid E2
          have HLK := Lib.hid hlk
          have HL2 := Lib.hid hL2
          clear hx HPX hL2 hlk KB2 BF2 E2 HL HK2
          unfold faultP
          go_wp2_with fail
          refine (as_once fb q (.pointer none) w2 E3.out BF3.out (by omega)).mono ?_
          rintro e w3 ⟨rfl, hs3, hB3⟩
          have HS3 := Lib.hid hs3.1
          have HB3 := Lib.hid hB3
          have BI3 := Lib.hid ((BI.out.but KB.out (by omega)).but hs3.1 (by omega))
          clear hs3 hB3
          go_wp2_with fail
          refine Rel.regionP (KeepBut (fun z => z = rb)) (butWay _) [] [0, 1, 2] 2 (by kernel_rfl) (by kernel_rfl) (Keep.refl _) ?_
          repeat (apply Rel.pre_step (by rfl) (by rfl) (by rfl)
                  · intro W' hW'
                    have cf := (HB3.out.but hW' (by omega)).cells
                    go_simp
                    exact ⟨rfl, Keep.refl _⟩
                  go_simp)
          apply Rel.pre_end
          apply Rel.every_one 3 (by kernel_rfl) (by rfl) (by rfl)
          intro W9 h9
          have ci := (BI3.out.keep h9).cells
          have fi := (BI3.out.keep h9).thawed
          go_simp
          apply Rel.gives_skip
          obtain ⟨W7, hW7⟩ : ∃ W7, W7 = (((((((W9.setCell ⟨rb, 0, none⟩ (.int .u32 0)).setCell ⟨rb, 1, none⟩ (.slice none 0 0)).setCell ⟨rb, 2, none⟩ (.slice none 0 0)).setCell ⟨rb, 3, none⟩ (.slice none 0 0)).setCell ⟨rb, 4, none⟩ (.int .i64 0)).setCell ⟨rb, 5, none⟩ (.int .u32 0)).setCell ⟨rb, 6, none⟩ (.slice none 0 0)) := ⟨_, rfl⟩
          rw [← hW7]
          have K97 : KeepBut (fun z => z = rb) W9 W7 := by
            rw [hW7]
            repeat (with_reducible refine KeepBut.setAt (S := fun z => z = rb) (.inl rfl) ?_ _)
            exact KeepBut.refl _ _
          have B7 : Hid (Box W7 rb #[.int .u32 0, .slice none 0 0, .slice none 0 0, .slice none 0 0, .int .i64 0, .int .u32 0, .slice none 0 0]) := Lib.hid (by
            rw [hW7]
            simpa using (((((((BI3.out.keep h9).set 0 (.int .u32 0)).set 1 (.slice none 0 0)).set 2 (.slice none 0 0)).set 3 (.slice none 0 0)).set 4 (.int .i64 0)).set 5 (.int .u32 0)).set 6 (.slice none 0 0))
          refine ⟨K97, ?_⟩
          have K37 := Lib.hid ((h9.but (fun z => z = rb)).trans K97)
          clear hW7 K97 ci fi h9
          go_simp
          apply Rel.every_one 4 (by kernel_rfl) (by rfl) (by rfl)
          intro W8 h8
          go_simp
          apply Rel.gives_value
          refine ⟨KeepBut.refl _ _, ?_⟩
          go_simp
          refine Rel.every_end (by kernel_rfl) ?_
          intro WA hA
          have BZ := Lib.hid ((B7.out.keep h8).keep hA)
          have KZ := Lib.hid ((K37.out.trans (h8.but _)).trans (hA.but _))
          have cz := BZ.out.cells
          clear hA h8 B7 K37
          go_wp2_with fail
          refine bodyPost_ret (v := .tuple #[.agg #[.int .u32 0, .slice none 0 0, .slice none 0 0, .slice none 0 0, .int .i64 0, .int .u32 0, .slice none 0 0], .iface 98 (.pointer (some ⟨q, 0, none⟩))]) (by simp [results, Tryz.results9, go_sem, cz]; done) rfl ?_
          have hlk := HLK.out
          have eV : lnkV m l size = noImg := by unfold lnkV; rw [hlk]
          have eW : lnkW m l size = some x := by unfold lnkW; rw [hlk]
          rw [eV, eW]
          have kall : KeepBut (fun z => z = b ∨ z = fb ∨ z = rb) w WA := (((K1.out.but _).trans (KB.out.mono (fun _ _ e => .inl e))).trans (HS3.out.mono (fun _ _ e => .inr (.inl e)))).trans (KZ.out.mono (fun _ _ e => .inr (.inr e)))
          refine ⟨kall.keep (by rintro z (rfl | rfl | rfl) <;> omega), .slice none 0 0, .slice none 0 0, .slice none 0 0, .slice none 0 0, [], faultP q, rfl, ?_, ((HL2.out.set BF3.out (by simp) HS3.out).set BI3.out (by simp) KZ.out)⟩
          have nl : SlAt WA (.slice none 0 0) 0 [] := ⟨none, 0, rfl, Nat.le_refl _, by unfold maxLen; omega, .inl rfl⟩
          exact ⟨nl, rfl, fun j p v a _ => by simp [noImg] at a, nl, nl, nl⟩
      · have CC := Lib.hid (S3.out wq HP.out HK.out)
        have ck := (BS.out.keep HK.out).cells
        go_wp2_with fail
        first | go_at_fn 24 | go_at_call 24 | skip
        refine CC.out.mono ?_
        rintro e w2 ⟨u, rfl, hL, hk2⟩
        have HL := Lib.hid hL
        have HK2 := Lib.hid hk2
        clear hL hk2 CC ck
        have HPX := HP.out
        rcases hx : stepE m l size 3 with _ | x
        · obtain rfl : u = .nilIface := by
            have h := HL.out
            rw [hx] at h
            exact h
          have HX := Lib.hid hx
          clear hx HPX
          go_wp2_with fail
          refine (as_nilL fb w2).mono ?_
          rintro e w3 ⟨rfl, hk3⟩
          have HK3 := Lib.hid hk3
          clear hk3
          go_wp2_with fail
          go_roundw
          case rel =>
            refine ⟨4, by omega, by go_num, fun j hj => ?_, fun _ => (HK.out.trans HK2.out).trans HK3.out, ?_⟩
            · by_cases e : j = 3
              · rw [e]; exact HX.out
              · exact HP.out j (by omega)
            · intro h
              exact absurd h (by omega)
          case measure => simp [intOf]
        · have hL2 := HL.out
          rw [hx] at hL2
          obtain ⟨q, rfl⟩ := hL2.bad
          have hlk := lnkL_step HF.out hx HPX
          have KB2 : KeepBut (fun z => z = b) W1 w2 := (HK.out.trans HK2.out).but _
          have BF2 : Box w2 fb #[.pointer none] := BF.out.but KB2 (by omega)
          have E2 : ErrT w2 := HE.out.keep (K1.out.butNew KB2 (fun x hx => by omega))
          have KB := Lib.hid KB2
          have BF3 := Lib.hid BF2
          have E3 := Lib.hid E2
          have HLK := Lib.hid hlk
          have HL2 := Lib.hid hL2
          clear hx HPX hL2 hlk KB2 BF2 E2 HL HK2
          unfold faultP
          go_wp2_with fail
          refine (as_once fb q (.pointer none) w2 E3.out BF3.out (by omega)).mono ?_
          rintro e w3 ⟨rfl, hs3, hB3⟩
          have HS3 := Lib.hid hs3.1
          have HB3 := Lib.hid hB3
          have BI3 := Lib.hid ((BI.out.but KB.out (by omega)).but hs3.1 (by omega))
          clear hs3 hB3
          go_wp2_with fail
          refine Rel.regionP (KeepBut (fun z => z = rb)) (butWay _) [] [0, 1, 2] 2 (by kernel_rfl) (by kernel_rfl) (Keep.refl _) ?_
          repeat (apply Rel.pre_step (by rfl) (by rfl) (by rfl)
                  · intro W' hW'
                    have cf := (HB3.out.but hW' (by omega)).cells
                    go_simp
                    exact ⟨rfl, Keep.refl _⟩
                  go_simp)
          apply Rel.pre_end
          apply Rel.every_one 3 (by kernel_rfl) (by rfl) (by rfl)
          intro W9 h9
          have ci := (BI3.out.keep h9).cells
          have fi := (BI3.out.keep h9).thawed
          go_simp
          apply Rel.gives_skip
          obtain ⟨W7, hW7⟩ : ∃ W7, W7 = (((((((W9.setCell ⟨rb, 0, none⟩ (.int .u32 0)).setCell ⟨rb, 1, none⟩ (.slice none 0 0)).setCell ⟨rb, 2, none⟩ (.slice none 0 0)).setCell ⟨rb, 3, none⟩ (.slice none 0 0)).setCell ⟨rb, 4, none⟩ (.int .i64 0)).setCell ⟨rb, 5, none⟩ (.int .u32 0)).setCell ⟨rb, 6, none⟩ (.slice none 0 0)) := ⟨_, rfl⟩
          rw [← hW7]
          have K97 : KeepBut (fun z => z = rb) W9 W7 := by
            rw [hW7]
            repeat (with_reducible refine KeepBut.setAt (S := fun z => z = rb) (.inl rfl) ?_ _)
            exact KeepBut.refl _ _
          have B7 : Hid (Box W7 rb #[.int .u32 0, .slice none 0 0, .slice none 0 0, .slice none 0 0, .int .i64 0, .int .u32 0, .slice none 0 0]) := Lib.hid (by
            rw [hW7]
            simpa using (((((((BI3.out.keep h9).set 0 (.int .u32 0)).set 1 (.slice none 0 0)).set 2 (.slice none 0 0)).set 3 (.slice none 0 0)).set 4 (.int .i64 0)).set 5 (.int .u32 0)).set 6 (.slice none 0 0))
          refine ⟨K97, ?_⟩
          have K37 := Lib.hid ((h9.but (fun z => z = rb)).trans K97)
          clear hW7 K97 ci fi h9
          go_simp
          apply Rel.every_one 4 (by kernel_rfl) (by rfl) (by rfl)
          intro W8 h8
          go_simp
          apply Rel.gives_value
          refine ⟨KeepBut.refl _ _, ?_⟩
          go_simp
          refine Rel.every_end (by kernel_rfl) ?_
          intro WA hA
          have BZ := Lib.hid ((B7.out.keep h8).keep hA)
          have KZ := Lib.hid ((K37.out.trans (h8.but _)).trans (hA.but _))
          have cz := BZ.out.cells
          clear hA h8 B7 K37
          go_wp2_with fail
          refine bodyPost_ret (v := .tuple #[.agg #[.int .u32 0, .slice none 0 0, .slice none 0 0, .slice none 0 0, .int .i64 0, .int .u32 0, .slice none 0 0], .iface 98 (.pointer (some ⟨q, 0, none⟩))]) (by simp [results, Tryz.results9, go_sem, cz]; done) rfl ?_
          have hlk := HLK.out
          have eV : lnkV m l size = noImg := by unfold lnkV; rw [hlk]
          have eW : lnkW m l size = some x := by unfold lnkW; rw [hlk]
          rw [eV, eW]
          have kall : KeepBut (fun z => z = b ∨ z = fb ∨ z = rb) w WA := (((K1.out.but _).trans (KB.out.mono (fun _ _ e => .inl e))).trans (HS3.out.mono (fun _ _ e => .inr (.inl e)))).trans (KZ.out.mono (fun _ _ e => .inr (.inr e)))
          refine ⟨kall.keep (by rintro z (rfl | rfl | rfl) <;> omega), .slice none 0 0, .slice none 0 0, .slice none 0 0, .slice none 0 0, [], faultP q, rfl, ?_, ((HL2.out.set BF3.out (by simp) HS3.out).set BI3.out (by simp) KZ.out)⟩
          have nl : SlAt WA (.slice none 0 0) 0 [] := ⟨none, 0, rfl, Nat.le_refl _, by unfold maxLen; omega, .inl rfl⟩
          exact ⟨nl, rfl, fun j p v a _ => by simp [noImg] at a, nl, nl, nl⟩
      · have CC := Lib.hid (S4.out wq HP.out HK.out)
        have ck := (BS.out.keep HK.out).cells
        go_wp2_with fail
        first | go_at_fn 25 | go_at_call 25 | skip
        refine CC.out.mono ?_
        rintro e w2 ⟨u, rfl, hL, hk2⟩
        have HL := Lib.hid hL
        have HK2 := Lib.hid hk2
        clear hL hk2 CC ck
        have HPX := HP.out
        rcases hx : stepE m l size 4 with _ | x
        · obtain rfl : u = .nilIface := by
            have h := HL.out
            rw [hx] at h
            exact h
          have HX := Lib.hid hx
          clear hx HPX
          go_wp2_with fail
          refine (as_nilL fb w2).mono ?_
          rintro e w3 ⟨rfl, hk3⟩
          have HK3 := Lib.hid hk3
          clear hk3
          go_wp2_with fail
          go_roundw
          case rel =>
            refine ⟨5, by omega, by go_num, fun j hj => ?_, fun _ => (HK.out.trans HK2.out).trans HK3.out, ?_⟩
            · by_cases e : j = 4
              · rw [e]; exact HX.out
              · exact HP.out j (by omega)
            · intro h
              exact absurd h (by omega)
          case measure => simp [intOf]
        · have hL2 := HL.out
          rw [hx] at hL2
          obtain ⟨q, rfl⟩ := hL2.bad
          have hlk := lnkL_step HF.out hx HPX
          have KB2 : KeepBut (fun z => z = b) W1 w2 := (HK.out.trans HK2.out).but _
          have BF2 : Box w2 fb #[.pointer none] := BF.out.but KB2 (by omega)
          have E2 : ErrT w2 := HE.out.keep (K1.out.butNew KB2 (fun x hx => by omega))
          have KB := Lib.hid KB2
          have BF3 := Lib.hid BF2
          have E3 := Lib.hid E2
          have HLK := Lib.hid hlk
          have HL2 := Lib.hid hL2
          clear hx HPX hL2 hlk KB2 BF2 E2 HL HK2
          unfold faultP
          go_wp2_with fail
          refine (as_once fb q (.pointer none) w2 E3.out BF3.out (by omega)).mono ?_
          rintro e w3 ⟨rfl, hs3, hB3⟩
          have HS3 := Lib.hid hs3.1
          have HB3 := Lib.hid hB3
          have BI3 := Lib.hid ((BI.out.but KB.out (by omega)).but hs3.1 (by omega))
          clear hs3 hB3
          go_wp2_with fail
          refine Rel.regionP (KeepBut (fun z => z = rb)) (butWay _) [] [0, 1, 2] 2 (by kernel_rfl) (by kernel_rfl) (Keep.refl _) ?_
          repeat (apply Rel.pre_step (by rfl) (by rfl) (by rfl)
                  · intro W' hW'
                    have cf := (HB3.out.but hW' (by omega)).cells
                    go_simp
                    exact ⟨rfl, Keep.refl _⟩
                  go_simp)
          apply Rel.pre_end
          apply Rel.every_one 3 (by kernel_rfl) (by rfl) (by rfl)
          intro W9 h9
          have ci := (BI3.out.keep h9).cells
          have fi := (BI3.out.keep h9).thawed
          go_simp
          apply Rel.gives_skip
          obtain ⟨W7, hW7⟩ : ∃ W7, W7 = (((((((W9.setCell ⟨rb, 0, none⟩ (.int .u32 0)).setCell ⟨rb, 1, none⟩ (.slice none 0 0)).setCell ⟨rb, 2, none⟩ (.slice none 0 0)).setCell ⟨rb, 3, none⟩ (.slice none 0 0)).setCell ⟨rb, 4, none⟩ (.int .i64 0)).setCell ⟨rb, 5, none⟩ (.int .u32 0)).setCell ⟨rb, 6, none⟩ (.slice none 0 0)) := ⟨_, rfl⟩
          rw [← hW7]
          have K97 : KeepBut (fun z => z = rb) W9 W7 := by
            rw [hW7]
            repeat (with_reducible refine KeepBut.setAt (S := fun z => z = rb) (.inl rfl) ?_ _)
            exact KeepBut.refl _ _
          have B7 : Hid (Box W7 rb #[.int .u32 0, .slice none 0 0, .slice none 0 0, .slice none 0 0, .int .i64 0, .int .u32 0, .slice none 0 0]) := Lib.hid (by
            rw [hW7]
            simpa using (((((((BI3.out.keep h9).set 0 (.int .u32 0)).set 1 (.slice none 0 0)).set 2 (.slice none 0 0)).set 3 (.slice none 0 0)).set 4 (.int .i64 0)).set 5 (.int .u32 0)).set 6 (.slice none 0 0))
          refine ⟨K97, ?_⟩
          have K37 := Lib.hid ((h9.but (fun z => z = rb)).trans K97)
          clear hW7 K97 ci fi h9
          go_simp
          apply Rel.every_one 4 (by kernel_rfl) (by rfl) (by rfl)
          intro W8 h8
          go_simp
          apply Rel.gives_value
          refine ⟨KeepBut.refl _ _, ?_⟩
          go_simp
          refine Rel.every_end (by kernel_rfl) ?_
          intro WA hA
          have BZ := Lib.hid ((B7.out.keep h8).keep hA)
          have KZ := Lib.hid ((K37.out.trans (h8.but _)).trans (hA.but _))
          have cz := BZ.out.cells
          clear hA h8 B7 K37
          go_wp2_with fail
          refine bodyPost_ret (v := .tuple #[.agg #[.int .u32 0, .slice none 0 0, .slice none 0 0, .slice none 0 0, .int .i64 0, .int .u32 0, .slice none 0 0], .iface 98 (.pointer (some ⟨q, 0, none⟩))]) (by simp [results, Tryz.results9, go_sem, cz]; done) rfl ?_
          have hlk := HLK.out
          have eV : lnkV m l size = noImg := by unfold lnkV; rw [hlk]
          have eW : lnkW m l size = some x := by unfold lnkW; rw [hlk]
          rw [eV, eW]
          have kall : KeepBut (fun z => z = b ∨ z = fb ∨ z = rb) w WA := (((K1.out.but _).trans (KB.out.mono (fun _ _ e => .inl e))).trans (HS3.out.mono (fun _ _ e => .inr (.inl e)))).trans (KZ.out.mono (fun _ _ e => .inr (.inr e)))
          refine ⟨kall.keep (by rintro z (rfl | rfl | rfl) <;> omega), .slice none 0 0, .slice none 0 0, .slice none 0 0, .slice none 0 0, [], faultP q, rfl, ?_, ((HL2.out.set BF3.out (by simp) HS3.out).set BI3.out (by simp) KZ.out)⟩
          have nl : SlAt WA (.slice none 0 0) 0 [] := ⟨none, 0, rfl, Nat.le_refl _, by unfold maxLen; omega, .inl rfl⟩
          exact ⟨nl, rfl, fun j p v a _ => by simp [noImg] at a, nl, nl, nl⟩
      · have CC := Lib.hid (S5.out wq HP.out HK.out)
        have ck := (BS.out.keep HK.out).cells
        go_wp2_with fail
        first | go_at_fn 26 | go_at_call 26 | skip
        refine CC.out.mono ?_
        rintro e w2 ⟨u, rfl, hL, hk2⟩
        have HL := Lib.hid hL
        have HK2 := Lib.hid hk2
        clear hL hk2 CC ck
        have HPX := HP.out
        rcases hx : stepE m l size 5 with _ | x
        · obtain rfl : u = .nilIface := by
            have h := HL.out
            rw [hx] at h
            exact h
          have HX := Lib.hid hx
          clear hx HPX
          go_wp2_with fail
          refine (as_nilL fb w2).mono ?_
          rintro e w3 ⟨rfl, hk3⟩
          have HK3 := Lib.hid hk3
          clear hk3
          go_wp2_with fail
          go_roundw
          case rel =>
            refine ⟨6, by omega, by go_num, fun j hj => ?_, fun _ => (HK.out.trans HK2.out).trans HK3.out, ?_⟩
            · by_cases e : j = 5
              · rw [e]; exact HX.out
              · exact HP.out j (by omega)
            · intro h
              exact absurd h (by omega)
          case measure => simp [intOf]
        · have hL2 := HL.out
          rw [hx] at hL2
          obtain ⟨q, rfl⟩ := hL2.bad
          have hlk := lnkL_step HF.out hx HPX
          have KB2 : KeepBut (fun z => z = b) W1 w2 := (HK.out.trans HK2.out).but _
          have BF2 : Box w2 fb #[.pointer none] := BF.out.but KB2 (by omega)
          have E2 : ErrT w2 := HE.out.keep (K1.out.butNew KB2 (fun x hx => by omega))
          have KB := Lib.hid KB2
          have BF3 := Lib.hid BF2
          have E3 := Lib.hid E2
          have HLK := Lib.hid hlk
          have HL2 := Lib.hid hL2
          clear hx HPX hL2 hlk KB2 BF2 E2 HL HK2
          unfold faultP
          go_wp2_with fail
          refine (as_once fb q (.pointer none) w2 E3.out BF3.out (by omega)).mono ?_
          rintro e w3 ⟨rfl, hs3, hB3⟩
          have HS3 := Lib.hid hs3.1
          have HB3 := Lib.hid hB3
          have BI3 := Lib.hid ((BI.out.but KB.out (by omega)).but hs3.1 (by omega))
          clear hs3 hB3
          go_wp2_with fail
          refine Rel.regionP (KeepBut (fun z => z = rb)) (butWay _) [] [0, 1, 2] 2 (by kernel_rfl) (by kernel_rfl) (Keep.refl _) ?_
          repeat (apply Rel.pre_step (by rfl) (by rfl) (by rfl)
                  · intro W' hW'
                    have cf := (HB3.out.but hW' (by omega)).cells
                    go_simp
                    exact ⟨rfl, Keep.refl _⟩
                  go_simp)
          apply Rel.pre_end
          apply Rel.every_one 3 (by kernel_rfl) (by rfl) (by rfl)
          intro W9 h9
          have ci := (BI3.out.keep h9).cells
          have fi := (BI3.out.keep h9).thawed
          go_simp
          apply Rel.gives_skip
          obtain ⟨W7, hW7⟩ : ∃ W7, W7 = (((((((W9.setCell ⟨rb, 0, none⟩ (.int .u32 0)).setCell ⟨rb, 1, none⟩ (.slice none 0 0)).setCell ⟨rb, 2, none⟩ (.slice none 0 0)).setCell ⟨rb, 3, none⟩ (.slice none 0 0)).setCell ⟨rb, 4, none⟩ (.int .i64 0)).setCell ⟨rb, 5, none⟩ (.int .u32 0)).setCell ⟨rb, 6, none⟩ (.slice none 0 0)) := ⟨_, rfl⟩
          rw [← hW7]
          have K97 : KeepBut (fun z => z = rb) W9 W7 := by
            rw [hW7]
            repeat (with_reducible refine KeepBut.setAt (S := fun z => z = rb) (.inl rfl) ?_ _)
            exact KeepBut.refl _ _
          have B7 : Hid (Box W7 rb #[.int .u32 0, .slice none 0 0, .slice none 0 0, .slice none 0 0, .int .i64 0, .int .u32 0, .slice none 0 0]) := Lib.hid (by
            rw [hW7]
            simpa using (((((((BI3.out.keep h9).set 0 (.int .u32 0)).set 1 (.slice none 0 0)).set 2 (.slice none 0 0)).set 3 (.slice none 0 0)).set 4 (.int .i64 0)).set 5 (.int .u32 0)).set 6 (.slice none 0 0))
          refine ⟨K97, ?_⟩
          have K37 := Lib.hid ((h9.but (fun z => z = rb)).trans K97)
          clear hW7 K97 ci fi h9
          go_simp
          apply Rel.every_one 4 (by kernel_rfl) (by rfl) (by rfl)
          intro W8 h8
          go_simp
          apply Rel.gives_value
          refine ⟨KeepBut.refl _ _, ?_⟩
          go_simp
          refine Rel.every_end (by kernel_rfl) ?_
          intro WA hA
          have BZ := Lib.hid ((B7.out.keep h8).keep hA)
          have KZ := Lib.hid ((K37.out.trans (h8.but _)).trans (hA.but _))
          have cz := BZ.out.cells
          clear hA h8 B7 K37
          go_wp2_with fail
          refine bodyPost_ret (v := .tuple #[.agg #[.int .u32 0, .slice none 0 0, .slice none 0 0, .slice none 0 0, .int .i64 0, .int .u32 0, .slice none 0 0], .iface 98 (.pointer (some ⟨q, 0, none⟩))]) (by simp [results, Tryz.results9, go_sem, cz]; done) rfl ?_
          have hlk := HLK.out
          have eV : lnkV m l size = noImg := by unfold lnkV; rw [hlk]
          have eW : lnkW m l size = some x := by unfold lnkW; rw [hlk]
          rw [eV, eW]
          have kall : KeepBut (fun z => z = b ∨ z = fb ∨ z = rb) w WA := (((K1.out.but _).trans (KB.out.mono (fun _ _ e => .inl e))).trans (HS3.out.mono (fun _ _ e => .inr (.inl e)))).trans (KZ.out.mono (fun _ _ e => .inr (.inr e)))
          refine ⟨kall.keep (by rintro z (rfl | rfl | rfl) <;> omega), .slice none 0 0, .slice none 0 0, .slice none 0 0, .slice none 0 0, [], faultP q, rfl, ?_, ((HL2.out.set BF3.out (by simp) HS3.out).set BI3.out (by simp) KZ.out)⟩
          have nl : SlAt WA (.slice none 0 0) 0 [] := ⟨none, 0, rfl, Nat.le_refl _, by unfold maxLen; omega, .inl rfl⟩
          exact ⟨nl, rfl, fun j p v a _ => by simp [noImg] at a, nl, nl, nl⟩
      · have CC := Lib.hid (S6.out wq HP.out HK.out)
        have ck := (BS.out.keep HK.out).cells
        go_wp2_with fail
        first | go_at_fn 27 | go_at_call 27 | skip
        refine CC.out.mono ?_
        rintro e w2 ⟨u, rfl, hL, hk2⟩
        have HL := Lib.hid hL
        have HK2 := Lib.hid hk2
        clear hL hk2 CC ck
        have HPX := HP.out
        rcases hx : stepE m l size 6 with _ | x
        · obtain rfl : u = .nilIface := by
            have h := HL.out
            rw [hx] at h
            exact h
          have HX := Lib.hid hx
          clear hx HPX
          go_wp2_with fail
          refine (as_nilL fb w2).mono ?_
          rintro e w3 ⟨rfl, hk3⟩
          have HK3 := Lib.hid hk3
          clear hk3
          go_wp2_with fail
          go_roundw
          case rel =>
            refine ⟨7, by omega, by go_num, fun j hj => ?_, fun _ => (HK.out.trans HK2.out).trans HK3.out, ?_⟩
            · by_cases e : j = 6
              · rw [e]; exact HX.out
              · exact HP.out j (by omega)
            · intro h
              exact absurd h (by omega)
          case measure => simp [intOf]
        · have hL2 := HL.out
          rw [hx] at hL2
          obtain ⟨q, rfl⟩ := hL2.bad
          have hlk := lnkL_step HF.out hx HPX
          have KB2 : KeepBut (fun z => z = b) W1 w2 := (HK.out.trans HK2.out).but _
          have BF2 : Box w2 fb #[.pointer none] := BF.out.but KB2 (by omega)
          have E2 : ErrT w2 := HE.out.keep (K1.out.butNew KB2 (fun x hx => by omega))
          have KB := Lib.hid KB2
          have BF3 := Lib.hid BF2
          have E3 := Lib.hid E2
          have HLK := Lib.hid hlk
          have HL2 := Lib.hid hL2
          clear hx HPX hL2 hlk KB2 BF2 E2 HL HK2
          unfold faultP
          go_wp2_with fail
          refine (as_once fb q (.pointer none) w2 E3.out BF3.out (by omega)).mono ?_
          rintro e w3 ⟨rfl, hs3, hB3⟩
          have HS3 := Lib.hid hs3.1
          have HB3 := Lib.hid hB3
          have BI3 := Lib.hid ((BI.out.but KB.out (by omega)).but hs3.1 (by omega))
          clear hs3 hB3
          go_wp2_with fail
          refine Rel.regionP (KeepBut (fun z => z = rb)) (butWay _) [] [0, 1, 2] 2 (by kernel_rfl) (by kernel_rfl) (Keep.refl _) ?_
          repeat (apply Rel.pre_step (by rfl) (by rfl) (by rfl)
                  · intro W' hW'
                    have cf := (HB3.out.but hW' (by omega)).cells
                    go_simp
                    exact ⟨rfl, Keep.refl _⟩
                  go_simp)
          apply Rel.pre_end
          apply Rel.every_one 3 (by kernel_rfl) (by rfl) (by rfl)
          intro W9 h9
          have ci := (BI3.out.keep h9).cells
          have fi := (BI3.out.keep h9).thawed
          go_simp
          apply Rel.gives_skip
          obtain ⟨W7, hW7⟩ : ∃ W7, W7 = (((((((W9.setCell ⟨rb, 0, none⟩ (.int .u32 0)).setCell ⟨rb, 1, none⟩ (.slice none 0 0)).setCell ⟨rb, 2, none⟩ (.slice none 0 0)).setCell ⟨rb, 3, none⟩ (.slice none 0 0)).setCell ⟨rb, 4, none⟩ (.int .i64 0)).setCell ⟨rb, 5, none⟩ (.int .u32 0)).setCell ⟨rb, 6, none⟩ (.slice none 0 0)) := ⟨_, rfl⟩
          rw [← hW7]
          have K97 : KeepBut (fun z => z = rb) W9 W7 := by
            rw [hW7]
            repeat (with_reducible refine KeepBut.setAt (S := fun z => z = rb) (.inl rfl) ?_ _)
            exact KeepBut.refl _ _
          have B7 : Hid (Box W7 rb #[.int .u32 0, .slice none 0 0, .slice none 0 0, .slice none 0 0, .int .i64 0, .int .u32 0, .slice none 0 0]) := Lib.hid (by
            rw [hW7]
            simpa using (((((((BI3.out.keep h9).set 0 (.int .u32 0)).set 1 (.slice none 0 0)).set 2 (.slice none 0 0)).set 3 (.slice none 0 0)).set 4 (.int .i64 0)).set 5 (.int .u32 0)).set 6 (.slice none 0 0))
          refine ⟨K97, ?_⟩
          have K37 := Lib.hid ((h9.but (fun z => z = rb)).trans K97)
          clear hW7 K97 ci fi h9
          go_simp
          apply Rel.every_one 4 (by kernel_rfl) (by rfl) (by rfl)
          intro W8 h8
          go_simp
          apply Rel.gives_value
          refine ⟨KeepBut.refl _ _, ?_⟩
          go_simp
          refine Rel.every_end (by kernel_rfl) ?_
          intro WA hA
          have BZ := Lib.hid ((B7.out.keep h8).keep hA)
          have KZ := Lib.hid ((K37.out.trans (h8.but _)).trans (hA.but _))
          have cz := BZ.out.cells
          clear hA h8 B7 K37
          go_wp2_with fail
          refine bodyPost_ret (v := .tuple #[.agg #[.int .u32 0, .slice none 0 0, .slice none 0 0, .slice none 0 0, .int .i64 0, .int .u32 0, .slice none 0 0], .iface 98 (.pointer (some ⟨q, 0, none⟩))]) (by simp [results, Tryz.results9, go_sem, cz]; done) rfl ?_
          have hlk := HLK.out
          have eV : lnkV m l size = noImg := by unfold lnkV; rw [hlk]
          have eW : lnkW m l size = some x := by unfold lnkW; rw [hlk]
          rw [eV, eW]
          have kall : KeepBut (fun z => z = b ∨ z = fb ∨ z = rb) w WA := (((K1.out.but _).trans (KB.out.mono (fun _ _ e => .inl e))).trans (HS3.out.mono (fun _ _ e => .inr (.inl e)))).trans (KZ.out.mono (fun _ _ e => .inr (.inr e)))
          refine ⟨kall.keep (by rintro z (rfl | rfl | rfl) <;> omega), .slice none 0 0, .slice none 0 0, .slice none 0 0, .slice none 0 0, [], faultP q, rfl, ?_, ((HL2.out.set BF3.out (by simp) HS3.out).set BI3.out (by simp) KZ.out)⟩
          have nl : SlAt WA (.slice none 0 0) 0 [] := ⟨none, 0, rfl, Nat.le_refl _, by unfold maxLen; omega, .inl rfl⟩
          exact ⟨nl, rfl, fun j p v a _ => by simp [noImg] at a, nl, nl, nl⟩
      · have CC := Lib.hid (S7.out wq HP.out HK.out)
        have ck := (BS.out.keep HK.out).cells
        go_wp2_with fail
        first | go_at_fn 28 | go_at_call 28 | skip
        refine CC.out.mono ?_
        rintro e w2 ⟨u, rfl, hL, hk2⟩
        have HL := Lib.hid hL
        have HK2 := Lib.hid hk2
        clear hL hk2 CC ck
        have HPX := HP.out
        rcases hx : stepE m l size 7 with _ | x
        · obtain rfl : u = .nilIface := by
            have h := HL.out
            rw [hx] at h
            exact h
          have HX := Lib.hid hx
          clear hx HPX
          go_wp2_with fail
          refine (as_nilL fb w2).mono ?_
          rintro e w3 ⟨rfl, hk3⟩
          have HK3 := Lib.hid hk3
          clear hk3
          go_wp2_with fail
          go_roundw
          case rel =>
            refine ⟨8, by omega, by go_num, fun j hj => ?_, fun h => absurd h (by omega), ?_⟩
            · by_cases e : j = 7
              · rw [e]; exact HX.out
              · exact HP.out j (by omega)
            · intro h
              obtain ⟨psv, ssv, ves, hi, hS⟩ := HK2.out; exact ⟨psv, ssv, ves, hi, hS.keep HK3.out⟩
          case measure => simp [intOf]
        · have hL2 := HL.out
          rw [hx] at hL2
          obtain ⟨q, rfl⟩ := hL2.bad
          have hlk := lnkL_step HF.out hx HPX
          have KB2 : KeepBut (fun z => z = b) W1 w2 := by obtain ⟨_, _, _, _, hS⟩ := HK2.out; exact hS.but
          have BF2 : Box w2 fb #[.pointer none] := BF.out.but KB2 (by omega)
          have E2 : ErrT w2 := HE.out.keep (K1.out.butNew KB2 (fun x hx => by omega))
          have KB := Lib.hid KB2
          have BF3 := Lib.hid BF2
          have E3 := Lib.hid E2
          have HLK := Lib.hid hlk
          have HL2 := Lib.hid hL2
          clear hx HPX hL2 hlk KB2 BF2 E2 HL HK2
          unfold faultP
          go_wp2_with fail
          refine (as_once fb q (.pointer none) w2 E3.out BF3.out (by omega)).mono ?_
          rintro e w3 ⟨rfl, hs3, hB3⟩
          have HS3 := Lib.hid hs3.1
          have HB3 := Lib.hid hB3
          have BI3 := Lib.hid ((BI.out.but KB.out (by omega)).but hs3.1 (by omega))
          clear hs3 hB3
          go_wp2_with fail
          refine Rel.regionP (KeepBut (fun z => z = rb)) (butWay _) [] [0, 1, 2] 2 (by kernel_rfl) (by kernel_rfl) (Keep.refl _) ?_
          repeat (apply Rel.pre_step (by rfl) (by rfl) (by rfl)
                  · intro W' hW'
                    have cf := (HB3.out.but hW' (by omega)).cells
                    go_simp
                    exact ⟨rfl, Keep.refl _⟩
                  go_simp)
          apply Rel.pre_end
          apply Rel.every_one 3 (by kernel_rfl) (by rfl) (by rfl)
          intro W9 h9
          have ci := (BI3.out.keep h9).cells
          have fi := (BI3.out.keep h9).thawed
          go_simp
          apply Rel.gives_skip
          obtain ⟨W7, hW7⟩ : ∃ W7, W7 = (((((((W9.setCell ⟨rb, 0, none⟩ (.int .u32 0)).setCell ⟨rb, 1, none⟩ (.slice none 0 0)).setCell ⟨rb, 2, none⟩ (.slice none 0 0)).setCell ⟨rb, 3, none⟩ (.slice none 0 0)).setCell ⟨rb, 4, none⟩ (.int .i64 0)).setCell ⟨rb, 5, none⟩ (.int .u32 0)).setCell ⟨rb, 6, none⟩ (.slice none 0 0)) := ⟨_, rfl⟩
          rw [← hW7]
          have K97 : KeepBut (fun z => z = rb) W9 W7 := by
            rw [hW7]
            repeat (with_reducible refine KeepBut.setAt (S := fun z => z = rb) (.inl rfl) ?_ _)
            exact KeepBut.refl _ _
          have B7 : Hid (Box W7 rb #[.int .u32 0, .slice none 0 0, .slice none 0 0, .slice none 0 0, .int .i64 0, .int .u32 0, .slice none 0 0]) := Lib.hid (by
            rw [hW7]
            simpa using (((((((BI3.out.keep h9).set 0 (.int .u32 0)).set 1 (.slice none 0 0)).set 2 (.slice none 0 0)).set 3 (.slice none 0 0)).set 4 (.int .i64 0)).set 5 (.int .u32 0)).set 6 (.slice none 0 0))
          refine ⟨K97, ?_⟩
          have K37 := Lib.hid ((h9.but (fun z => z = rb)).trans K97)
          clear hW7 K97 ci fi h9
          go_simp
          apply Rel.every_one 4 (by kernel_rfl) (by rfl) (by rfl)
          intro W8 h8
          go_simp
          apply Rel.gives_value
          refine ⟨KeepBut.refl _ _, ?_⟩
          go_simp
          refine Rel.every_end (by kernel_rfl) ?_
          intro WA hA
          have BZ := Lib.hid ((B7.out.keep h8).keep hA)
          have KZ := Lib.hid ((K37.out.trans (h8.but _)).trans (hA.but _))
          have cz := BZ.out.cells
          clear hA h8 B7 K37
          go_wp2_with fail
          refine bodyPost_ret (v := .tuple #[.agg #[.int .u32 0, .slice none 0 0, .slice none 0 0, .slice none 0 0, .int .i64 0, .int .u32 0, .slice none 0 0], .iface 98 (.pointer (some ⟨q, 0, none⟩))]) (by simp [results, Tryz.results9, go_sem, cz]; done) rfl ?_
          have hlk := HLK.out
          have eV : lnkV m l size = noImg := by unfold lnkV; rw [hlk]
          have eW : lnkW m l size = some x := by unfold lnkW; rw [hlk]
          rw [eV, eW]
          have kall : KeepBut (fun z => z = b ∨ z = fb ∨ z = rb) w WA := (((K1.out.but _).trans (KB.out.mono (fun _ _ e => .inl e))).trans (HS3.out.mono (fun _ _ e => .inr (.inl e)))).trans (KZ.out.mono (fun _ _ e => .inr (.inr e)))
          refine ⟨kall.keep (by rintro z (rfl | rfl | rfl) <;> omega), .slice none 0 0, .slice none 0 0, .slice none 0 0, .slice none 0 0, [], faultP q, rfl, ?_, ((HL2.out.set BF3.out (by simp) HS3.out).set BI3.out (by simp) KZ.out)⟩
          have nl : SlAt WA (.slice none 0 0) 0 [] := ⟨none, 0, rfl, Nat.le_refl _, by unfold maxLen; omega, .inl rfl⟩
          exact ⟨nl, rfl, fun j p v a _ => by simp [noImg] at a, nl, nl, nl⟩
    · obtain rfl : k = 8 := by omega
      obtain ⟨psv, ssv, ves, hi, hS⟩ := HL8.out rfl
      have hok := lnkL_all HF.out HP.out
      have H := lnkE_none.1 (lnkE_steps HF.out (fun j hj => HP.out j (by omega)))
      have NU : ImgNum (lnkI m l size) := by
        have := lnkV_num HF.out HMM.out size
        unfold lnkV at this
        rw [hok] at this
        exact this
      obtain ⟨pq, cq, rfl, _⟩ := hS.parts
      obtain ⟨sq, dq, rfl, _⟩ := hS.shares
      have hvs : ∀ (j : Nat) (v : Value), ves[j]? = some v → ∃ pv nv cv, v = .slice pv nv cv := by
        intro j v hv
        have hj : j < (lparts l m.comps 16).length := by
          rw [← hS.nves]
          exact (List.getElem?_eq_some_iff.1 hv).1
        obtain ⟨pv, cv, e, _⟩ := hS.ents j _ v (List.getElem?_eq_getElem hj) hv
        exact ⟨pv, _, cv, e⟩
      have Kq : Keep w wq := K1.out.butNew hS.but (fun x hx => by omega)
      have CF := Lib.hid (lkfill_any b m _ _ _ _ l _ qs _ _ (.int .i64 0) (.int .u32 0) size H HMM.out HF.out (lkAll_of HNQ.out (HP.out 2 (by omega))) (lkFroms H.man) (manW_more H.man).start.1 (by have := (manW_more H.man).comps.1; omega) (plH_of HMM.out HF.out H) NU ves hS.nves hvs W1.heap.size hi w wq HM.out HO.out Kq (by omega) (by omega) hS.le hS.parts hS.shares hS.box)
      have HS := Lib.hid hS
      have HOK := Lib.hid hok
      have BIq := Lib.hid (BI.out.but hS.but (by omega))
      clear hS hok H NU hvs Kq hp hK hL8 HL8 HP
      have hki : ¬ ((8 : Int) < 8) := by omega
      go_wp2_with fail
      refine CF.out.mono ?_
      rintro e w9 ⟨u, isv, bsv, rfl, hk9, hB9, hI9, hY9⟩
      have hI8 := hI9
      have hY8 := hY9
      obtain ⟨iq, eq, rfl, _⟩ := hI8
      obtain ⟨yq, fq, rfl, _⟩ := hY8
      have HK9 := Lib.hid hk9
      have HB9 := Lib.hid hB9
      have HI9 := Lib.hid hI9
      have HY9 := Lib.hid hY9
      have BI9 := Lib.hid (BIq.out.but hk9 (by omega))
      clear hk9 hB9 hI9 hY9 CF
      have cb := HB9.out.cells
      have ci := BI9.out.cells
      have fi := BI9.out.thawed
      go_wp2_with fail
      obtain ⟨WZ, hWZ⟩ : ∃ WZ, WZ = (((((((w9.setCell ⟨rb, 0, none⟩ (.int .u32 size)).setCell ⟨rb, 1, none⟩ (.slice pq (lparts l m.comps 16).length cq)).setCell ⟨rb, 2, none⟩ (.slice sq (lshares m.shrs (lend l m.comps 16)).length dq)).setCell ⟨rb, 3, none⟩ (.slice iq (lnkI m l size).inits.length eq)).setCell ⟨rb, 4, none⟩ (.int .i64 (lnkI m l size).start)).setCell ⟨rb, 5, none⟩ (.int .u32 (lnkI m l size).addr)).setCell ⟨rb, 6, none⟩ (.slice yq (lnkI m l size).bytes.length fq)) := ⟨_, rfl⟩
      rw [← hWZ]
      have K9Z : KeepBut (fun z => z = rb) w9 WZ := by
        rw [hWZ]
        repeat (with_reducible refine KeepBut.setAt (S := fun z => z = rb) (.inl rfl) ?_ _)
        exact KeepBut.refl _ _
      have BZ : Box WZ rb #[.int .u32 size, .slice pq (lparts l m.comps 16).length cq, .slice sq (lshares m.shrs (lend l m.comps 16)).length dq, .slice iq (lnkI m l size).inits.length eq, .int .i64 (lnkI m l size).start, .int .u32 (lnkI m l size).addr, .slice yq (lnkI m l size).bytes.length fq] := by
        rw [hWZ]
        simpa using (((((((BI9.out).set 0 (.int .u32 size)).set 1 (.slice pq (lparts l m.comps 16).length cq)).set 2 (.slice sq (lshares m.shrs (lend l m.comps 16)).length dq)).set 3 (.slice iq (lnkI m l size).inits.length eq)).set 4 (.int .i64 (lnkI m l size).start)).set 5 (.int .u32 (lnkI m l size).addr)).set 6 (.slice yq (lnkI m l size).bytes.length fq)
      have cz := BZ.cells
      clear hWZ cb ci fi
      refine bodyPost_ret (v := .tuple #[.agg #[.int .u32 size, .slice pq (lparts l m.comps 16).length cq, .slice sq (lshares m.shrs (lend l m.comps 16)).length dq, .slice iq (lnkI m l size).inits.length eq, .int .i64 (lnkI m l size).start, .int .u32 (lnkI m l size).addr, .slice yq (lnkI m l size).bytes.length fq], .nilIface]) (by simp [results, Tryz.results9, go_sem, cz]; done) rfl ?_
      have hok := HOK.out
      have eV : lnkV m l size = lnkI m l size := by unfold lnkV; rw [hok]
      have eW : lnkW m l size = none := by unfold lnkW; rw [hok]
      rw [eV, eW]
      have hSS := HS.out
      have kall : KeepBut (fun z => z = b ∨ z = rb) w WZ := (((K1.out.but _).trans (hSS.but.mono (fun _ _ e => .inl e))).trans (HK9.out.mono (fun _ _ e => .inl e))).trans (K9Z.mono (fun _ _ e => .inr e))
      have kqz : KeepBut (fun z => z = b ∨ z = rb) wq WZ := (HK9.out.mono (fun _ _ e => .inl e)).trans (K9Z.mono (fun _ _ e => .inr e))
      have hq1 := hSS.but.size
      refine ⟨kall.keep (by rintro z (rfl | rfl) <;> omega), .slice pq (lparts l m.comps 16).length cq, .slice sq (lshares m.shrs (lend l m.comps 16)).length dq, .slice iq (lnkI m l size).inits.length eq, .slice yq (lnkI m l size).bytes.length fq, ves, .nilIface, rfl, ?_, rfl⟩
      refine ⟨(hSS.parts.but kqz (fun z h1 h2 => by omega)).sl, hSS.nves, fun j p v a c => ((hSS.ents j p v a c).but kqz (fun z h1 h2 => by omega)).sl, (hSS.shares.but kqz (fun z h1 h2 => by omega)).sl, (HI9.out.but K9Z (fun z h1 h2 => by omega)).sl, (HY9.out.but K9Z (fun z h1 h2 => by omega)).sl⟩
end Go.Proofs.YtbmjnfnekmeegaaGreatDoor

/- The program's Link and Same, as the laws ask. -/
