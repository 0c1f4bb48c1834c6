/- ObjFew, ObjFewY, ManFew, LnkFew: hasplaw15's Few: is one short? -/
import Derived.Test.YtbmjnfnekmeegaaGreatDoorGObjF
import Derived.Test.YtbmjnfnekmeegaaGreatDoorGManA
import Derived.Test.YtbmjnfnekmeegaaGreatDoorImgAt
import Derived.Test.YtbmjnfnekmeegaaGreatDoorGLnkA
/- hasplaw15's Few: is one short? -/
namespace Go.Proofs.YtbmjnfnekmeegaaGreatDoor
set_option linter.unusedVariables false
set_option linter.unusedSimpArgs false
open Go.RowKit
/-- What Few answers. -/
def FewR (o : ObjV) (w : World) (e : Ending) (w' : World) : Prop := ∃ b, e = .returned (.bool b) ∧ (b = true → ObjFew o) ∧ Keep w w'
theorem FewR.no {o : ObjV} {w w' : World} (k : Keep w w') : FewR o w (.returned (.bool false)) w' := ⟨false, rfl, (fun h => nomatch h), k⟩
theorem FewR.yes {o : ObjV} {w w' : World} (h : ObjFew o) (k : Keep w w') : FewR o w (.returned (.bool true)) w' := ⟨true, rfl, (fun _ => h), k⟩
set_option maxHeartbeats 4000000 in
set_option maxRecDepth 100000 in
theorem few_any (o : ObjV) (vc vd vs vr : Value) (w : World) (h : ObjAt w o vc vd vs vr) (m1 : o.code.length ≤ maxLen) (m2 : o.data.length ≤ maxLen) (m3 : o.syms.length ≤ maxLen) (m4 : o.rels.length ≤ maxLen) :
    Calls Tryz.prog 18 #[objVal o vc vd vs vr] w (FewR o w) := by
  obtain ⟨ps, cs, rfl, hcs, hxs⟩ := h.symsAt
  obtain ⟨pr, cr, rfl, hcr, hxr⟩ := h.relsAt
  obtain ⟨pc, cc, rfl, _, _, _⟩ := h.code
  obtain ⟨pd, cd, rfl, _, _, _⟩ := h.data
  have HXS := Lib.hid hxs
  have HXR := Lib.hid hxr
  unfold objVal
  unfold maxLen at m1 m2 m3 m4
  clear h hxs hxr
  have K0 : Hid (Keep w (w.alloc (.cells #[.string o.name, .slice pc o.code.length cc, .slice pd o.data.length cd, .slice ps o.syms.length cs, .slice pr o.rels.length cr] 76))) := Lib.hid ((Keep.refl _).alloc _)
  by_cases f1 : (100 : Int) < o.name.size
  · have g1 : decide ((100 : Int) < o.name.size) = true := decide_eq_true f1
    go_enter Tryz.func18, Tryz.ntmps18
    go_wp2_with fail
    go_ret
    exact FewR.no ((Keep.refl _).alloc _)
  have g1 : decide ((100 : Int) < o.name.size) = false := decide_eq_false f1
  by_cases f2 : (500 : Int) < o.code.length
  · have g2 : decide ((500 : Int) < o.code.length) = true := decide_eq_true f2
    go_enter Tryz.func18, Tryz.ntmps18
    go_wp2_with fail
    go_ret
    exact FewR.no ((Keep.refl _).alloc _)
  have g2 : decide ((500 : Int) < o.code.length) = false := decide_eq_false f2
  by_cases f3 : (500 : Int) < o.data.length
  · have g3 : decide ((500 : Int) < o.data.length) = true := decide_eq_true f3
    go_enter Tryz.func18, Tryz.ntmps18
    go_wp2_with fail
    go_ret
    exact FewR.no ((Keep.refl _).alloc _)
  have g3 : decide ((500 : Int) < o.data.length) = false := decide_eq_false f3
  by_cases f4 : (40 : Int) < o.syms.length
  · have g4 : decide ((40 : Int) < o.syms.length) = true := decide_eq_true f4
    go_enter Tryz.func18, Tryz.ntmps18
    go_wp2_with fail
    go_ret
    exact FewR.no ((Keep.refl _).alloc _)
  have g4 : decide ((40 : Int) < o.syms.length) = false := decide_eq_false f4
  by_cases f5 : (40 : Int) < o.rels.length
  · have g5 : decide ((40 : Int) < o.rels.length) = true := decide_eq_true f5
    go_enter Tryz.func18, Tryz.ntmps18
    go_wp2_with fail
    go_ret
    exact FewR.no ((Keep.refl _).alloc _)
  have g5 : decide ((40 : Int) < o.rels.length) = false := decide_eq_false f5
  go_enter Tryz.func18, Tryz.ntmps18
  go_wp2_with fail
  go_loop [3] (fun i => ∃ k : Nat, k ≤ o.syms.length ∧ i = .int .i64 (k : Int) ∧ ∀ (j : Nat) (x : SymV), j < k → o.syms[j]? = some x → x.name.size ≤ 100) (fun i => o.syms.length - (intOf i).toNat)
  case atStart => exact ⟨0, Nat.zero_le _, rfl, fun j x hj => absurd hj (by omega)⟩
  case round =>
    obtain ⟨k, hk, rfl, hno⟩ := hrel
    have HN := Lib.hid hno
    clear hno
    by_cases hlt : k < o.syms.length
    · obtain ⟨x, hx⟩ : ∃ x, o.syms[k]? = some x := ⟨_, List.getElem?_eq_getElem hlt⟩
      have HK := Lib.hid hx
      have hki : (k : Int) < (o.syms.length : Int) := by omega
      rcases HXS.out with hnil | ⟨b, off, rfl, hbl, hxx⟩
      · exact absurd hlt (by rw [hnil]; simp)
      have n0 := K0.out.cellOf (hxx k x hx).1
      clear hx hxx
      by_cases big : (100 : Int) < x.name.size
      · have b1 : decide ((100 : Int) < x.name.size) = true := decide_eq_true big
        go_wp2_with fail
        go_ret
        exact FewR.no ((Keep.refl _).alloc _)
      · have b1 : decide ((100 : Int) < x.name.size) = false := decide_eq_false big
        have HS2 : Hid (∀ (j : Nat) (y : SymV), j < k + 1 → o.syms[j]? = some y → y.name.size ≤ 100) := Lib.hid (fun j y hj hy => by
          by_cases e : j = k
          · subst e
            rw [HK.out] at hy
            cases hy
            omega
          · exact HN.out j y (by omega) hy)
        go_wp2_with fail
        go_round
        case rel => exact ⟨k + 1, hlt, by go_num, HS2.out⟩
        case measure => simp [intOf]; omega
    · obtain rfl : k = o.syms.length := by omega
      have HSY := Lib.hid HN.out
      go_wp2_with fail
      go_loop [4] (fun i => ∃ k : Nat, k ≤ o.rels.length ∧ i = .int .i64 (k : Int) ∧ ∀ (j : Nat) (x : RelV), j < k → o.rels[j]? = some x → x.comp.size ≤ 100 ∧ x.name.size ≤ 100) (fun i => o.rels.length - (intOf i).toNat)
      case atStart => exact ⟨0, Nat.zero_le _, rfl, fun j x hj => absurd hj (by omega)⟩
      case round =>
        obtain ⟨k, hk, rfl, hno⟩ := hrel
        have HN := Lib.hid hno
        clear hno
        by_cases hlt : k < o.rels.length
        · obtain ⟨x, hx⟩ : ∃ x, o.rels[k]? = some x := ⟨_, List.getElem?_eq_getElem hlt⟩
          have HK := Lib.hid hx
          have hki : (k : Int) < (o.rels.length : Int) := by omega
          rcases HXR.out with hnil | ⟨b, off, rfl, hbl, hxx⟩
          · exact absurd hlt (by rw [hnil]; simp)
          have n2 := K0.out.cellOf (hxx k x hx).2.2.1
          have n3 := K0.out.cellOf (hxx k x hx).2.2.2.1
          clear hx hxx
          by_cases big : (100 : Int) < x.comp.size
          · have b1 : decide ((100 : Int) < x.comp.size) = true := decide_eq_true big
            go_wp2_with fail
            go_ret
            exact FewR.no ((Keep.refl _).alloc _)
          have b1 : decide ((100 : Int) < x.comp.size) = false := decide_eq_false big
          by_cases big2 : (100 : Int) < x.name.size
          · have b2 : decide ((100 : Int) < x.name.size) = true := decide_eq_true big2
            go_wp2_with fail
            go_ret
            exact FewR.no ((Keep.refl _).alloc _)
          have b2 : decide ((100 : Int) < x.name.size) = false := decide_eq_false big2
          have HS2 : Hid (∀ (j : Nat) (y : RelV), j < k + 1 → o.rels[j]? = some y → y.comp.size ≤ 100 ∧ y.name.size ≤ 100) := Lib.hid (fun j y hj hy => by
            by_cases e : j = k
            · subst e
              rw [HK.out] at hy
              cases hy
              omega
            · exact HN.out j y (by omega) hy)
          go_wp2_with fail
          go_round
          case rel => exact ⟨k + 1, hlt, by go_num, HS2.out⟩
          case measure => simp [intOf]; omega
        · obtain rfl : k = o.rels.length := by omega
          have HRE := Lib.hid HN.out
          have FF := Lib.hid (show ObjFew o from ⟨by omega, by omega, by omega, by omega, by omega, fun s hs => by
              obtain ⟨j, hj, rfl⟩ := List.mem_iff_getElem.1 hs
              exact HSY.out j _ hj (List.getElem?_eq_getElem hj), fun r hr => by
              obtain ⟨j, hj, rfl⟩ := List.mem_iff_getElem.1 hr
              exact (HRE.out j _ hj (List.getElem?_eq_getElem hj)).1, fun r hr => by
              obtain ⟨j, hj, rfl⟩ := List.mem_iff_getElem.1 hr
              exact (HRE.out j _ hj (List.getElem?_eq_getElem hj)).2⟩)
          go_wp2_with fail
          go_ret
          exact FewR.yes FF.out K0.out
end Go.Proofs.YtbmjnfnekmeegaaGreatDoor

/- hasplaw15's Few, of one that is short: yes. -/
namespace Go.Proofs.YtbmjnfnekmeegaaGreatDoor
set_option linter.unusedVariables false
set_option linter.unusedSimpArgs false
open Go.RowKit
set_option maxHeartbeats 4000000 in
set_option maxRecDepth 100000 in
theorem fewY_any (o : ObjV) (vc vd vs vr : Value) (w : World) (h : ObjAt w o vc vd vs vr) (hf : ObjFew o) :
    Calls Tryz.prog 18 #[objVal o vc vd vs vr] w fun e w' => e = .returned (.bool true) ∧ Keep w w' := by
  obtain ⟨ps, cs, rfl, hcs, hxs⟩ := h.symsAt
  obtain ⟨pr, cr, rfl, hcr, hxr⟩ := h.relsAt
  obtain ⟨pc, cc, rfl, _, _, _⟩ := h.code
  obtain ⟨pd, cd, rfl, _, _, _⟩ := h.data
  have HXS := Lib.hid hxs
  have HXR := Lib.hid hxr
  have HF := Lib.hid hf
  have m1 := hf.syms
  have m2 := hf.rels
  have m3 := hf.code
  have m4 := hf.data
  unfold objVal
  clear h hxs hxr
  have K0 : Hid (Keep w (w.alloc (.cells #[.string o.name, .slice pc o.code.length cc, .slice pd o.data.length cd, .slice ps o.syms.length cs, .slice pr o.rels.length cr] 76))) := Lib.hid ((Keep.refl _).alloc _)
  have g1 : decide ((100 : Int) < o.name.size) = false := decide_eq_false (by have := hf.name; omega)
  have g2 : decide ((500 : Int) < o.code.length) = false := decide_eq_false (by have := hf.code; omega)
  have g3 : decide ((500 : Int) < o.data.length) = false := decide_eq_false (by have := hf.data; omega)
  have g4 : decide ((40 : Int) < o.syms.length) = false := decide_eq_false (by have := hf.syms; omega)
  have g5 : decide ((40 : Int) < o.rels.length) = false := decide_eq_false (by have := hf.rels; omega)
  clear hf
  go_enter Tryz.func18, Tryz.ntmps18
  go_wp2_with fail
  go_loop [3] (fun i => ∃ k : Nat, k ≤ o.syms.length ∧ i = .int .i64 (k : Int)) (fun i => o.syms.length - (intOf i).toNat)
  case atStart => exact ⟨0, Nat.zero_le _, rfl⟩
  case round =>
    obtain ⟨k, hk, rfl⟩ := hrel
    by_cases hlt : k < o.syms.length
    · obtain ⟨x, hx⟩ : ∃ x, o.syms[k]? = some x := ⟨_, List.getElem?_eq_getElem hlt⟩
      have hki : (k : Int) < (o.syms.length : Int) := by omega
      rcases HXS.out with hnil | ⟨b, off, rfl, hbl, hxx⟩
      · exact absurd hlt (by rw [hnil]; simp)
      have n0 := K0.out.cellOf (hxx k x hx).1
      have b1 : decide ((100 : Int) < x.name.size) = false := decide_eq_false (by have := HF.out.symN x (List.mem_of_getElem? hx); omega)
      clear hx hxx
      go_wp2_with fail
      go_round
      case rel => exact ⟨k + 1, hlt, by go_num⟩
      case measure => simp [intOf]; omega
    · obtain rfl : k = o.syms.length := by omega
      go_wp2_with fail
      go_loop [4] (fun i => ∃ k : Nat, k ≤ o.rels.length ∧ i = .int .i64 (k : Int)) (fun i => o.rels.length - (intOf i).toNat)
      case atStart => exact ⟨0, Nat.zero_le _, rfl⟩
      case round =>
        obtain ⟨k, hk, rfl⟩ := hrel
        by_cases hlt : k < o.rels.length
        · obtain ⟨x, hx⟩ : ∃ x, o.rels[k]? = some x := ⟨_, List.getElem?_eq_getElem hlt⟩
          have hki : (k : Int) < (o.rels.length : Int) := by omega
          rcases HXR.out with hnil | ⟨b, off, rfl, hbl, hxx⟩
          · exact absurd hlt (by rw [hnil]; simp)
          have n2 := K0.out.cellOf (hxx k x hx).2.2.1
          have n3 := K0.out.cellOf (hxx k x hx).2.2.2.1
          have b1 : decide ((100 : Int) < x.comp.size) = false := decide_eq_false (by have := HF.out.relC x (List.mem_of_getElem? hx); omega)
          have b2 : decide ((100 : Int) < x.name.size) = false := decide_eq_false (by have := HF.out.relN x (List.mem_of_getElem? hx); omega)
          clear hx hxx
          go_wp2_with fail
          go_round
          case rel => exact ⟨k + 1, hlt, by go_num⟩
          case measure => simp [intOf]; omega
        · obtain rfl : k = o.rels.length := by omega
          go_wp2_with fail
          go_ret
          exact ⟨rfl, K0.out⟩
end Go.Proofs.YtbmjnfnekmeegaaGreatDoor

/- hasplaw17's Few: is a manifest short? By gen/man3.py. -/
namespace Go.Proofs.YtbmjnfnekmeegaaGreatDoor
set_option linter.unusedVariables false
set_option linter.unusedSimpArgs false
open Go Go.RowKit
theorem short_yes {s : ByteArray} (h : s.size ≤ 100) (w : World) : Calls Tryz.prog 20 #[.string s] w fun e w' => e = .returned (.bool true) ∧ w' = w := by
  have g : decide ((s.size : Int) ≤ 100) = true := decide_eq_true (by omega)
  go_enter Tryz.func20, Tryz.ntmps20
  go_wp2_with fail
  go_ret
  exact ⟨rfl, rfl⟩
theorem short_no {s : ByteArray} (h : ¬ s.size ≤ 100) (w : World) : Calls Tryz.prog 20 #[.string s] w fun e w' => e = .returned (.bool false) ∧ w' = w := by
  have g : decide ((s.size : Int) ≤ 100) = false := decide_eq_false (by omega)
  go_enter Tryz.func20, Tryz.ntmps20
  go_wp2_with fail
  go_ret
  exact ⟨rfl, rfl⟩
/-- hasplaw17's Few. -/
structure ManFew (m : ManV) : Prop where
  comps : m.comps.length ≤ 12
  imps : m.imps.length ≤ 70
  shrs : m.shrs.length ≤ 12
  grns : m.grns.length ≤ 70
  compN : ∀ c ∈ m.comps, c.name.size ≤ 100
  impN : ∀ x ∈ m.imps, x.comp.size ≤ 100 ∧ x.from_.size ≤ 100 ∧ x.name.size ≤ 100
  shrN : ∀ c ∈ m.shrs, c.name.size ≤ 100
  grnN : ∀ x ∈ m.grns, x.comp.size ≤ 100 ∧ x.share.size ≤ 100
  startN : m.start.comp.size ≤ 100 ∧ m.start.from_.size ≤ 100 ∧ m.start.name.size ≤ 100
theorem ManFew.may {m : ManV} (h : ManFew m) (h1 : ∀ c ∈ m.comps, 0 ≤ c.stack ∧ c.stack < 4294967296) (h2 : ∀ c ∈ m.shrs, 0 ≤ c.stack ∧ c.stack < 4294967296) (h3 : ∀ g ∈ m.grns, 0 ≤ g.perm ∧ g.perm < 65536) : ManMay m := by
  have a := h.comps; have b := h.imps; have c := h.shrs; have d := h.grns; have e := h.startN
  refine ⟨by omega, by omega, by omega, by omega, fun x hx => ?_, fun x hx => ?_, fun x hx => ?_, fun x hx => ?_, by omega⟩
  · have := h.compN x hx; have := h1 x hx; omega
  · have := h.impN x hx; omega
  · have := h.shrN x hx; have := h2 x hx; omega
  · have := h.grnN x hx; have := h3 x hx; omega
def MFewR (m : ManV) (w : World) (e : Ending) (w' : World) : Prop := ∃ b, e = .returned (.bool b) ∧ (b = true → ManFew m) ∧ Keep w w'
theorem MFewR.no {m : ManV} {w w' : World} (k : Keep w w') : MFewR m w (.returned (.bool false)) w' := ⟨false, rfl, (fun h => nomatch h), k⟩
theorem MFewR.yes {m : ManV} {w w' : World} (h : ManFew m) (k : Keep w w') : MFewR m w (.returned (.bool true)) w' := ⟨true, rfl, (fun _ => h), k⟩
/-- The cells of one of some things. -/
theorem SlAt.cellsOf {α : Type} {f : α → List Value} {k : Nat} (hf : ∀ x, (f x).length = k) {w : World} {v : Value} {l : List α} (h : SlAt w v l.length (l.flatMap f)) : ∃ p cap, v = .slice p l.length cap ∧ l.length ≤ cap ∧ ∀ (i : Nat) (x : α), l[i]? = some x → 0 < k → ∃ b off, p = some ⟨b, off, none⟩ ∧ ∀ (j : Nat) (u : Value), (f x)[j]? = some u → w.cell? ⟨b, off + i * k + j, none⟩ = some u := by
  obtain ⟨p, cap, rfl, h1, _, h3⟩ := h
  refine ⟨p, cap, rfl, h1, fun i x hx hk => ?_⟩
  rcases h3 with h3 | ⟨b, off, rfl, _, h5⟩
  · have hr := rows_row hf l i 0 hk x hx
    rw [h3] at hr
    have : 0 < (f x).length := by rw [hf]; exact hk
    rw [List.getElem?_eq_getElem this] at hr
    simp at hr
  · refine ⟨b, off, rfl, fun j u hu => ?_⟩
    have hj : j < k := by rw [← hf x]; exact (List.getElem?_eq_some_iff.1 hu).1
    rw [Nat.add_assoc]
    exact h5 _ _ (by rw [rows_row hf l i j hj x hx]; exact hu)
set_option maxHeartbeats 4000000 in
set_option maxRecDepth 100000 in
theorem mfew_any (m : ManV) (vc vi vs vg : Value) (w : World) (h : ManAt w m vc vi vs vg) (m1 : m.comps.length ≤ maxLen) (m2 : m.imps.length ≤ maxLen) (m3 : m.shrs.length ≤ maxLen) (m4 : m.grns.length ≤ maxLen) :
    Calls Tryz.prog 7 #[manVal m vc vi vs vg] w (MFewR m w) := by
  obtain ⟨pc, cc, rfl, lc, hxc⟩ := h.comps.cellsOf compRow_length
  obtain ⟨pi, ci, rfl, li, hxi⟩ := h.imps.cellsOf (k := 3) (fun _ => rfl)
  obtain ⟨ps, cs, rfl, ls, hxs⟩ := h.shrs.cellsOf compRow_length
  obtain ⟨pg, cg, rfl, lg, hxg⟩ := h.grns.cellsOf grnRow_length
  have HXC := Lib.hid hxc
  have HXI := Lib.hid hxi
  have HXS := Lib.hid hxs
  have HXG := Lib.hid hxg
  unfold manVal
  unfold maxLen at m1 m2 m3 m4
  clear h hxc hxi hxs hxg
  have K0 : Hid (Keep w (w.alloc (.cells #[.slice pc m.comps.length cc, .slice pi m.imps.length ci, .slice ps m.shrs.length cs, .slice pg m.grns.length cg, .string m.start.comp, .string m.start.from_, .string m.start.name] 29))) := Lib.hid ((Keep.refl _).alloc _)
  by_cases f0 : (12 : Int) < m.comps.length
  · have g0 : decide ((12 : Int) < m.comps.length) = true := decide_eq_true f0
    go_enter Tryz.func7, Tryz.ntmps7
    go_wp2_with fail
    go_ret
    exact MFewR.no ((Keep.refl _).alloc _)
  have g0 : decide ((12 : Int) < m.comps.length) = false := decide_eq_false f0
  by_cases f1 : (70 : Int) < m.imps.length
  · have g1 : decide ((70 : Int) < m.imps.length) = true := decide_eq_true f1
    go_enter Tryz.func7, Tryz.ntmps7
    go_wp2_with fail
    go_ret
    exact MFewR.no ((Keep.refl _).alloc _)
  have g1 : decide ((70 : Int) < m.imps.length) = false := decide_eq_false f1
  by_cases f2 : (12 : Int) < m.shrs.length
  · have g2 : decide ((12 : Int) < m.shrs.length) = true := decide_eq_true f2
    go_enter Tryz.func7, Tryz.ntmps7
    go_wp2_with fail
    go_ret
    exact MFewR.no ((Keep.refl _).alloc _)
  have g2 : decide ((12 : Int) < m.shrs.length) = false := decide_eq_false f2
  by_cases f3 : (70 : Int) < m.grns.length
  · have g3 : decide ((70 : Int) < m.grns.length) = true := decide_eq_true f3
    go_enter Tryz.func7, Tryz.ntmps7
    go_wp2_with fail
    go_ret
    exact MFewR.no ((Keep.refl _).alloc _)
  have g3 : decide ((70 : Int) < m.grns.length) = false := decide_eq_false f3
  by_cases s0 : m.start.comp.size ≤ 100
  case neg =>
    go_enter Tryz.func7, Tryz.ntmps7
    go_wp2_with fail
    refine (short_no s0 _).mono ?_
    rintro e _ ⟨rfl, rfl⟩
    go_wp2_with fail
    go_ret
    exact MFewR.no ((Keep.refl _).alloc _)
  by_cases s1 : m.start.from_.size ≤ 100
  case neg =>
    go_enter Tryz.func7, Tryz.ntmps7
    go_wp2_with fail
    refine (short_yes s0 _).mono ?_
    rintro e _ ⟨rfl, rfl⟩
    go_wp2_with fail
    refine (short_no s1 _).mono ?_
    rintro e _ ⟨rfl, rfl⟩
    go_wp2_with fail
    go_ret
    exact MFewR.no ((Keep.refl _).alloc _)
  by_cases s2 : m.start.name.size ≤ 100
  case neg =>
    go_enter Tryz.func7, Tryz.ntmps7
    go_wp2_with fail
    refine (short_yes s0 _).mono ?_
    rintro e _ ⟨rfl, rfl⟩
    go_wp2_with fail
    refine (short_yes s1 _).mono ?_
    rintro e _ ⟨rfl, rfl⟩
    go_wp2_with fail
    refine (short_no s2 _).mono ?_
    rintro e _ ⟨rfl, rfl⟩
    go_wp2_with fail
    go_ret
    exact MFewR.no ((Keep.refl _).alloc _)
  go_enter Tryz.func7, Tryz.ntmps7
  go_wp2_with fail
  refine (short_yes s0 _).mono ?_
  rintro e _ ⟨rfl, rfl⟩
  go_wp2_with fail
  refine (short_yes s1 _).mono ?_
  rintro e _ ⟨rfl, rfl⟩
  go_wp2_with fail
  refine (short_yes s2 _).mono ?_
  rintro e _ ⟨rfl, rfl⟩
  go_wp2_with fail
  go_loop [3] (fun i => ∃ k : Nat, k ≤ m.comps.length ∧ i = .int .i64 (k : Int) ∧ ∀ (j : Nat) (x : CompV), j < k → m.comps[j]? = some x → x.name.size ≤ 100) (fun i => m.comps.length - (intOf i).toNat)
  case atStart => exact ⟨0, Nat.zero_le _, rfl, fun j x hj => absurd hj (by omega)⟩
  case round =>
    obtain ⟨k, hk, rfl, hno⟩ := hrel
    have HN := Lib.hid hno
    clear hno
    by_cases hlt : k < m.comps.length
    · obtain ⟨x, hx⟩ : ∃ x, m.comps[k]? = some x := ⟨_, List.getElem?_eq_getElem hlt⟩
      have HK := Lib.hid hx
      have hki : (k : Int) < (m.comps.length : Int) := by omega
      obtain ⟨b, off, rfl, hxx⟩ := HXC.out k x hx (by decide)
      have n0 := K0.out.cellOf (show w.cell? ⟨b, off + k * 2, none⟩ = some (.string x.name) from hxx 0 _ rfl)
      clear hx hxx
      by_cases b0 : x.name.size ≤ 100
      case neg =>
        go_wp2_with fail
        refine (short_no b0 _).mono ?_
        rintro e _ ⟨rfl, rfl⟩
        go_wp2_with fail
        go_ret
        exact MFewR.no ((Keep.refl _).alloc _)
      have HS2 : Hid (∀ (j : Nat) (y : CompV), j < k + 1 → m.comps[j]? = some y → y.name.size ≤ 100) := Lib.hid (fun j y hj hy => by
        by_cases e : j = k
        · subst e
          rw [HK.out] at hy
          cases hy
          exact b0
        · exact HN.out j y (by omega) hy)
      go_wp2_with fail
      refine (short_yes b0 _).mono ?_
      rintro e _ ⟨rfl, rfl⟩
      go_wp2_with fail
      go_round
      case rel => exact ⟨k + 1, hlt, by go_num, HS2.out⟩
      case measure => simp [intOf]; omega
    · obtain rfl : k = m.comps.length := by omega
      have HE0 := Lib.hid HN.out
      go_wp2_with fail
      go_loop [4] (fun i => ∃ k : Nat, k ≤ m.imps.length ∧ i = .int .i64 (k : Int) ∧ ∀ (j : Nat) (x : ImpV), j < k → m.imps[j]? = some x → x.comp.size ≤ 100 ∧ x.from_.size ≤ 100 ∧ x.name.size ≤ 100) (fun i => m.imps.length - (intOf i).toNat)
      case atStart => exact ⟨0, Nat.zero_le _, rfl, fun j x hj => absurd hj (by omega)⟩
      case round =>
        obtain ⟨k, hk, rfl, hno⟩ := hrel
        have HN := Lib.hid hno
        clear hno
        by_cases hlt : k < m.imps.length
        · obtain ⟨x, hx⟩ : ∃ x, m.imps[k]? = some x := ⟨_, List.getElem?_eq_getElem hlt⟩
          have HK := Lib.hid hx
          have hki : (k : Int) < (m.imps.length : Int) := by omega
          obtain ⟨b, off, rfl, hxx⟩ := HXI.out k x hx (by decide)
          have n0 := K0.out.cellOf (show w.cell? ⟨b, off + k * 3, none⟩ = some (.string x.comp) from hxx 0 _ rfl)
          have n1 := K0.out.cellOf (show w.cell? ⟨b, off + k * 3 + 1, none⟩ = some (.string x.from_) from hxx 1 _ rfl)
          have n2 := K0.out.cellOf (show w.cell? ⟨b, off + k * 3 + 2, none⟩ = some (.string x.name) from hxx 2 _ rfl)
          clear hx hxx
          by_cases b0 : x.comp.size ≤ 100
          case neg =>
            go_wp2_with fail
            refine (short_no b0 _).mono ?_
            rintro e _ ⟨rfl, rfl⟩
            go_wp2_with fail
            go_ret
            exact MFewR.no ((Keep.refl _).alloc _)
          by_cases b1 : x.from_.size ≤ 100
          case neg =>
            go_wp2_with fail
            refine (short_yes b0 _).mono ?_
            rintro e _ ⟨rfl, rfl⟩
            go_wp2_with fail
            refine (short_no b1 _).mono ?_
            rintro e _ ⟨rfl, rfl⟩
            go_wp2_with fail
            go_ret
            exact MFewR.no ((Keep.refl _).alloc _)
          by_cases b2 : x.name.size ≤ 100
          case neg =>
            go_wp2_with fail
            refine (short_yes b0 _).mono ?_
            rintro e _ ⟨rfl, rfl⟩
            go_wp2_with fail
            refine (short_yes b1 _).mono ?_
            rintro e _ ⟨rfl, rfl⟩
            go_wp2_with fail
            refine (short_no b2 _).mono ?_
            rintro e _ ⟨rfl, rfl⟩
            go_wp2_with fail
            go_ret
            exact MFewR.no ((Keep.refl _).alloc _)
          have HS2 : Hid (∀ (j : Nat) (y : ImpV), j < k + 1 → m.imps[j]? = some y → y.comp.size ≤ 100 ∧ y.from_.size ≤ 100 ∧ y.name.size ≤ 100) := Lib.hid (fun j y hj hy => by
            by_cases e : j = k
            · subst e
              rw [HK.out] at hy
              cases hy
              exact ⟨b0, b1, b2⟩
            · exact HN.out j y (by omega) hy)
          go_wp2_with fail
          refine (short_yes b0 _).mono ?_
          rintro e _ ⟨rfl, rfl⟩
          go_wp2_with fail
          refine (short_yes b1 _).mono ?_
          rintro e _ ⟨rfl, rfl⟩
          go_wp2_with fail
          refine (short_yes b2 _).mono ?_
          rintro e _ ⟨rfl, rfl⟩
          go_wp2_with fail
          go_round
          case rel => exact ⟨k + 1, hlt, by go_num, HS2.out⟩
          case measure => simp [intOf]; omega
        · obtain rfl : k = m.imps.length := by omega
          have HE1 := Lib.hid HN.out
          go_wp2_with fail
          go_loop [5] (fun i => ∃ k : Nat, k ≤ m.shrs.length ∧ i = .int .i64 (k : Int) ∧ ∀ (j : Nat) (x : CompV), j < k → m.shrs[j]? = some x → x.name.size ≤ 100) (fun i => m.shrs.length - (intOf i).toNat)
          case atStart => exact ⟨0, Nat.zero_le _, rfl, fun j x hj => absurd hj (by omega)⟩
          case round =>
            obtain ⟨k, hk, rfl, hno⟩ := hrel
            have HN := Lib.hid hno
            clear hno
            by_cases hlt : k < m.shrs.length
            · obtain ⟨x, hx⟩ : ∃ x, m.shrs[k]? = some x := ⟨_, List.getElem?_eq_getElem hlt⟩
              have HK := Lib.hid hx
              have hki : (k : Int) < (m.shrs.length : Int) := by omega
              obtain ⟨b, off, rfl, hxx⟩ := HXS.out k x hx (by decide)
              have n0 := K0.out.cellOf (show w.cell? ⟨b, off + k * 2, none⟩ = some (.string x.name) from hxx 0 _ rfl)
              clear hx hxx
              by_cases b0 : x.name.size ≤ 100
              case neg =>
                go_wp2_with fail
                refine (short_no b0 _).mono ?_
                rintro e _ ⟨rfl, rfl⟩
                go_wp2_with fail
                go_ret
                exact MFewR.no ((Keep.refl _).alloc _)
              have HS2 : Hid (∀ (j : Nat) (y : CompV), j < k + 1 → m.shrs[j]? = some y → y.name.size ≤ 100) := Lib.hid (fun j y hj hy => by
                by_cases e : j = k
                · subst e
                  rw [HK.out] at hy
                  cases hy
                  exact b0
                · exact HN.out j y (by omega) hy)
              go_wp2_with fail
              refine (short_yes b0 _).mono ?_
              rintro e _ ⟨rfl, rfl⟩
              go_wp2_with fail
              go_round
              case rel => exact ⟨k + 1, hlt, by go_num, HS2.out⟩
              case measure => simp [intOf]; omega
            · obtain rfl : k = m.shrs.length := by omega
              have HE2 := Lib.hid HN.out
              go_wp2_with fail
              go_loop [6] (fun i => ∃ k : Nat, k ≤ m.grns.length ∧ i = .int .i64 (k : Int) ∧ ∀ (j : Nat) (x : GrnV), j < k → m.grns[j]? = some x → x.comp.size ≤ 100 ∧ x.share.size ≤ 100) (fun i => m.grns.length - (intOf i).toNat)
              case atStart => exact ⟨0, Nat.zero_le _, rfl, fun j x hj => absurd hj (by omega)⟩
              case round =>
                obtain ⟨k, hk, rfl, hno⟩ := hrel
                have HN := Lib.hid hno
                clear hno
                by_cases hlt : k < m.grns.length
                · obtain ⟨x, hx⟩ : ∃ x, m.grns[k]? = some x := ⟨_, List.getElem?_eq_getElem hlt⟩
                  have HK := Lib.hid hx
                  have hki : (k : Int) < (m.grns.length : Int) := by omega
                  obtain ⟨b, off, rfl, hxx⟩ := HXG.out k x hx (by decide)
                  have n0 := K0.out.cellOf (show w.cell? ⟨b, off + k * 3, none⟩ = some (.string x.comp) from hxx 0 _ rfl)
                  have n1 := K0.out.cellOf (show w.cell? ⟨b, off + k * 3 + 1, none⟩ = some (.string x.share) from hxx 1 _ rfl)
                  clear hx hxx
                  by_cases b0 : x.comp.size ≤ 100
                  case neg =>
                    go_wp2_with fail
                    refine (short_no b0 _).mono ?_
                    rintro e _ ⟨rfl, rfl⟩
                    go_wp2_with fail
                    go_ret
                    exact MFewR.no ((Keep.refl _).alloc _)
                  by_cases b1 : x.share.size ≤ 100
                  case neg =>
                    go_wp2_with fail
                    refine (short_yes b0 _).mono ?_
                    rintro e _ ⟨rfl, rfl⟩
                    go_wp2_with fail
                    refine (short_no b1 _).mono ?_
                    rintro e _ ⟨rfl, rfl⟩
                    go_wp2_with fail
                    go_ret
                    exact MFewR.no ((Keep.refl _).alloc _)
                  have HS2 : Hid (∀ (j : Nat) (y : GrnV), j < k + 1 → m.grns[j]? = some y → y.comp.size ≤ 100 ∧ y.share.size ≤ 100) := Lib.hid (fun j y hj hy => by
                    by_cases e : j = k
                    · subst e
                      rw [HK.out] at hy
                      cases hy
                      exact ⟨b0, b1⟩
                    · exact HN.out j y (by omega) hy)
                  go_wp2_with fail
                  refine (short_yes b0 _).mono ?_
                  rintro e _ ⟨rfl, rfl⟩
                  go_wp2_with fail
                  refine (short_yes b1 _).mono ?_
                  rintro e _ ⟨rfl, rfl⟩
                  go_wp2_with fail
                  go_round
                  case rel => exact ⟨k + 1, hlt, by go_num, HS2.out⟩
                  case measure => simp [intOf]; omega
                · obtain rfl : k = m.grns.length := by omega
                  have HE3 := Lib.hid HN.out
                  have FF := Lib.hid (show ManFew m from ⟨by omega, by omega, by omega, by omega, fun s hs => by
                      obtain ⟨j, hj, rfl⟩ := List.mem_iff_getElem.1 hs
                      exact HE0.out j _ hj (List.getElem?_eq_getElem hj), fun s hs => by
                      obtain ⟨j, hj, rfl⟩ := List.mem_iff_getElem.1 hs
                      exact HE1.out j _ hj (List.getElem?_eq_getElem hj), fun s hs => by
                      obtain ⟨j, hj, rfl⟩ := List.mem_iff_getElem.1 hs
                      exact HE2.out j _ hj (List.getElem?_eq_getElem hj), fun s hs => by
                      obtain ⟨j, hj, rfl⟩ := List.mem_iff_getElem.1 hs
                      exact HE3.out j _ hj (List.getElem?_eq_getElem hj), ⟨s0, s1, s2⟩⟩)
                  go_wp2_with fail
                  go_ret
                  exact MFewR.yes FF.out K0.out
end Go.Proofs.YtbmjnfnekmeegaaGreatDoor

/- hasplaw19's Few: are objects few, and short? -/
namespace Go.Proofs.YtbmjnfnekmeegaaGreatDoor
set_option linter.unusedVariables false
set_option linter.unusedSimpArgs false
open Go Go.RowKit
/-- What lies of the object at a place. -/
theorem ObjsAt.objAt {w : World} {v : Value} {l : List ObjV} {qs : List V4} (h : ObjsAt w v l qs) : ∃ p cap, v = .slice p l.length cap ∧ l.length ≤ cap ∧ cap ≤ maxLen ∧ (l = [] ∨ ∃ b off, p = some ⟨b, off, none⟩ ∧ b < w.heap.size ∧ ∀ (k : Nat) (o : ObjV) (q : V4), l[k]? = some o → qs[k]? = some q →
    w.cell? ⟨b, off + k * 5, none⟩ = some (.string o.name) ∧ w.cell? ⟨b, off + k * 5 + 1, none⟩ = some q.1 ∧ w.cell? ⟨b, off + k * 5 + 2, none⟩ = some q.2.1 ∧ w.cell? ⟨b, off + k * 5 + 3, none⟩ = some q.2.2.1 ∧ w.cell? ⟨b, off + k * 5 + 4, none⟩ = some q.2.2.2) := by
  have hl : (l.zip qs).length = l.length := by rw [List.length_zip, h.nqs]; omega
  have hp := h.row
  rw [← hl] at hp
  obtain ⟨p, cap, h1, h2, h3, h4⟩ := hp.rowsAt (m := 5) (fun _ => rfl)
  rw [hl] at h1 h2
  refine ⟨p, cap, h1, h2, h3, ?_⟩
  rcases h4 with h4 | h4 | ⟨b, off, h4, h5, h6⟩
  · left
    have := congrArg List.length h4
    rw [hl] at this
    exact List.length_eq_zero_iff.1 (by simpa using this)
  · cases h4
  · refine .inr ⟨b, off, h4, h5, fun k x q hx hq => ?_⟩
    have hz : (l.zip qs)[k]? = some (x, q) := List.getElem?_zip_eq_some.2 ⟨hx, hq⟩
    exact ⟨h6 k _ hz 0 _ (by decide) rfl, h6 k _ hz 1 _ (by decide) rfl, h6 k _ hz 2 _ (by decide) rfl, h6 k _ hz 3 _ (by decide) rfl, h6 k _ hz 4 _ (by decide) rfl⟩
/-- What Few answers. -/
def LFewR (l : List ObjV) (w : World) (e : Ending) (w' : World) : Prop := ∃ b, e = .returned (.bool b) ∧ (b = true → ObjsFew l) ∧ Keep w w'
theorem LFewR.no {l : List ObjV} {w w' : World} (k : Keep w w') : LFewR l w (.returned (.bool false)) w' := ⟨false, rfl, (fun h => nomatch h), k⟩
theorem LFewR.yes {l : List ObjV} {w w' : World} (h : ObjsFew l) (k : Keep w w') : LFewR l w (.returned (.bool true)) w' := ⟨true, rfl, (fun _ => h), k⟩
/-- What each object is, as it was handed in. -/
def ObjsIn (l : List ObjV) : Prop := (∀ o ∈ l, ObjNum o ∧ o.code.length ≤ maxLen ∧ o.data.length ≤ maxLen ∧ o.syms.length ≤ maxLen ∧ o.rels.length ≤ maxLen) ∧ l.length ≤ maxLen
set_option maxHeartbeats 4000000 in
set_option maxRecDepth 100000 in
theorem lfew_any (l : List ObjV) (v : Value) (qs : List V4) (w : World) (h : ObjsAt w v l qs) (hn : ObjsIn l) :
    Calls Tryz.prog 8 #[v] w (LFewR l w) := by
  have HA := Lib.hid h
  have HN0 := Lib.hid hn.1
  have nqs := h.nqs
  have m0 := hn.2
  obtain ⟨p, cap, rfl, _, _, hx⟩ := h.objAt
  have HX := Lib.hid hx
  unfold maxLen at m0
  clear h hn hx
  by_cases f1 : (10 : Int) < l.length
  · have g1 : decide ((10 : Int) < l.length) = true := decide_eq_true f1
    go_enter Tryz.func8, Tryz.ntmps8
    go_wp2_with fail
    go_ret
    exact LFewR.no (Keep.refl _)
  have g1 : decide ((10 : Int) < l.length) = false := decide_eq_false f1
  have KR := Lib.hid (Keep.refl w)
  go_enter Tryz.func8, Tryz.ntmps8
  go_wp2_with fail
  go_loopw [3] (fun x wr => ∃ k : Nat, k ≤ l.length ∧ x = .int .i64 (k : Int) ∧ Keep w wr ∧ ∀ (j : Nat) (o : ObjV), j < k → l[j]? = some o → ObjFew o) (fun x _ => l.length - (intOf x).toNat)
  case atStart => exact ⟨0, Nat.zero_le _, rfl, KR.out, fun j x hj => absurd hj (by omega)⟩
  case round =>
    obtain ⟨k, hk, rfl, hkw, hno⟩ := hrel
    have HN := Lib.hid hno
    have HK := Lib.hid hkw
    clear hno
    by_cases hlt : k < l.length
    · obtain ⟨o, ho⟩ : ∃ o, l[k]? = some o := ⟨_, List.getElem?_eq_getElem hlt⟩
      obtain ⟨⟨vc, vd, vs, vr⟩, hq⟩ : ∃ q, qs[k]? = some q := ⟨_, List.getElem?_eq_getElem (by omega)⟩
      have HO := Lib.hid ho
      have hki : (k : Int) < (l.length : Int) := by omega
      rcases HX.out with hnil | ⟨b, off, rfl, hbl, hxx⟩
      · exact absurd hlt (by rw [hnil]; simp)
      have hc := hxx k o _ ho hq
      have n0 := HK.out.cellOf hc.1
      have n1 := HK.out.cellOf hc.2.1
      have n2 := HK.out.cellOf hc.2.2.1
      have n3 := HK.out.cellOf hc.2.2.2.1
      have n4 := HK.out.cellOf hc.2.2.2.2
      have hb2 : b < wr.heap.size := Nat.lt_of_lt_of_le hbl HK.out.size
      have hm := HN0.out o (List.mem_of_getElem? ho)
      have CF := Lib.hid (few_any o vc vd vs vr wr ((HA.out.at_ k o _ ho hq).keep HK.out) hm.2.1 hm.2.2.1 hm.2.2.2.1 hm.2.2.2.2)
      unfold objVal at CF
      simp only at n1 n2 n3 n4
      clear ho hq hxx hc hm hkw
      go_wp2_with fail
      refine CF.out.mono ?_
      rintro e w2 ⟨b2, rfl, hfew, hk2⟩
      have HF := Lib.hid hfew
      have K2 := Lib.hid (HK.out.trans hk2)
      clear hfew hk2 CF n0 n1 n2 n3 n4
      rcases Bool.eq_false_or_eq_true b2 with rfl | rfl
      · have HS2 : Hid (∀ (j : Nat) (y : ObjV), j < k + 1 → l[j]? = some y → ObjFew y) := Lib.hid (fun j y hj hy => by
          by_cases e : j = k
          · subst e
            rw [HO.out] at hy
            cases hy
            exact HF.out rfl
          · exact HN.out j y (by omega) hy)
        go_wp2_with fail
        go_round
        case rel => exact ⟨k + 1, hlt, by go_num, K2.out, HS2.out⟩
        case measure => simp [intOf]; omega
      · go_wp2_with fail
        go_ret
        exact LFewR.no K2.out
    · obtain rfl : k = l.length := by omega
      have FF := Lib.hid (show ObjsFew l from ⟨by omega, fun o ho => by
          obtain ⟨j, hj, rfl⟩ := List.mem_iff_getElem.1 ho
          exact HN.out j _ hj (List.getElem?_eq_getElem hj), fun o ho => (HN0.out o ho).1⟩)
      go_wp2_with fail
      go_ret
      exact LFewR.yes FF.out HK.out
end Go.Proofs.YtbmjnfnekmeegaaGreatDoor
