/- hasplaw15's Few: is one short? -/
import Derived.Test.YtahnbeoacdnhjaaDoorObjFind
namespace Go.Proofs.YtahnbeoacdnhjaaDoor
set_option linter.unusedVariables false
set_option linter.unusedSimpArgs false
open Go.RowKit
/-- What Few answers. -/
def FewR (o : ObjV) (w : World) (e : Ending) (w' : World) : Prop := ∃ b, e = .returned (.bool b) ∧ (b = true → ObjFew o) ∧ Keep w w'
theorem FewR.no {o : ObjV} {w w' : World} (k : Keep w w') : FewR o w (.returned (.bool false)) w' := ⟨false, rfl, (fun h => nomatch h), k⟩
theorem FewR.yes {o : ObjV} {w w' : World} (h : ObjFew o) (k : Keep w w') : FewR o w (.returned (.bool true)) w' := ⟨true, rfl, (fun _ => h), k⟩
set_option maxHeartbeats 4000000 in
set_option maxRecDepth 100000 in
theorem few_any (o : ObjV) (vc vd vs vr : Value) (w : World) (h : ObjAt w o vc vd vs vr) (m1 : o.code.length ≤ maxLen) (m2 : o.data.length ≤ maxLen) (m3 : o.syms.length ≤ maxLen) (m4 : o.rels.length ≤ maxLen) :
    Calls Tryd.prog 5 #[objVal o vc vd vs vr] w (FewR o w) := by
  obtain ⟨ps, cs, rfl, hcs, hxs⟩ := h.symsAt
  obtain ⟨pr, cr, rfl, hcr, hxr⟩ := h.relsAt
  obtain ⟨pc, cc, rfl, _, _, _⟩ := h.code
  obtain ⟨pd, cd, rfl, _, _, _⟩ := h.data
  have HXS := Lib.hid hxs
  have HXR := Lib.hid hxr
  unfold objVal
  unfold maxLen at m1 m2 m3 m4
  clear h hxs hxr
  have K0 : Hid (Keep w (w.alloc (.cells #[.string o.name, .slice pc o.code.length cc, .slice pd o.data.length cd, .slice ps o.syms.length cs, .slice pr o.rels.length cr] 26))) := Lib.hid ((Keep.refl _).alloc _)
  by_cases f1 : (100 : Int) < o.name.size
  · have g1 : decide ((100 : Int) < o.name.size) = true := decide_eq_true f1
    go_enter Tryd.func5, Tryd.ntmps5
    go_wp2_with fail
    go_ret
    exact FewR.no ((Keep.refl _).alloc _)
  have g1 : decide ((100 : Int) < o.name.size) = false := decide_eq_false f1
  by_cases f2 : (500 : Int) < o.code.length
  · have g2 : decide ((500 : Int) < o.code.length) = true := decide_eq_true f2
    go_enter Tryd.func5, Tryd.ntmps5
    go_wp2_with fail
    go_ret
    exact FewR.no ((Keep.refl _).alloc _)
  have g2 : decide ((500 : Int) < o.code.length) = false := decide_eq_false f2
  by_cases f3 : (500 : Int) < o.data.length
  · have g3 : decide ((500 : Int) < o.data.length) = true := decide_eq_true f3
    go_enter Tryd.func5, Tryd.ntmps5
    go_wp2_with fail
    go_ret
    exact FewR.no ((Keep.refl _).alloc _)
  have g3 : decide ((500 : Int) < o.data.length) = false := decide_eq_false f3
  by_cases f4 : (40 : Int) < o.syms.length
  · have g4 : decide ((40 : Int) < o.syms.length) = true := decide_eq_true f4
    go_enter Tryd.func5, Tryd.ntmps5
    go_wp2_with fail
    go_ret
    exact FewR.no ((Keep.refl _).alloc _)
  have g4 : decide ((40 : Int) < o.syms.length) = false := decide_eq_false f4
  by_cases f5 : (40 : Int) < o.rels.length
  · have g5 : decide ((40 : Int) < o.rels.length) = true := decide_eq_true f5
    go_enter Tryd.func5, Tryd.ntmps5
    go_wp2_with fail
    go_ret
    exact FewR.no ((Keep.refl _).alloc _)
  have g5 : decide ((40 : Int) < o.rels.length) = false := decide_eq_false f5
  go_enter Tryd.func5, Tryd.ntmps5
  go_wp2_with fail
  go_loop [3] (fun i => ∃ k : Nat, k ≤ o.syms.length ∧ i = .int .i64 (k : Int) ∧ ∀ (j : Nat) (x : SymV), j < k → o.syms[j]? = some x → x.name.size ≤ 100) (fun i => o.syms.length - (intOf i).toNat)
  case atStart => exact ⟨0, Nat.zero_le _, rfl, fun j x hj => absurd hj (by omega)⟩
  case round =>
    obtain ⟨k, hk, rfl, hno⟩ := hrel
    have HN := Lib.hid hno
    clear hno
    by_cases hlt : k < o.syms.length
    · obtain ⟨x, hx⟩ : ∃ x, o.syms[k]? = some x := ⟨_, List.getElem?_eq_getElem hlt⟩
      have HK := Lib.hid hx
      have hki : (k : Int) < (o.syms.length : Int) := by omega
      rcases HXS.out with hnil | ⟨b, off, rfl, hbl, hxx⟩
      · exact absurd hlt (by rw [hnil]; simp)
      have n0 := K0.out.cellOf (hxx k x hx).1
      clear hx hxx
      by_cases big : (100 : Int) < x.name.size
      · have b1 : decide ((100 : Int) < x.name.size) = true := decide_eq_true big
        go_wp2_with fail
        go_ret
        exact FewR.no ((Keep.refl _).alloc _)
      · have b1 : decide ((100 : Int) < x.name.size) = false := decide_eq_false big
        have HS2 : Hid (∀ (j : Nat) (y : SymV), j < k + 1 → o.syms[j]? = some y → y.name.size ≤ 100) := Lib.hid (fun j y hj hy => by
          by_cases e : j = k
          · subst e
            rw [HK.out] at hy
            cases hy
            omega
          · exact HN.out j y (by omega) hy)
        go_wp2_with fail
        go_round
        case rel => exact ⟨k + 1, hlt, by go_num, HS2.out⟩
        case measure => simp [intOf]; omega
    · obtain rfl : k = o.syms.length := by omega
      have HSY := Lib.hid HN.out
      go_wp2_with fail
      go_loop [4] (fun i => ∃ k : Nat, k ≤ o.rels.length ∧ i = .int .i64 (k : Int) ∧ ∀ (j : Nat) (x : RelV), j < k → o.rels[j]? = some x → x.comp.size ≤ 100 ∧ x.name.size ≤ 100) (fun i => o.rels.length - (intOf i).toNat)
      case atStart => exact ⟨0, Nat.zero_le _, rfl, fun j x hj => absurd hj (by omega)⟩
      case round =>
        obtain ⟨k, hk, rfl, hno⟩ := hrel
        have HN := Lib.hid hno
        clear hno
        by_cases hlt : k < o.rels.length
        · obtain ⟨x, hx⟩ : ∃ x, o.rels[k]? = some x := ⟨_, List.getElem?_eq_getElem hlt⟩
          have HK := Lib.hid hx
          have hki : (k : Int) < (o.rels.length : Int) := by omega
          rcases HXR.out with hnil | ⟨b, off, rfl, hbl, hxx⟩
          · exact absurd hlt (by rw [hnil]; simp)
          have n2 := K0.out.cellOf (hxx k x hx).2.2.1
          have n3 := K0.out.cellOf (hxx k x hx).2.2.2.1
          clear hx hxx
          by_cases big : (100 : Int) < x.comp.size
          · have b1 : decide ((100 : Int) < x.comp.size) = true := decide_eq_true big
            go_wp2_with fail
            go_ret
            exact FewR.no ((Keep.refl _).alloc _)
          have b1 : decide ((100 : Int) < x.comp.size) = false := decide_eq_false big
          by_cases big2 : (100 : Int) < x.name.size
          · have b2 : decide ((100 : Int) < x.name.size) = true := decide_eq_true big2
            go_wp2_with fail
            go_ret
            exact FewR.no ((Keep.refl _).alloc _)
          have b2 : decide ((100 : Int) < x.name.size) = false := decide_eq_false big2
          have HS2 : Hid (∀ (j : Nat) (y : RelV), j < k + 1 → o.rels[j]? = some y → y.comp.size ≤ 100 ∧ y.name.size ≤ 100) := Lib.hid (fun j y hj hy => by
            by_cases e : j = k
            · subst e
              rw [HK.out] at hy
              cases hy
              omega
            · exact HN.out j y (by omega) hy)
          go_wp2_with fail
          go_round
          case rel => exact ⟨k + 1, hlt, by go_num, HS2.out⟩
          case measure => simp [intOf]; omega
        · obtain rfl : k = o.rels.length := by omega
          have HRE := Lib.hid HN.out
          have FF := Lib.hid (show ObjFew o from ⟨by omega, by omega, by omega, by omega, by omega, fun s hs => by
              obtain ⟨j, hj, rfl⟩ := List.mem_iff_getElem.1 hs
              exact HSY.out j _ hj (List.getElem?_eq_getElem hj), fun r hr => by
              obtain ⟨j, hj, rfl⟩ := List.mem_iff_getElem.1 hr
              exact (HRE.out j _ hj (List.getElem?_eq_getElem hj)).1, fun r hr => by
              obtain ⟨j, hj, rfl⟩ := List.mem_iff_getElem.1 hr
              exact (HRE.out j _ hj (List.getElem?_eq_getElem hj)).2⟩)
          go_wp2_with fail
          go_ret
          exact FewR.yes FF.out K0.out
end Go.Proofs.YtahnbeoacdnhjaaDoor
