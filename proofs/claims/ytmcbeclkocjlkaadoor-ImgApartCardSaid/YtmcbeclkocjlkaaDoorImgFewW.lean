/- hasplaw18's Few: is one short? -/
import Derived.Test.YtmcbeclkocjlkaaDoorGImgF
namespace Go.Proofs.YtmcbeclkocjlkaaDoor
set_option linter.unusedVariables false
set_option linter.unusedSimpArgs false
open Go Go.RowKit
/-- What Few answers. -/
def IFewR (i : ImgV) (w : World) (e : Ending) (w' : World) : Prop := ∃ b, e = .returned (.bool b) ∧ (b = true → ImgFew i) ∧ Keep w w'
theorem IFewR.no {i : ImgV} {w w' : World} (k : Keep w w') : IFewR i w (.returned (.bool false)) w' := ⟨false, rfl, (fun h => nomatch h), k⟩
theorem IFewR.yes {i : ImgV} {w w' : World} (h : ImgFew i) (k : Keep w w') : IFewR i w (.returned (.bool true)) w' := ⟨true, rfl, (fun _ => h), k⟩
set_option maxHeartbeats 4000000 in
set_option maxRecDepth 100000 in
theorem ifew_any (i : ImgV) (vp vs vi vb : Value) (ves : List Value) (w : World) (h : ImgAt w i vp vs vi vb ves) (m1 : i.parts.length ≤ maxLen) (m2 : i.shares.length ≤ maxLen) (m3 : i.inits.length ≤ maxLen) (m4 : i.bytes.length ≤ maxLen) (m5 : ∀ p ∈ i.parts, p.entries.length ≤ maxLen) :
    Calls Tryd.prog 5 #[imgVal i vp vs vi vb] w (IFewR i w) := by
  have nves := h.nves
  have HEE := Lib.hid h.ents
  have HM5 := Lib.hid m5
  obtain ⟨pp, pcap, rfl, _, _, hxp⟩ := h.partsAt
  obtain ⟨sp, scap, rfl, _⟩ := h.shares
  obtain ⟨ip, icap, rfl, _⟩ := h.inits
  obtain ⟨bp, bcap, rfl, _⟩ := h.bytes
  have HXP := Lib.hid hxp
  unfold imgVal
  unfold maxLen at m1 m2 m3 m4
  clear h hxp m5
  have K0 : Hid (Keep w (w.alloc (.cells #[.int .u32 i.size, .slice pp i.parts.length pcap, .slice sp i.shares.length scap, .slice ip i.inits.length icap, .int .i64 i.start, .int .u32 i.addr, .slice bp i.bytes.length bcap] 28))) := Lib.hid ((Keep.refl _).alloc _)
  by_cases f1 : (12 : Int) < i.parts.length
  · have g1 : decide ((12 : Int) < i.parts.length) = true := decide_eq_true f1
    go_enter Tryd.func5, Tryd.ntmps5
    go_wp2_with fail
    go_ret
    exact IFewR.no ((Keep.refl _).alloc _)
  have g1 : decide ((12 : Int) < i.parts.length) = false := decide_eq_false f1
  by_cases f2 : (12 : Int) < i.shares.length
  · have g2 : decide ((12 : Int) < i.shares.length) = true := decide_eq_true f2
    go_enter Tryd.func5, Tryd.ntmps5
    go_wp2_with fail
    go_ret
    exact IFewR.no ((Keep.refl _).alloc _)
  have g2 : decide ((12 : Int) < i.shares.length) = false := decide_eq_false f2
  by_cases f3 : (60 : Int) < i.inits.length
  · have g3 : decide ((60 : Int) < i.inits.length) = true := decide_eq_true f3
    go_enter Tryd.func5, Tryd.ntmps5
    go_wp2_with fail
    go_ret
    exact IFewR.no ((Keep.refl _).alloc _)
  have g3 : decide ((60 : Int) < i.inits.length) = false := decide_eq_false f3
  by_cases f4 : (2000 : Int) < i.bytes.length
  · have g4 : decide ((2000 : Int) < i.bytes.length) = true := decide_eq_true f4
    go_enter Tryd.func5, Tryd.ntmps5
    go_wp2_with fail
    go_ret
    exact IFewR.no ((Keep.refl _).alloc _)
  have g4 : decide ((2000 : Int) < i.bytes.length) = false := decide_eq_false f4
  go_enter Tryd.func5, Tryd.ntmps5
  go_wp2_with fail
  go_loop [3] (fun x => ∃ k : Nat, k ≤ i.parts.length ∧ x = .int .i64 (k : Int) ∧ ∀ (j : Nat) (p : PartV), j < k → i.parts[j]? = some p → p.name.size ≤ 100 ∧ p.entries.length ≤ 70) (fun x => i.parts.length - (intOf x).toNat)
  case atStart => exact ⟨0, Nat.zero_le _, rfl, fun j x hj => absurd hj (by omega)⟩
  case round =>
    obtain ⟨k, hk, rfl, hno⟩ := hrel
    have HN := Lib.hid hno
    clear hno
    by_cases hlt : k < i.parts.length
    · obtain ⟨p, hp⟩ : ∃ p, i.parts[k]? = some p := ⟨_, List.getElem?_eq_getElem hlt⟩
      obtain ⟨ve, hve⟩ : ∃ ve, ves[k]? = some ve := ⟨_, List.getElem?_eq_getElem (by omega)⟩
      have HK := Lib.hid hp
      have hki : (k : Int) < (i.parts.length : Int) := by omega
      obtain ⟨ep, ec, rfl, _⟩ := NumsAt.at (HEE.out k p ve hp hve)
      have me := HM5.out p (List.mem_of_getElem? hp)
      unfold maxLen at me
      rcases HXP.out with hnil | ⟨b, off, rfl, hbl, hxx⟩
      · exact absurd hlt (by rw [hnil]; simp)
      have n0 := K0.out.cellOf (hxx k p _ hp hve).1
      have n7 := K0.out.cellOf (hxx k p _ hp hve).2.2.2.2.2.2.2
      clear hp hve hxx
      by_cases big : (100 : Int) < p.name.size
      · have b1 : decide ((100 : Int) < p.name.size) = true := decide_eq_true big
        go_wp2_with fail
        go_ret
        exact IFewR.no ((Keep.refl _).alloc _)
      have b1 : decide ((100 : Int) < p.name.size) = false := decide_eq_false big
      by_cases big2 : (70 : Int) < p.entries.length
      · have b2 : decide ((70 : Int) < p.entries.length) = true := decide_eq_true big2
        go_wp2_with fail
        go_ret
        exact IFewR.no ((Keep.refl _).alloc _)
      have b2 : decide ((70 : Int) < p.entries.length) = false := decide_eq_false big2
      have HS2 : Hid (∀ (j : Nat) (y : PartV), j < k + 1 → i.parts[j]? = some y → y.name.size ≤ 100 ∧ y.entries.length ≤ 70) := Lib.hid (fun j y hj hy => by
        by_cases e : j = k
        · subst e
          rw [HK.out] at hy
          cases hy
          omega
        · exact HN.out j y (by omega) hy)
      go_wp2_with fail
      go_round
      case rel => exact ⟨k + 1, hlt, by go_num, HS2.out⟩
      case measure => simp [intOf]; omega
    · obtain rfl : k = i.parts.length := by omega
      have HPE := Lib.hid HN.out
      have FF := Lib.hid (show ImgFew i from ⟨by omega, by omega, by omega, by omega, fun p hp => by
          obtain ⟨j, hj, rfl⟩ := List.mem_iff_getElem.1 hp
          exact (HPE.out j _ hj (List.getElem?_eq_getElem hj)).1, fun p hp => by
          obtain ⟨j, hj, rfl⟩ := List.mem_iff_getElem.1 hp
          exact (HPE.out j _ hj (List.getElem?_eq_getElem hj)).2⟩)
      go_wp2_with fail
      go_ret
      exact IFewR.yes FF.out K0.out
end Go.Proofs.YtmcbeclkocjlkaaDoor
