/- strings.Lines: the maker, and the iterator, whose rest of the text lies in a cell of its own. -/
import Derived.Test.YteddflbidafebaaGreatDoorRangeC
import Derived.Test.YteddflbidafebaaGreatDoorManPNum
import Derived.Shelf.Abstract
import Derived.Shelf.RegionOpen
import Derived.WalkKit
import Derived.OwnWalkIn
import Derived.TacticsInMore
import Derived.LoopNIn
import Derived.LoopIn
namespace Go.Proofs.YteddflbidafebaaGreatDoor
set_option linter.unusedVariables false
set_option linter.unusedSimpArgs false
open Go Go.RowKit Go.Shelf
attribute [local go_sem] Oper.semAt_some
/-- The next line of a text, its end with it, and the rest. -/
def cutL (l : List UInt8) : List UInt8 × List UInt8 := if Lib.indexByte l 10 = -1 then (l, []) else (l.take ((Lib.indexByte l 10).toNat + 1), l.drop ((Lib.indexByte l 10).toNat + 1))
/-- The iterator's own steps. -/
def ownCell (sb : Nat) (A B : World) : Prop := (∃ vs t fr, A.heap[sb]? = some (.cells vs t fr)) ∧ KeepBut (fun z => z = sb) A B
theorem ownCell.others {sb : Nat} {A B : World} (h : ownCell sb A B) : KeepsOthers A B := by
  obtain ⟨⟨vs, t, fr, h1⟩, h2⟩ := h
  refine ⟨h2.size, fun k o hk ho => ?_⟩
  have hlt := (Array.getElem?_eq_some_iff.1 hk).1
  by_cases e : k = sb
  · subst e
    rw [h1] at hk
    cases hk
    cases ho
  · rw [h2.block k hlt e]; exact hk
def textLen (sb : Nat) (W : World) : Nat := match W.cell? ⟨sb, 0, none⟩ with
  | some (.string b) => b.size
  | _ => 0
theorem bs_take (l : List UInt8) (k : Nat) : (bsL l).extract 0 k = bsL (l.take k) := bs_of (by rw [Lib.extract_from_zero, bs_data])
theorem bs_drop (l : List UInt8) (k : Nat) : (bsL l).extract k l.length = bsL (l.drop k) := bs_of (by have := Lib.extract_to_end (bsL l) k; rw [bs_size, bs_data] at this; exact this)
set_option maxHeartbeats 4000000 in
set_option maxRecDepth 100000 in
theorem lines_iter {σ : Type} (n l sb : Nat) (J : σ → World → Prop) (JY : σ → Value → World → Prop) (Nx : σ → Value → σ → Prop) (Done : σ → Prop) (s0 : σ) (W1 : World) (txt : σ → List UInt8) (hn : 1 ≤ n)
    (hcell : ∀ s W, J s W → (txt s).length ≤ 5000 ∧ W.heap[sb]? = some (.cells #[.string (bsL (txt s))] 9))
    (hstep : ∀ s W W', J s W → txt s ≠ [] → KeepBut (fun z => z = sb) W W' → W'.heap[sb]? = some (.cells #[.string (bsL (cutL (txt s)).2)] 9) → JY s (.string (bsL (cutL (txt s)).1)) W')
    (hnext : ∀ s v s', Nx s v s' → txt s' = (cutL (txt s)).2)
    (hdone : ∀ s, txt s = [] → Done s) :
    IterC Fence.wide n Tryz.prog 31 l #[.pointer (some ⟨sb, 0, none⟩)] (ownCell sb) J JY Nx Done s0 W1 := by
  intro T Tx hT hround hJ0 hT0
  refine callsIn_of_wp Tryz.func31 rfl trivial ?_ rfl
  simp only [Tryz.ntmps31, List.size_toArray, List.length_cons, List.length_nil, Nat.reduceAdd, Nat.reduceSub, Array.replicate_succ, Array.replicate_zero, List.push_toArray, List.append_toArray, List.nil_append, List.cons_append]
  gi_wp2
  gi_loopw [3, 4] (fun _ _ wr => ∃ s, J s wr ∧ T wr) (fun _ _ wr => textLen sb wr)
  case atStart => exact ⟨s0, hJ0, hT0⟩
  case round =>
    obtain ⟨s, hJs, hTs⟩ := hrel
    obtain ⟨hl, hbx⟩ := hcell s wr hJs
    have HJ := Lib.hid hJs
    have HT := Lib.hid hTs
    have HST := Lib.hid hstep
    have HNX := Lib.hid hnext
    have HDN := Lib.hid (hdone s)
    have HRD := Lib.hid hround
    have HTT := Lib.hid hT
    have HCL := Lib.hid hcell
    have HB := Lib.hid hbx
    have BX : Box wr sb #[.string (bsL (txt s))] := ⟨_, hbx⟩
    obtain ⟨t, ht⟩ : ∃ t, t = txt s := ⟨_, rfl⟩
    rw [← ht] at hl BX
    have HTX := Lib.hid ht
    have TL : Hid (textLen sb wr = t.length) := Lib.hid (by unfold textLen; rw [BX.cells]; simp [bs_size])
    have c0 := BX.cells
    have f0 := BX.thawed
    clear hJs hTs hstep hnext hdone hround hT hcell hbx ht hJ0 hT0
    by_cases he : t = []
    · subst he
      have e0 : ((bsL ([] : List UInt8)).size : Int) = 0 := by decide
      rw [show bsL [] = ⟨#[]⟩ from rfl] at c0
      gi_wp2
      go_end0
      exact ⟨⟨_, rfl⟩, .inl ⟨s, HDN.out (HTX.out ▸ rfl), HJ.out, HT.out⟩⟩
    have hpos : 0 < t.length := List.length_pos_iff.2 he
    have hpi : (0 : Int) < ((bsL t).size : Int) := by rw [bs_size]; omega
    have hOwn : ∀ W', KeepBut (fun z => z = sb) wr W' → ownCell sb wr W' := fun W' k => ⟨⟨_, _, _, HB.out⟩, k⟩
    by_cases hi : Lib.indexByte t 10 = -1
    · have hc2 : cutL t = (t, []) := by unfold cutL; rw [if_pos hi]
      have CI : ∀ W, Calls Tryz.prog 32 #[.string (bsL t), .int .u8 10] W fun e w' => e = .returned (.int .i64 (-1)) ∧ W = w' := fun W => by
        have := Tryz.strings_IndexByte (bsL t) 10 W
        rw [bs_data, show ((10 : Int).toNat.toUInt8) = 10 from rfl, hi] at this
        exact this.mono fun e w' h => ⟨h.1, h.2.symm⟩
      have KB : KeepBut (fun z => z = sb) wr (wr.setCell ⟨sb, 0, none⟩ (.string ⟨#[]⟩)) := KeepBut.setAt (S := fun z => z = sb) (.inl rfl) (KeepBut.refl _ _) _
      have HW : (wr.setCell ⟨sb, 0, none⟩ (.string ⟨#[]⟩)).heap[sb]? = some (.cells #[.string (bsL (cutL (txt s)).2)] 9) := by
        rw [← HTX.out, hc2]
        simp only [World.setCell, Array.getElem?_modify, if_pos rfl, HB.out]
        rfl
      have HJY := HST.out s wr _ HJ.out (by rw [← HTX.out]; exact he) KB HW
      rw [← HTX.out, hc2] at HJY
      obtain ⟨fn, tm, asg, bd, hy, hR⟩ := HRD.out s _ _ HJY (HTT.out _ _ HT.out (hOwn _ KB))
      clear KB HW HJY hOwn
      gi_wp2_with (refine ⟨trivial, ?_⟩; gi_at_call 32; refine (callsIn_wide.2 (CI _)).mono ?_; rintro e w' ⟨rfl, rfl⟩)
      refine hR.mono ?_
      rintro e W3 (⟨rfl, s', hnx, hJ3, hT3⟩ | ⟨rfl, hx3⟩)
      · have hlen : textLen sb W3 = 0 := by
          obtain ⟨_, hb3⟩ := HCL.out s' W3 hJ3
          have := HNX.out s _ s' hnx
          rw [← HTX.out, hc2] at this
          unfold textLen
          rw [Box.cells ⟨_, hb3⟩, this]
          rfl
        have HJ3 := Lib.hid hJ3
        have HT3 := Lib.hid hT3
        have HL3 := Lib.hid hlen
        clear hnx hJ3 hT3 hlen
        gi_wp2
        go_roundw
        case rel => exact ⟨s', HJ3.out, HT3.out⟩
        case measure => rw [HL3.out, TL.out]; exact hpos
      · have HX3 := Lib.hid hx3
        clear hx3
        gi_wp2
        refine bodyPost_ret (results_none rfl _ _ _) rfl ?_
        exact ⟨⟨_, rfl⟩, .inr HX3.out⟩
    · obtain ⟨o, ho⟩ : ∃ o : Nat, Lib.indexByte t 10 = o := ⟨(Lib.indexByte t 10).toNat, by have := Lib.indexByte_ge t 10; omega⟩
      have hol : o < t.length := (List.getElem?_eq_some_iff.1 (Lib.indexByte_some ho).1).1
      have hc2 : cutL t = (t.take (o + 1), t.drop (o + 1)) := by unfold cutL; rw [if_neg hi, ho]; rfl
      have CI : ∀ W, Calls Tryz.prog 32 #[.string (bsL t), .int .u8 10] W fun e w' => e = .returned (.int .i64 (o : Int)) ∧ W = w' := fun W => by
        have := Tryz.strings_IndexByte (bsL t) 10 W
        rw [bs_data, show ((10 : Int).toNat.toUInt8) = 10 from rfl, ho] at this
        exact this.mono fun e w' h => ⟨h.1, h.2.symm⟩
      clear hi ho
      gi_wp2_with (refine ⟨trivial, ?_⟩; gi_at_call 32; refine (callsIn_wide.2 (CI _)).mono ?_; rintro e w' ⟨rfl, rfl⟩)
      have wo : IntKind.i64.wrap ((o : Int) + 1) = (o : Int) + 1 := by rw [IntKind.wrap_i64]; omega
      have sz : (bsL t).size = t.length := bs_size t
      have o0 : (0 : Int) ≤ (o : Int) + 1 := by omega
      have o1 : (o : Int) + 1 ≤ ((bsL t).size : Int) := by rw [bs_size]; omega
      gi_region
      rw [bs_take, bs_drop]
      have KB : KeepBut (fun z => z = sb) wr (wr.setCell ⟨sb, 0, none⟩ (.string (bsL (t.drop (o + 1))))).drew := (KeepBut.setAt (S := fun z => z = sb) (.inl rfl) (KeepBut.refl _ _) _).drew
      have HW : (wr.setCell ⟨sb, 0, none⟩ (.string (bsL (t.drop (o + 1))))).drew.heap[sb]? = some (.cells #[.string (bsL (cutL (txt s)).2)] 9) := by
        rw [← HTX.out, hc2]
        show (wr.setCell ⟨sb, 0, none⟩ (.string (bsL (t.drop (o + 1))))).heap[sb]? = _
        simp only [World.setCell, Array.getElem?_modify, if_pos rfl, HB.out]
        rfl
      have HJY := HST.out s wr _ HJ.out (by rw [← HTX.out]; exact he) KB HW
      rw [← HTX.out, hc2] at HJY
      obtain ⟨fn, tm, asg, bd, hy, hR⟩ := HRD.out s _ _ HJY (HTT.out _ _ HT.out (hOwn _ KB))
      obtain ⟨WB, hWB⟩ : ∃ WB, WB = (wr.setCell ⟨sb, 0, none⟩ (.string (bsL (t.drop (o + 1))))).drew := ⟨_, rfl⟩
      rw [← hWB] at hy hR ⊢
      clear KB HW HJY hOwn c0 f0 BX hWB
      gi_wp2
      refine hR.mono ?_
      rintro e W3 (⟨rfl, s', hnx, hJ3, hT3⟩ | ⟨rfl, hx3⟩)
      · have hlen : textLen sb W3 < t.length := by
          obtain ⟨_, hb3⟩ := HCL.out s' W3 hJ3
          have := HNX.out s _ s' hnx
          rw [← HTX.out, hc2] at this
          unfold textLen
          rw [Box.cells ⟨_, hb3⟩, this]
          simp [bs_size]
          omega
        have HJ3 := Lib.hid hJ3
        have HT3 := Lib.hid hT3
        have HL3 := Lib.hid hlen
        clear hnx hJ3 hT3 hlen
        gi_wp2
        go_roundw
        case rel => exact ⟨s', HJ3.out, HT3.out⟩
        case measure => rw [TL.out]; exact HL3.out
      · have HX3 := Lib.hid hx3
        clear hx3
        gi_wp2
        refine bodyPost_ret (results_none rfl _ _ _) rfl ?_
        exact ⟨⟨_, rfl⟩, .inr HX3.out⟩
end Go.Proofs.YteddflbidafebaaGreatDoor
