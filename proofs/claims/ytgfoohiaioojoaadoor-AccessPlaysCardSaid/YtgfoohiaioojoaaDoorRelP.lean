/- A region that draws its order, of which two operations may stand either way round (a call that writes, and memory that is made): the sure ones first, then each order that is left. -/
import Derived.Test.YtgfoohiaioojoaaDoorGBase
namespace Go.Proofs.YtgfoohiaioojoaaDoor.Rel
set_option linter.unusedVariables false
set_option linter.unusedSimpArgs false
open Go Go.RowKit
section
variable {P : Program} {ops : Array Oper} {md : Region.Mode} {Q : Act → World → Prop} {R : World → World → Prop}
def textP (P : Program) (ops : Array Oper) (R : World → World → Prop) (ns : List Nat) (F : Array Bool → World → Act → Prop) : List Nat → Array Bool → World → Act → Prop
  | [], listed, w, a => F listed w a
  | k :: rest, listed, w, a => match ops[k]? with
    | none => False
    | some o => if ns.contains k = true then LooseK P ops R w o (textP P ops R ns F rest (listed.setIfInBounds k true)) a else ∃ v, SureK P ops R w o v a ∧ textP P ops R ns F rest (listed.setIfInBounds k true) w (a.put o.dst v)
def lexP (md : Region.Mode) (ops : Array Oper) (ns : List Nat) : List Nat → Array Bool → Bool
  | [], _ => true
  | k :: rest, listed => (if ns.contains k = true then decide (Region.ready md ops listed = [k]) else (Region.ready md ops listed).contains k && Region.free md ops listed k) && lexP md ops ns rest (listed.setIfInBounds k true)
theorem everyK_pre (T : Way R) {ns : List Nat} (hs : Region.noSelect ops = true) (fuel : Nat) : ∀ (l : List Nat) (listed : Array Bool) (w : World) (a : Act),
    lexP md ops ns l listed = true → textP P ops R ns (fun li w a => everyK P md ops R Q fuel li w a) l listed w a → everyK P md ops R Q (l.length + fuel) listed w a
  | [], listed, w, a, _, h => by simpa [textP] using h
  | k :: l, listed, w, a, hB, h => by
    have e : (k :: l).length + fuel = (l.length + fuel) + 1 := by simp only [List.length_cons]; omega
    rw [e]
    simp only [lexP, Bool.and_eq_true] at hB
    obtain ⟨hr, hB'⟩ := hB
    unfold textP at h
    split at h
    · exact h.elim
    · rename_i o h0
      by_cases hc : ns.contains k = true
      · rw [if_pos hc] at hr h
        have hr : Region.ready md ops listed = [k] := by simpa using hr
        refine ⟨fun h1 => (by rw [h1] at hr; cases hr), fun i hi => ?_⟩
        rw [hr] at hi
        have hik : i = k := by simpa using hi
        subst hik
        rw [stepK_some h0]
        exact .inr ⟨h.1, fun W hI => (h.2 W hI).mono fun v W' ⟨hk, hT⟩ => ⟨hk, everyK_pre T hs fuel l _ _ _ hB' hT⟩⟩
      · rw [if_neg hc] at hr h
        simp only [Bool.and_eq_true] at hr
        obtain ⟨v, hy, hK⟩ := h
        exact everyK_first T h0 (Region.noSelect_spec hs) (l.length + fuel) listed w a (Region.free_spec h0 hr.2) (by simpa using hr.1) hy (everyK_pre T hs fuel l _ _ _ hB' hK)
def lexPB (md : Region.Mode) (ops : Array Oper) (ns ord : List Nat) (fuel : Nat) : Bool := Region.noSelect ops && decide (ord.length + fuel = ops.size) && lexP md ops ns ord (Array.replicate ops.size false)
/-- THE LAW: ord first; of what is left each order is shown. -/
theorem regionP {id : Nat} {Q' : Exit → Act → World → Prop} {a : Act} {w w0 : World} {l : List Oper} (R : World → World → Prop) (T : Way R) (ns ord : List Nat) (fuel : Nat) (hm : P.follows .mixedOrders = true) (hB : lexPB .any l.toArray ns ord fuel = true)
    (hk : Keep w0 w) (h : textP P l.toArray R ns (fun li w a => everyK P .any l.toArray R (fun a' W => Q' .normal a' W) fuel li w a) ord (Array.replicate l.toArray.size false) w0 a) : (Code.region id l.toArray true).wp P Q' a w := by
  simp only [lexPB, Bool.and_eq_true, decide_eq_true_eq] at hB
  refine wp_region_any hm ?_
  have := everyK_pre T (md := .any) (P := P) (Q := fun a' W => Q' .normal a' W) (ns := ns) hB.1.1 fuel ord (Array.replicate l.toArray.size false) w0 a hB.2 h
  rw [hB.1.2] at this
  simpa using everyK_sound T (Q' := Q') _ _ _ _ w.drew hk.drew this
theorem pre_end {ns : List Nat} {F : Array Bool → World → Act → Prop} {listed : Array Bool} {w : World} {a : Act} (h : F listed w a) : textP P ops R ns F [] listed w a := h
theorem pre_step {ns : List Nat} {F : Array Bool → World → Act → Prop} {listed : Array Bool} {k : Nat} {w : World} {a : Act} {o : Oper} {rest : List Nat} {v : Value} (hn : ns.contains k = false) (ho : ops[k]? = some o) (hw : Region.wanted o (yielded ops a.tmps) = true)
    (hr : ∀ W, R w W → Yes P (Keep W) v ((execOp a.eval o).run P W)) (h : textP P ops R ns F rest (listed.setIfInBounds k true) w (a.put o.dst v)) : textP P ops R ns F (k :: rest) listed w a := by
  unfold textP
  simp only [ho]
  rw [if_neg (by rw [hn]; decide)]
  exact ⟨v, .inl ⟨hw, hr⟩, h⟩
theorem every_end {listed : Array Bool} {w : World} {a : Act} (hr : Region.ready md ops listed = []) (h : ∀ W, Keep w W → Q a W) : everyK P md ops R Q 0 listed w a := ⟨hr, h⟩
theorem every_one {fuel : Nat} {listed : Array Bool} {w : World} {a : Act} (k : Nat) {o : Oper} (hr : Region.ready md ops listed = [k]) (ho : ops[k]? = some o) (hw : Region.wanted o (yielded ops a.tmps) = true)
    (hg : ∀ W, Keep w W → Gives P (fun v W' => R W W' ∧ everyK P md ops R Q fuel (listed.setIfInBounds k true) W' (a.put o.dst v)) ((execOp a.eval o).run P W)) : everyK P md ops R Q (fuel + 1) listed w a := by
  refine ⟨fun h1 => (by rw [h1] at hr; cases hr), fun i hi => ?_⟩
  rw [hr] at hi
  have hik : i = k := by simpa using hi
  subst hik
  rw [stepK_some ho]
  exact .inr ⟨hw, hg⟩
theorem every_two {fuel : Nat} {listed : Array Bool} {w : World} {a : Act} (j k : Nat) {oj ok : Oper} (hr : Region.ready md ops listed = [j, k]) (hoj : ops[j]? = some oj) (hwj : Region.wanted oj (yielded ops a.tmps) = true) (hok : ops[k]? = some ok) (hwk : Region.wanted ok (yielded ops a.tmps) = true)
    (hgj : ∀ W, Keep w W → Gives P (fun v W' => R W W' ∧ everyK P md ops R Q fuel (listed.setIfInBounds j true) W' (a.put oj.dst v)) ((execOp a.eval oj).run P W))
    (hgk : ∀ W, Keep w W → Gives P (fun v W' => R W W' ∧ everyK P md ops R Q fuel (listed.setIfInBounds k true) W' (a.put ok.dst v)) ((execOp a.eval ok).run P W)) : everyK P md ops R Q (fuel + 1) listed w a := by
  refine ⟨fun h1 => (by rw [h1] at hr; cases hr), fun i hi => ?_⟩
  rw [hr] at hi
  have hik : i = j ∨ i = k := by simpa using hi
  rcases hik with rfl | rfl
  · rw [stepK_some hoj]
    exact .inr ⟨hwj, hgj⟩
  · rw [stepK_some hok]
    exact .inr ⟨hwk, hgk⟩
end
end Go.Proofs.YtgfoohiaioojoaaDoor.Rel
