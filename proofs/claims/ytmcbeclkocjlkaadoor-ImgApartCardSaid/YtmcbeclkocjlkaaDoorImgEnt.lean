/- Images, plain: which entry of all an entry of a part is; what is wrong of a span, of an entry, by its tests. -/
import Derived.Test.YtmcbeclkocjlkaaDoorGPlainI
namespace Go.Proofs.YtmcbeclkocjlkaaDoor
set_option linter.unusedVariables false
set_option linter.unusedSimpArgs false
open Go.RowKit
/-- How many entries stand ahead of a part's. -/
def entOff (l : List PartV) (k : Nat) : Nat := ((l.take k).map fun p => p.entries.length).sum
theorem entOff_zero (l : List PartV) : entOff l 0 = 0 := by simp [entOff]
theorem entOff_succ {l : List PartV} {k : Nat} {p : PartV} (h : l[k]? = some p) : entOff l (k + 1) = entOff l k + p.entries.length := by
  have hk := (List.getElem?_eq_some_iff.1 h).1
  unfold entOff
  rw [List.take_add_one, h]
  simp
theorem ents_len (l : List PartV) : (l.flatMap fun p => (List.range p.entries.length).map fun j => (p, j)).length = (l.map fun p => p.entries.length).sum := by
  induction l with
  | nil => rfl
  | cons p l ih => simp [List.flatMap_cons, ih]
theorem entOff_end (i : ImgV) : entOff i.parts i.parts.length = (entsI i).length := by
  unfold entOff entsI
  rw [ents_len, List.take_length]
theorem ents_at : ∀ {l : List PartV} {k j : Nat} {p : PartV}, l[k]? = some p → j < p.entries.length → (l.flatMap fun p => (List.range p.entries.length).map fun j => (p, j))[entOff l k + j]? = some (p, j)
  | [], k, j, p, h, _ => by simp at h
  | q :: l, 0, j, p, h, hj => by
    simp at h
    subst h
    rw [entOff_zero, Nat.zero_add, List.flatMap_cons, List.getElem?_append_left (by simp; exact hj)]
    simp [hj]
  | q :: l, k + 1, j, p, h, hj => by
    have h' : l[k]? = some p := by simpa using h
    have e : entOff (q :: l) (k + 1) = q.entries.length + entOff l k := by simp [entOff]
    rw [e, List.flatMap_cons, List.getElem?_append_right (by simp; omega)]
    have := ents_at h' hj
    rw [show q.entries.length + entOff l k + j - ((List.range q.entries.length).map fun j => (q, j)).length = entOff l k + j by simp; omega]
    exact this
theorem entsI_at {i : ImgV} {k j : Nat} {p : PartV} (h : i.parts[k]? = some p) (hj : j < p.entries.length) : (entsI i)[entOff i.parts k + j]? = some (p, j) := ents_at h hj
theorem entOff_lt {i : ImgV} {k j : Nat} {p : PartV} (h : i.parts[k]? = some p) (hj : j < p.entries.length) : entOff i.parts k + j < (entsI i).length := (List.getElem?_eq_some_iff.1 (entsI_at h hj)).1
/-- The one ahead of an entry is not below it. -/
def prevE (l : List Int) (j : Nat) (e : Int) : Bool := match j with
  | 0 => false
  | h + 1 => match l[h]? with
    | none => false
    | some d => decide (e ≤ d)
def entF (a w p : Bool) : Int := if a = true then 5 else if w = false then 6 else if p = true then 13 else 0
theorem entE_F {i : ImgV} {k j : Nat} {p : PartV} {e : Int} (h : i.parts[k]? = some p) (he : p.entries[j]? = some e) : entE i (entOff i.parts k + j) = entF (decide (e % 4 ≠ 0)) (withinS p.code e 1) (prevE p.entries j e) := by
  have hj := (List.getElem?_eq_some_iff.1 he).1
  unfold entE entF
  rw [entsI_at h hj]
  dsimp only
  rw [he]
  dsimp only
  unfold prevE
  by_cases c : e % 4 ≠ 0
  · rw [if_pos c, if_pos (decide_eq_true c)]
  · have c' : ¬ decide (e % 4 ≠ 0) = true := by simpa using c
    rw [if_neg c, if_neg c']
    cases j with
    | zero => rfl
    | succ m => rfl
def spanF (a r t : Bool) : Int := if a = true then 5 else if r = true then 6 else if t = true then 13 else 0
theorem spanE_F {i : ImgV} {k : Nat} {s : SpanV} (h : (spansI i)[k]? = some s) : spanE i k = spanF (decide (s.at_ % 16 ≠ 0) || decide (s.size % 16 ≠ 0)) (decide (s.at_ < 16) || decide (i.size < s.at_ + s.size)) (((spansI i).take k).any fun t => meetS t s) := by
  have ha : (decide (s.at_ % 16 ≠ 0) || decide (s.size % 16 ≠ 0)) = decide (s.at_ % 16 ≠ 0 ∨ s.size % 16 ≠ 0) := (Bool.decide_or _ _).symm
  have hr : (decide (s.at_ < 16) || decide (i.size < s.at_ + s.size)) = decide (s.at_ < 16 ∨ i.size < s.at_ + s.size) := (Bool.decide_or _ _).symm
  rw [ha, hr]
  unfold spanE
  rw [h]
  dsimp only
  by_cases a : s.at_ % 16 ≠ 0 ∨ s.size % 16 ≠ 0
  · rw [if_pos a, decide_eq_true a]; rfl
  · rw [if_neg a, decide_eq_false a]
    by_cases r : s.at_ < 16 ∨ i.size < s.at_ + s.size
    · rw [if_pos r, decide_eq_true r]; rfl
    · rw [if_neg r, decide_eq_false r]; rfl
theorem spansI_few {i : ImgV} : (spansI i).length = i.parts.length * 3 + i.shares.length := by
  unfold spansI
  rw [List.length_append]
  congr 1
  generalize i.parts = l
  induction l with
  | nil => rfl
  | cons p l ih => rw [List.flatMap_cons, List.length_append, ih]; simp; omega
end Go.Proofs.YtmcbeclkocjlkaaDoor
