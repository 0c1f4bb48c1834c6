/- Manifests as they lie. -/
import Derived.Test.YteddflbidafebaaGreatDoorManTab
import Derived.Test.YteddflbidafebaaGreatDoorGRows
namespace Go.Proofs.YteddflbidafebaaGreatDoor
set_option linter.unusedVariables false
set_option linter.unusedSimpArgs false
open Go.RowKit
def compRow (c : CompV) : List Value := [.string c.name, .int .u32 c.stack]
def impRow (x : ImpV) : List Value := [.string x.comp, .string x.from_, .string x.name]
def grnRow (x : GrnV) : List Value := [.string x.comp, .string x.share, .int .u16 x.perm]
/-- A manifest, as a value in a world. -/
structure ManAt (w : World) (m : ManV) (vc vi vs vg : Value) : Prop where
  comps : SlAt w vc m.comps.length (m.comps.flatMap compRow)
  imps : SlAt w vi m.imps.length (m.imps.flatMap impRow)
  shrs : SlAt w vs m.shrs.length (m.shrs.flatMap compRow)
  grns : SlAt w vg m.grns.length (m.grns.flatMap grnRow)
theorem ManAt.keep {w w' : World} {m : ManV} {vc vi vs vg : Value} (h : ManAt w m vc vi vs vg) (k : Keep w w') : ManAt w' m vc vi vs vg := ⟨h.comps.keep k, h.imps.keep k, h.shrs.keep k, h.grns.keep k⟩
def manVal (m : ManV) (vc vi vs vg : Value) : Value := .agg #[vc, vi, vs, vg, .string m.start.comp, .string m.start.from_, .string m.start.name]
/-- What of a manifest is not great, and its numbers. -/
structure ManMay (m : ManV) : Prop where
  comps : m.comps.length ≤ 100
  imps : m.imps.length ≤ 100
  shrs : m.shrs.length ≤ 100
  grns : m.grns.length ≤ 100
  compN : ∀ c ∈ m.comps, c.name.size ≤ 1000 ∧ 0 ≤ c.stack ∧ c.stack < 4294967296
  impN : ∀ x ∈ m.imps, x.comp.size ≤ 1000 ∧ x.from_.size ≤ 1000 ∧ x.name.size ≤ 1000
  shrN : ∀ c ∈ m.shrs, c.name.size ≤ 1000 ∧ 0 ≤ c.stack ∧ c.stack < 4294967296
  grnN : ∀ x ∈ m.grns, x.comp.size ≤ 1000 ∧ x.share.size ≤ 1000 ∧ 0 ≤ x.perm ∧ x.perm < 65536
  startN : m.start.comp.size ≤ 1000 ∧ m.start.from_.size ≤ 1000 ∧ m.start.name.size ≤ 1000
/-- Things of m cells each: a cell of one of them. -/
theorem SlAt.cellOf {α : Type} {f : α → List Value} {k : Nat} (hf : ∀ x, (f x).length = k) {w : World} {v : Value} {l : List α} (h : SlAt w v l.length (l.flatMap f)) {i j : Nat} {t : α} {x : Value} (ht : l[i]? = some t) (hj : (f t)[j]? = some x) :
    ∃ b off cap, v = .slice (some ⟨b, off, none⟩) l.length cap ∧ l.length ≤ cap ∧ w.cell? ⟨b, off + (i * k + j), none⟩ = some x := by
  have hjk : j < k := by rw [← hf t]; exact (List.getElem?_eq_some_iff.1 hj).1
  have hr := rows_row hf l i j hjk t ht
  rw [hj] at hr
  obtain ⟨p, cap, rfl, h1, _, h3⟩ := h
  rcases h3 with h3 | ⟨b, off, rfl, _, h5⟩
  · rw [h3] at hr; simp at hr
  · exact ⟨b, off, cap, rfl, h1, h5 _ _ hr⟩
theorem compRow_length (c : CompV) : (compRow c).length = 2 := rfl
theorem grnRow_length (c : GrnV) : (grnRow c).length = 3 := rfl
end Go.Proofs.YteddflbidafebaaGreatDoor
