/- ManAt, ManIdx, ManC: Manifests as they lie. -/
import Derived.Test.YtbmjnfnekmeegaaGreatDoorGPlainM
import Derived.Test.YtbmjnfnekmeegaaGreatDoorGRows
import Derived.Test.YtbmjnfnekmeegaaGreatDoorGPlainO
import Derived.Test.YtbmjnfnekmeegaaGreatDoorObjNz
import Derived.Test.YtbmjnfnekmeegaaGreatDoorGTell
/- Manifests as they lie. -/
namespace Go.Proofs.YtbmjnfnekmeegaaGreatDoor
set_option linter.unusedVariables false
set_option linter.unusedSimpArgs false
open Go.RowKit
def compRow (c : CompV) : List Value := [.string c.name, .int .u32 c.stack]
def impRow (x : ImpV) : List Value := [.string x.comp, .string x.from_, .string x.name]
def grnRow (x : GrnV) : List Value := [.string x.comp, .string x.share, .int .u16 x.perm]
/-- A manifest, as a value in a world. -/
structure ManAt (w : World) (m : ManV) (vc vi vs vg : Value) : Prop where
  comps : SlAt w vc m.comps.length (m.comps.flatMap compRow)
  imps : SlAt w vi m.imps.length (m.imps.flatMap impRow)
  shrs : SlAt w vs m.shrs.length (m.shrs.flatMap compRow)
  grns : SlAt w vg m.grns.length (m.grns.flatMap grnRow)
theorem ManAt.keep {w w' : World} {m : ManV} {vc vi vs vg : Value} (h : ManAt w m vc vi vs vg) (k : Keep w w') : ManAt w' m vc vi vs vg := ⟨h.comps.keep k, h.imps.keep k, h.shrs.keep k, h.grns.keep k⟩
def manVal (m : ManV) (vc vi vs vg : Value) : Value := .agg #[vc, vi, vs, vg, .string m.start.comp, .string m.start.from_, .string m.start.name]
/-- What of a manifest is not great, and its numbers. -/
structure ManMay (m : ManV) : Prop where
  comps : m.comps.length ≤ 100
  imps : m.imps.length ≤ 100
  shrs : m.shrs.length ≤ 100
  grns : m.grns.length ≤ 100
  compN : ∀ c ∈ m.comps, c.name.size ≤ 1000 ∧ 0 ≤ c.stack ∧ c.stack < 4294967296
  impN : ∀ x ∈ m.imps, x.comp.size ≤ 1000 ∧ x.from_.size ≤ 1000 ∧ x.name.size ≤ 1000
  shrN : ∀ c ∈ m.shrs, c.name.size ≤ 1000 ∧ 0 ≤ c.stack ∧ c.stack < 4294967296
  grnN : ∀ x ∈ m.grns, x.comp.size ≤ 1000 ∧ x.share.size ≤ 1000 ∧ 0 ≤ x.perm ∧ x.perm < 65536
  startN : m.start.comp.size ≤ 1000 ∧ m.start.from_.size ≤ 1000 ∧ m.start.name.size ≤ 1000
/-- Things of m cells each: a cell of one of them. -/
theorem SlAt.cellOf {α : Type} {f : α → List Value} {k : Nat} (hf : ∀ x, (f x).length = k) {w : World} {v : Value} {l : List α} (h : SlAt w v l.length (l.flatMap f)) {i j : Nat} {t : α} {x : Value} (ht : l[i]? = some t) (hj : (f t)[j]? = some x) :
    ∃ b off cap, v = .slice (some ⟨b, off, none⟩) l.length cap ∧ l.length ≤ cap ∧ w.cell? ⟨b, off + (i * k + j), none⟩ = some x := by
  have hjk : j < k := by rw [← hf t]; exact (List.getElem?_eq_some_iff.1 hj).1
  have hr := rows_row hf l i j hjk t ht
  rw [hj] at hr
  obtain ⟨p, cap, rfl, h1, _, h3⟩ := h
  rcases h3 with h3 | ⟨b, off, rfl, _, h5⟩
  · rw [h3] at hr; simp at hr
  · exact ⟨b, off, cap, rfl, h1, h5 _ _ hr⟩
theorem compRow_length (c : CompV) : (compRow c).length = 2 := rfl
theorem grnRow_length (c : GrnV) : (grnRow c).length = 3 := rfl
end Go.Proofs.YtbmjnfnekmeegaaGreatDoor

/- The first of a list; a manifest's check, part by part; plain. -/
namespace Go.Proofs.YtbmjnfnekmeegaaGreatDoor
set_option linter.unusedVariables false
set_option linter.unusedSimpArgs false
open Go.RowKit
/-- The first of a list of which something holds; -1: none. -/
def idxF {α : Type} (f : α → Bool) : List α → Nat → Int
  | [], _ => -1
  | x :: r, i => if f x = true then (i : Int) else idxF f r (i + 1)
theorem idxL_F (n : ByteArray) : ∀ (l : List CompV) (i : Nat), idxL l n i = idxF (fun c => decide (c.name = n)) l i
  | [], _ => rfl
  | c :: r, i => by
    unfold idxL idxF
    rw [idxL_F n r (i + 1)]
    by_cases h : c.name = n
    · rw [if_pos h, if_pos (decide_eq_true h)]
    · rw [if_neg h, if_neg (by simpa using h)]
theorem idxF_lt {α : Type} {f : α → Bool} : ∀ (l : List α) (k i : Nat) (x : α), l[i]? = some x → f x = true → decide (idxF f l k < ((k + i : Nat) : Int)) = (l.take i).any f
  | [], k, i, x, h, _ => by simp at h
  | y :: r, k, 0, x, h, hf => by
    simp only [List.getElem?_cons_zero, Option.some.injEq] at h
    subst h
    unfold idxF
    rw [if_pos hf, List.take_zero]
    simp
  | y :: r, k, i + 1, x, h, hf => by
    simp only [List.getElem?_cons_succ] at h
    unfold idxF
    rw [List.take_succ_cons, List.any_cons]
    by_cases hy : f y = true
    · rw [if_pos hy, hy, Bool.true_or]
      apply decide_eq_true; omega
    · rw [if_neg hy, (Bool.not_eq_true _).mp hy, Bool.false_or, ← idxF_lt r (k + 1) i x h hf]
      congr 2
      omega
theorem sizedAt_at {l : List CompV} {i : Nat} {c : CompV} (h : l[i]? = some c) : sizedAt l i = sizedE c.name (hasC (l.take i) c.name) c.stack := by
  unfold sizedAt; rw [h]
def likeI (y z : ImpV) : Bool := decide (z.comp = y.comp ∧ z.from_ = y.from_ ∧ z.name = y.name)
/-- Of a list: too long, or the first of it. -/
def lstM (all one : ByteArray) (most n : Nat) (f : Nat → Int) : WrV := if most < n then (all, n, 15) else match firstE f n 0 with
  | some (i, e) => (one, i, e)
  | none => okW
theorem lstM_long {all one : ByteArray} {most n : Nat} {f : Nat → Int} (h : most < n) : lstM all one most n f = ((all, (n : Int), (15 : Int)) : WrV) := if_pos h
theorem lstM_hit {all one : ByteArray} {most n i : Nat} {e : Int} {f : Nat → Int} (h : ¬ most < n) (hf : firstE f n 0 = some (i, e)) : lstM all one most n f = ((one, (i : Int), e) : WrV) := by unfold lstM; rw [if_neg h, hf]
theorem lstM_none {all one : ByteArray} {most n : Nat} {f : Nat → Int} (h : ¬ most < n) (hf : firstE f n 0 = none) : lstM all one most n f = okW := by unfold lstM; rw [if_neg h, hf]
def orM (a b : WrV) : WrV := if a.2.2 = 0 then b else a
theorem orM_zero {a b : WrV} (h : a.2.2 = 0) : orM a b = b := if_pos h
theorem orM_not {a b : WrV} (h : a.2.2 ≠ 0) : orM a b = a := if_neg h
def mCompsW (m : ManV) : WrV := if m.comps.length = 0 then (compsT, 0, 16) else lstM compsT compT 8 m.comps.length (sizedAt m.comps)
def mImpsW (m : ManV) : WrV := lstM importsT importT 64 m.imps.length (impE m)
def mShrsW (m : ManV) : WrV := lstM msharesT shareT 8 m.shrs.length (sizedAt m.shrs)
def mGrnsW (m : ManV) : WrV := lstM grantsT grantT 64 m.grns.length (grnE m)
def mStartW (m : ManV) : WrV := if (!(hasC m.comps m.start.from_ && goodB m.start.name)) = true then (mstartT, 0, 12) else if m.start.comp ≠ ⟨#[]⟩ then (mstartT, 0, 17) else okW
/-- The first of them. -/
theorem manW_parts (m : ManV) : manW m = orM (mCompsW m) (orM (mImpsW m) (orM (mShrsW m) (orM (mGrnsW m) (mStartW m)))) := by
  have hlst : ∀ (all one : ByteArray) (most n : Nat) (f : Nat → Int) (rest : WrV), orM (lstM all one most n f) rest = if n > most then ((all, (n : Int), (15 : Int)) : WrV) else match firstE f n 0 with
      | some (i, e) => (one, i, e)
      | none => rest := fun all one most n f rest => by
    unfold orM lstM
    by_cases h : most < n
    · rw [if_pos h, if_pos h]; exact if_neg (show ¬ (15 : Int) = 0 by decide)
    · rw [if_neg h, if_neg h]
      cases hf : firstE f n 0 with
      | none => exact if_pos rfl
      | some x => exact if_neg (first_some _ _ _ _ hf)
  have hc : ∀ rest, orM (mCompsW m) rest = if m.comps.length = 0 then (compsT, 0, 16) else if m.comps.length > 8 then ((compsT, (m.comps.length : Int), (15 : Int)) : WrV) else match firstE (sizedAt m.comps) m.comps.length 0 with
      | some (i, e) => (compT, i, e)
      | none => rest := fun rest => by
    unfold mCompsW
    by_cases h : m.comps.length = 0
    · rw [if_pos h, if_pos h]; exact orM_not (show (16 : Int) ≠ 0 by decide)
    · rw [if_neg h, if_neg h]; exact hlst _ _ _ _ _ rest
  have hst : mStartW m = if (!hasC m.comps m.start.from_ || !goodB m.start.name) = true then (mstartT, 0, 12) else if m.start.comp ≠ ⟨#[]⟩ then (mstartT, 0, 17) else okW := by
    unfold mStartW; rw [Bool.not_and]
  rw [hc]
  unfold mImpsW mShrsW mGrnsW
  rw [hlst, hlst, hlst, hst]
  rfl
theorem mStartW_ok {m : ManV} (h : (mStartW m).2.2 = 0) : mStartW m = okW := by
  unfold mStartW at h ⊢
  by_cases h1 : (!(hasC m.comps m.start.from_ && goodB m.start.name)) = true
  · rw [if_pos h1] at h; cases h
  · rw [if_neg h1] at h ⊢
    by_cases h2 : m.start.comp ≠ ⟨#[]⟩
    · rw [if_pos h2] at h; cases h
    · rw [if_neg h2]
theorem impE_at {m : ManV} {i : Nat} {x : ImpV} (h : m.imps[i]? = some x) : impE m i = if (!hasC m.comps x.comp || !hasC m.comps x.from_ || !goodB x.name) = true then 12 else if x.from_ = x.comp then 17 else if ((m.imps.take i).any (likeI x)) = true then 13 else 0 := by
  unfold impE; rw [h]; rfl
def likeG (g z : GrnV) : Bool := decide (z.comp = g.comp ∧ z.share = g.share)
theorem grnE_at {m : ManV} {i : Nat} {x : GrnV} (h : m.grns[i]? = some x) : grnE m i = if (!hasC m.comps x.comp || !hasC m.shrs x.share) = true then 12 else if x.perm = 0 ∨ 3 < x.perm then 3 else if ((m.grns.take i).any (likeG x)) = true then 13 else 0 := by
  unfold grnE; rw [h]; rfl
end Go.Proofs.YtbmjnfnekmeegaaGreatDoor

/- What the program's man is to answer. Pre: what is laid ahead of a call (any predicate that lasts and holds errors.errorType). -/
namespace Go.Proofs.YtbmjnfnekmeegaaGreatDoor
set_option linter.unusedVariables false
set_option linter.unusedSimpArgs false
open Go.RowKit
def PManIndex : Prop := ∀ (m : ManV) (vc vi vs vg : Value) (n : ByteArray) (w : World), ManAt w m vc vi vs vg → ManMay m → n.size ≤ 1000 →
  Calls Tryz.prog 80 #[manVal m vc vi vs vg, .string n] w fun e w' => e = .returned (.int .i64 (idxL m.comps n 0)) ∧ Keep w w'
def PManCheck (Pre : World → Prop) : Prop := ∀ (m : ManV) (vc vi vs vg : Value) (w : World), ManAt w m vc vi vs vg → ManMay m → Pre w →
  Calls Tryz.prog 56 #[manVal m vc vi vs vg] w fun e w' => Keep w w' ∧ ∃ u, e = .returned u ∧ OErr w' u (manW m)
theorem manPW_ok {s : ByteArray} {m : ManV} (h : manL s.data.toList = .ok m) : manPW s = okW := by unfold manPW; rw [h]
theorem manPW_err {s : ByteArray} {x : WrV} (h : manL s.data.toList = .error x) : manPW s = x := by unfold manPW; rw [h]
theorem kMan_may : ManMay kMan := by
  refine ⟨by decide, by decide, by decide, by decide, ?_, ?_, ?_, ?_, by decide⟩ <;> decide
end Go.Proofs.YtbmjnfnekmeegaaGreatDoor
