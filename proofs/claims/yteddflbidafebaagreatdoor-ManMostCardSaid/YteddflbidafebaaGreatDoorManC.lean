/- What the program's man is to answer. Pre: what is laid ahead of a call (any predicate that lasts and holds errors.errorType). -/
import Derived.Test.YteddflbidafebaaGreatDoorManMath
import Derived.Test.YteddflbidafebaaGreatDoorManAt
import Derived.Test.YteddflbidafebaaGreatDoorObjNz
import Derived.Test.YteddflbidafebaaGreatDoorGTell
namespace Go.Proofs.YteddflbidafebaaGreatDoor
set_option linter.unusedVariables false
set_option linter.unusedSimpArgs false
open Go.RowKit
def PManParse (Pre : World → Prop) : Prop := ∀ (s : ByteArray) (w : World), s.size ≤ 800 → Pre w →
  Calls Tryz.prog 6 #[.string s] w fun e w' => Keep w w' ∧ ∃ (m : ManV) (vc vi vs vg u : Value), e = .returned (.tuple #[manVal m vc vi vs vg, u]) ∧ ManAt w' m vc vi vs vg ∧ OErr w' u (manPW s) ∧ ∀ y, manL s.data.toList = .ok y → m = y
def PManText : Prop := ∀ (m : ManV) (vc vi vs vg : Value) (w : World), ManAt w m vc vi vs vg → ManMay m → manW m = okW → (manT m).length ≤ 100000 → (∀ c ∈ m.comps, c.stack < 100) → (∀ c ∈ m.shrs, c.stack < 100) →
  Calls Tryz.prog 8 #[manVal m vc vi vs vg] w fun e w' => e = .returned (.string (bsL (manT m))) ∧ Keep w w'
def PManIndex : Prop := ∀ (m : ManV) (vc vi vs vg : Value) (n : ByteArray) (w : World), ManAt w m vc vi vs vg → ManMay m → n.size ≤ 1000 →
  Calls Tryz.prog 9 #[manVal m vc vi vs vg, .string n] w fun e w' => e = .returned (.int .i64 (idxL m.comps n 0)) ∧ Keep w w'
def PManCheck (Pre : World → Prop) : Prop := ∀ (m : ManV) (vc vi vs vg : Value) (w : World), ManAt w m vc vi vs vg → ManMay m → Pre w →
  Calls Tryz.prog 11 #[manVal m vc vi vs vg] w fun e w' => Keep w w' ∧ ∃ u, e = .returned u ∧ OErr w' u (manW m)
theorem manPW_ok {s : ByteArray} {m : ManV} (h : manL s.data.toList = .ok m) : manPW s = okW := by unfold manPW; rw [h]
theorem manPW_err {s : ByteArray} {x : WrV} (h : manL s.data.toList = .error x) : manPW s = x := by unfold manPW; rw [h]
theorem kMan_may : ManMay kMan := by
  refine ⟨by decide, by decide, by decide, by decide, ?_, ?_, ?_, ?_, by decide⟩ <;> decide
end Go.Proofs.YteddflbidafebaaGreatDoor
