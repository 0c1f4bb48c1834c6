/- The program's line, heads. -/
import Derived.Test.YteddflbidafebaaGreatDoorManPRd
import Derived.Test.YteddflbidafebaaGreatDoorGObjF
namespace Go.Proofs.YteddflbidafebaaGreatDoor
set_option linter.unusedVariables false
set_option linter.unusedSimpArgs false
open Go.RowKit
/-- Of no great size. -/
structure ManBig (m : ManV) : Prop where
  comps : m.comps.length ≤ 100000
  imps : m.imps.length ≤ 100000
  shrs : m.shrs.length ≤ 100000
  grns : m.grns.length ≤ 100000
theorem mcells_box {W : World} {b : Nat} {vs : Array Value} {xs : List Value} (B : Box W b vs) (e : vs.toList = xs) : ∀ (j : Nat) (u : Value), xs[j]? = some u → W.cell? ((⟨b, 0, none⟩ : Addr).add j) = some u := by
  intro j u hj
  rw [Addr.add_lit, Nat.zero_add, B.cells, ← Array.getElem?_toList, e]
  exact hj
theorem mrows : (Tryz.prog.info? 44).map (fun i => (i.zero, i.size, i.bytes)) = some (some (.agg #[.string ⟨#[]⟩, .int .u32 0]), 2, 24) := by kernel_rfl
theorem mrowsI : (Tryz.prog.info? 32).map (fun i => (i.zero, i.size, i.bytes)) = some (some (.agg #[.string ⟨#[]⟩, .string ⟨#[]⟩, .string ⟨#[]⟩]), 3, 48) := by kernel_rfl
theorem mrowsS : (Tryz.prog.info? 74).map (fun i => (i.zero, i.size, i.bytes)) = some (some (.agg #[.string ⟨#[]⟩, .int .u32 0]), 2, 24) := by kernel_rfl
theorem mrowsG : (Tryz.prog.info? 46).map (fun i => (i.zero, i.size, i.bytes)) = some (some (.agg #[.string ⟨#[]⟩, .string ⟨#[]⟩, .int .u16 0]), 3, 40) := by kernel_rfl
end Go.Proofs.YteddflbidafebaaGreatDoor
