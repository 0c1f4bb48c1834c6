/-
  DERIVED. GIVEN WITH THE SEED: THE CARDS: each row of YtahnbeoacdnhjaaDoorRows.lean that lists a variable, with what it lists TIED to the program's text (the seventh form; the later family's looks); each row that meets fmt, with fmt's text TOLD by the authors' own Lean function (tested against real Go, not proved from fmt's source: count such statements apart). THE CARD IS WHAT COUNTS. Prove the row's statement (the work); the ties are given (YtahnbeoacdnhjaaDoorTie.lean); close each card by the builder's one call (the guide's Derived/Test/ToyasCard.lean, 'card_holds'). Laid BY PROGRAM, IN A SANDBOX (cutbox-door.mjs). By AI agents, Wed Nov 11 2026. No macro, syntax, notation, axiom, sorry.
-/
import Derived.Test.YtahnbeoacdnhjaaDoorRows
import GoSem.ClaimSeven
namespace Go.Proofs.YtahnbeoacdnhjaaDoor
namespace Rows

/-- THE TIED CARD OF 'hasplaw15.ObjCut'. -/
def objCutCard : Claim7 := { stood := { row := objCutRow, standIns := [], harness := (true, "5669a22954a48daa1b8899b19812080669fea8028e895df1bcd89d5995285cb0"), looks := true }, kinds := [], alts := [], laidByText := true, laidKinds := [.handle], laidTests := true, laidLooks := .later }
def ObjCutCardSaid : Prop := Claim7.holds Tryd.pinned (.plain (OpenSpec.ofChange objCutSpec)) objCutCard

/-- THE SECOND FORM's CARD OF 'hasplaw15.ObjCut'. -/
def objCutUptoCard : Claim7 := { stood := { row := objCutUptoRow, standIns := [], harness := (true, "5669a22954a48daa1b8899b19812080669fea8028e895df1bcd89d5995285cb0"), looks := true }, kinds := [], alts := [], laidByText := true, laidKinds := [.handle], laidTests := true, laidLooks := .later }
def ObjCutUptoCardSaid : Prop := Claim7.holds Tryd.pinned (.plain (OpenSpec.upto objCutSpec)) objCutUptoCard
end Rows
end Go.Proofs.YtahnbeoacdnhjaaDoor
