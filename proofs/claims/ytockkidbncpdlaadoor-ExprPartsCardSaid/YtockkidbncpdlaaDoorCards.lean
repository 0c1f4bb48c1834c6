/-
  DERIVED. GIVEN WITH THE SEED: THE CARDS: each row of YtockkidbncpdlaaDoorRows.lean that lists a variable, with what it lists TIED to the program's text (the seventh form; the later family's looks); each row that meets fmt, with fmt's text TOLD by the authors' own Lean function (tested against real Go, not proved from fmt's source: count such statements apart). THE CARD IS WHAT COUNTS. Prove the row's statement (the work); the ties are given (YtockkidbncpdlaaDoorTie.lean); close each card by the builder's one call (the guide's Derived/Test/ToyasCard.lean, 'card_holds'). Laid BY PROGRAM, IN A SANDBOX (cutbox-door.mjs). By AI agents, Wed Nov 11 2026. No macro, syntax, notation, axiom, sorry.
-/
import Derived.Test.YtockkidbncpdlaaDoorRows
import GoSem.ClaimSeven
namespace Go.Proofs.YtockkidbncpdlaaDoor
namespace Rows

/-- THE TIED CARD OF 'hasplaw13.ExprParts'. -/
def exprPartsCard : Claim7 := { stood := { row := exprPartsRow, standIns := [], harness := (true, "acd3b623cafa544fee69295c9bad02c7fee01b3ca6b43a8c64cc2c4e78292c9a"), looks := true }, kinds := [], alts := [], laidByText := true, laidKinds := [.data, .data, .data, .handle, .sentinel, .sentinel], laidTests := true, laidLooks := .later }
def ExprPartsCardSaid : Prop := Claim7.holds Tryd.pinned (.plain (OpenSpec.ofChange exprPartsSpec)) exprPartsCard

/-- THE TIED CARD OF 'hasplaw13.ExprWeak'. -/
def exprWeakCard : Claim7 := { stood := { row := exprWeakRow, standIns := [], harness := (true, "acd3b623cafa544fee69295c9bad02c7fee01b3ca6b43a8c64cc2c4e78292c9a"), looks := true }, kinds := [], alts := [], laidByText := true, laidKinds := [.data, .data, .data, .handle, .sentinel, .sentinel], laidTests := true, laidLooks := .later }
def ExprWeakCardSaid : Prop := Claim7.holds Tryd.pinned (.plain (OpenSpec.ofChange exprWeakSpec)) exprWeakCard

/-- THE TIED CARD OF 'hasplaw13.ExprNames'. -/
def exprNamesCard : Claim7 := { stood := { row := exprNamesRow, standIns := [], harness := (true, "acd3b623cafa544fee69295c9bad02c7fee01b3ca6b43a8c64cc2c4e78292c9a"), looks := true }, kinds := [], alts := [], laidByText := true, laidKinds := [.data, .data, .data, .handle, .sentinel, .sentinel], laidTests := true, laidLooks := .later }
def ExprNamesCardSaid : Prop := Claim7.holds Tryd.pinned (.plain (OpenSpec.ofChange exprNamesSpec)) exprNamesCard

/-- THE SECOND FORM's CARD OF 'hasplaw13.ExprParts'. -/
def exprPartsUptoCard : Claim7 := { stood := { row := exprPartsUptoRow, standIns := [], harness := (true, "acd3b623cafa544fee69295c9bad02c7fee01b3ca6b43a8c64cc2c4e78292c9a"), looks := true }, kinds := [], alts := [], laidByText := true, laidKinds := [.data, .data, .data, .handle, .sentinel, .sentinel], laidTests := true, laidLooks := .later }
def ExprPartsUptoCardSaid : Prop := Claim7.holds Tryd.pinned (.plain (OpenSpec.upto exprPartsSpec)) exprPartsUptoCard

/-- THE SECOND FORM's CARD OF 'hasplaw13.ExprWeak'. -/
def exprWeakUptoCard : Claim7 := { stood := { row := exprWeakUptoRow, standIns := [], harness := (true, "acd3b623cafa544fee69295c9bad02c7fee01b3ca6b43a8c64cc2c4e78292c9a"), looks := true }, kinds := [], alts := [], laidByText := true, laidKinds := [.data, .data, .data, .handle, .sentinel, .sentinel], laidTests := true, laidLooks := .later }
def ExprWeakUptoCardSaid : Prop := Claim7.holds Tryd.pinned (.plain (OpenSpec.upto exprWeakSpec)) exprWeakUptoCard

/-- THE SECOND FORM's CARD OF 'hasplaw13.ExprNames'. -/
def exprNamesUptoCard : Claim7 := { stood := { row := exprNamesUptoRow, standIns := [], harness := (true, "acd3b623cafa544fee69295c9bad02c7fee01b3ca6b43a8c64cc2c4e78292c9a"), looks := true }, kinds := [], alts := [], laidByText := true, laidKinds := [.data, .data, .data, .handle, .sentinel, .sentinel], laidTests := true, laidLooks := .later }
def ExprNamesUptoCardSaid : Prop := Claim7.holds Tryd.pinned (.plain (OpenSpec.upto exprNamesSpec)) exprNamesUptoCard
end Rows
end Go.Proofs.YtockkidbncpdlaaDoor
