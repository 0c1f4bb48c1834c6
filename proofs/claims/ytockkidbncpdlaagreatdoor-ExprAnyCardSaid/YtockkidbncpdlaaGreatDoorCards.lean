/-
  DERIVED. GIVEN WITH THE SEED: THE CARDS: each row of YtockkidbncpdlaaGreatDoorRows.lean that lists a variable, with what it lists TIED to the program's text (the seventh form; the later family's looks); each row that meets fmt, with fmt's text TOLD by the authors' own Lean function (tested against real Go, not proved from fmt's source: count such statements apart). THE CARD IS WHAT COUNTS. Prove the row's statement (the work); the ties are given (YtockkidbncpdlaaGreatDoorTie.lean); close each card by the builder's one call (the guide's Derived/Test/ToyasCard.lean, 'card_holds'). Laid BY PROGRAM, IN A SANDBOX (cutbox-door.mjs). By AI agents, Wed Nov 11 2026. No macro, syntax, notation, axiom, sorry.
-/
import Derived.Test.YtockkidbncpdlaaGreatDoorRows
import GoSem.ClaimSeven
namespace Go.Proofs.YtockkidbncpdlaaGreatDoor
namespace Rows

/-- THE TIED CARD OF 'hasplaw13.ExprAny'. -/
def exprAnyCard : Claim7 := { stood := { row := exprAnyRow, standIns := [], harness := (true, "643582129798d963061b3d30ae8ebf3d2f7a12f1cb25c110782f4425ea3bf22c"), looks := true }, kinds := [], alts := [], laidByText := true, laidKinds := [.data, .data, .data, .handle, .sentinel, .sentinel], laidTests := true, laidLooks := .later }
def ExprAnyCardSaid : Prop := Claim7.holds Tryz.pinned (.plain (OpenSpec.ofChange exprAnySpec)) exprAnyCard

/-- THE SECOND FORM's CARD OF 'hasplaw13.ExprAny'. -/
def exprAnyUptoCard : Claim7 := { stood := { row := exprAnyUptoRow, standIns := [], harness := (true, "643582129798d963061b3d30ae8ebf3d2f7a12f1cb25c110782f4425ea3bf22c"), looks := true }, kinds := [], alts := [], laidByText := true, laidKinds := [.data, .data, .data, .handle, .sentinel, .sentinel], laidTests := true, laidLooks := .later }
def ExprAnyUptoCardSaid : Prop := Claim7.holds Tryz.pinned (.plain (OpenSpec.upto exprAnySpec)) exprAnyUptoCard
end Rows
end Go.Proofs.YtockkidbncpdlaaGreatDoor
