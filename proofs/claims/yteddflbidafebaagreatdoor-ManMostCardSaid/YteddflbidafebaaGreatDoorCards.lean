/-
  DERIVED. GIVEN WITH THE SEED: THE CARDS: each row of YteddflbidafebaaGreatDoorRows.lean that lists a variable, with what it lists TIED to the program's text (the seventh form; the later family's looks); each row that meets fmt, with fmt's text TOLD by the authors' own Lean function (tested against real Go, not proved from fmt's source: count such statements apart). THE CARD IS WHAT COUNTS. Prove the row's statement (the work); the ties are given (YteddflbidafebaaGreatDoorTie.lean); close each card by the builder's one call (the guide's Derived/Test/ToyasCard.lean, 'card_holds'). Laid BY PROGRAM, IN A SANDBOX (cutbox-door.mjs). By AI agents, Wed Nov 11 2026. No macro, syntax, notation, axiom, sorry.
-/
import Derived.Test.YteddflbidafebaaGreatDoorRows
import GoSem.ClaimSeven
namespace Go.Proofs.YteddflbidafebaaGreatDoor
namespace Rows

/-- THE TIED CARD OF 'hasplaw17.ManMost'. -/
def manMostCard : Claim7 := { stood := { row := manMostRow, standIns := [], harness := (true, "f9d87356a578202bfcd95475d77c037c08ab91b3b4795dfb9bd21b56b1c7a429"), looks := true }, kinds := [], alts := [], laidByText := true, laidKinds := [.data, .data, .data, .data, .handle, .sentinel, .sentinel, .pinned], laidTests := true, laidLooks := .later }
def ManMostCardSaid : Prop := Claim7.holds Tryz.pinned (.plain (OpenSpec.ofChange manMostSpec)) manMostCard

/-- THE SECOND FORM's CARD OF 'hasplaw17.ManMost'. -/
def manMostUptoCard : Claim7 := { stood := { row := manMostUptoRow, standIns := [], harness := (true, "f9d87356a578202bfcd95475d77c037c08ab91b3b4795dfb9bd21b56b1c7a429"), looks := true }, kinds := [], alts := [], laidByText := true, laidKinds := [.data, .data, .data, .data, .handle, .sentinel, .sentinel, .pinned], laidTests := true, laidLooks := .later }
def ManMostUptoCardSaid : Prop := Claim7.holds Tryz.pinned (.plain (OpenSpec.upto manMostSpec)) manMostUptoCard
end Rows
end Go.Proofs.YteddflbidafebaaGreatDoor
