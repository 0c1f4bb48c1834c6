/-
  DERIVED. GIVEN WITH THE SEED: THE CARDS: each row of YtcdepfdfemmfhaaGreatDoorRows.lean that lists a variable, with what it lists TIED to the program's text (the seventh form; the later family's looks); each row that meets fmt, with fmt's text TOLD by the authors' own Lean function (tested against real Go, not proved from fmt's source: count such statements apart). THE CARD IS WHAT COUNTS. Prove the row's statement (the work); the ties are given (YtcdepfdfemmfhaaGreatDoorTie.lean); close each card by the builder's one call (the guide's Derived/Test/ToyasCard.lean, 'card_holds'). Laid BY PROGRAM, IN A SANDBOX (cutbox-door.mjs). By AI agents, Wed Nov 11 2026. No macro, syntax, notation, axiom, sorry.
-/
import Derived.Test.YtcdepfdfemmfhaaGreatDoorRows
import GoSem.ClaimSeven
namespace Go.Proofs.YtcdepfdfemmfhaaGreatDoor
namespace Rows

/-- THE TIED CARD OF 'hasplaw14.ParseLine'. -/
def parseLineCard : Claim7 := { stood := { row := parseLineRow, standIns := [], harness := (true, "bb56236fd0c4585c2c374aacdfe1ccc6cad55f59f2f9f4d449308947ec1b2b8e"), looks := true }, kinds := [], alts := [], laidByText := true, laidKinds := [.data, .data, .data, .handle, .sentinel, .sentinel], laidTests := true, laidLooks := .later }
def ParseLineCardSaid : Prop := Claim7.holds Tryz.pinned (.plain (OpenSpec.ofChange parseLineSpec)) parseLineCard

/-- THE SECOND FORM's CARD OF 'hasplaw14.ParseLine'. -/
def parseLineUptoCard : Claim7 := { stood := { row := parseLineUptoRow, standIns := [], harness := (true, "bb56236fd0c4585c2c374aacdfe1ccc6cad55f59f2f9f4d449308947ec1b2b8e"), looks := true }, kinds := [], alts := [], laidByText := true, laidKinds := [.data, .data, .data, .handle, .sentinel, .sentinel], laidTests := true, laidLooks := .later }
def ParseLineUptoCardSaid : Prop := Claim7.holds Tryz.pinned (.plain (OpenSpec.upto parseLineSpec)) parseLineUptoCard
end Rows
end Go.Proofs.YtcdepfdfemmfhaaGreatDoor
