/-
  DERIVED. GIVEN WITH THE SEED: THE CARDS: each row of YtbmjnfnekmeegaaGreatDoorRows.lean that lists a variable, with what it lists TIED to the program's text (the seventh form; the later family's looks); each row that meets fmt, with fmt's text TOLD by the authors' own Lean function (tested against real Go, not proved from fmt's source: count such statements apart). THE CARD IS WHAT COUNTS. Prove the row's statement (the work); the ties are given (YtbmjnfnekmeegaaGreatDoorTie.lean); close each card by the builder's one call (the guide's Derived/Test/ToyasCard.lean, 'card_holds'). Laid BY PROGRAM, IN A SANDBOX (cutbox-door.mjs). By AI agents, Wed Nov 11 2026. No macro, syntax, notation, axiom, sorry.
-/
import Derived.Test.YtbmjnfnekmeegaaGreatDoorRows
import GoSem.ClaimSeven
namespace Go.Proofs.YtbmjnfnekmeegaaGreatDoor
namespace Rows

/-- THE TIED CARD OF 'hasplaw19.LinkAny'. -/
def linkAnyCard : Claim7 := { stood := { row := linkAnyRow, standIns := [], harness := (true, "b141779a9377184091a3cdcdfbe3404cad09d66123325c18abf1d9292e83cfce"), looks := true }, kinds := [], alts := [], laidByText := true, laidKinds := [.handle], laidTests := true, laidLooks := .later }
def LinkAnyCardSaid : Prop := Claim7.holds Tryz.pinned (.plain (OpenSpec.ofChange linkAnySpec)) linkAnyCard

/-- THE TIED CARD OF 'hasplaw19.LinkTurned'. -/
def linkTurnedCard : Claim7 := { stood := { row := linkTurnedRow, standIns := [], harness := (true, "b141779a9377184091a3cdcdfbe3404cad09d66123325c18abf1d9292e83cfce"), looks := true }, kinds := [], alts := [], laidByText := true, laidKinds := [.handle], laidTests := true, laidLooks := .later }
def LinkTurnedCardSaid : Prop := Claim7.holds Tryz.pinned (.plain (OpenSpec.ofChange linkTurnedSpec)) linkTurnedCard

/-- THE TIED CARD OF 'hasplaw19.LinkRoom'. -/
def linkRoomCard : Claim7 := { stood := { row := linkRoomRow, standIns := [], harness := (true, "b141779a9377184091a3cdcdfbe3404cad09d66123325c18abf1d9292e83cfce"), looks := true }, kinds := [], alts := [], laidByText := true, laidKinds := [.handle], laidTests := true, laidLooks := .later }
def LinkRoomCardSaid : Prop := Claim7.holds Tryz.pinned (.plain (OpenSpec.ofChange linkRoomSpec)) linkRoomCard

/-- THE SECOND FORM's CARD OF 'hasplaw19.LinkAny'. -/
def linkAnyUptoCard : Claim7 := { stood := { row := linkAnyUptoRow, standIns := [], harness := (true, "b141779a9377184091a3cdcdfbe3404cad09d66123325c18abf1d9292e83cfce"), looks := true }, kinds := [], alts := [], laidByText := true, laidKinds := [.handle], laidTests := true, laidLooks := .later }
def LinkAnyUptoCardSaid : Prop := Claim7.holds Tryz.pinned (.plain (OpenSpec.upto linkAnySpec)) linkAnyUptoCard

/-- THE SECOND FORM's CARD OF 'hasplaw19.LinkTurned'. -/
def linkTurnedUptoCard : Claim7 := { stood := { row := linkTurnedUptoRow, standIns := [], harness := (true, "b141779a9377184091a3cdcdfbe3404cad09d66123325c18abf1d9292e83cfce"), looks := true }, kinds := [], alts := [], laidByText := true, laidKinds := [.handle], laidTests := true, laidLooks := .later }
def LinkTurnedUptoCardSaid : Prop := Claim7.holds Tryz.pinned (.plain (OpenSpec.upto linkTurnedSpec)) linkTurnedUptoCard

/-- THE SECOND FORM's CARD OF 'hasplaw19.LinkRoom'. -/
def linkRoomUptoCard : Claim7 := { stood := { row := linkRoomUptoRow, standIns := [], harness := (true, "b141779a9377184091a3cdcdfbe3404cad09d66123325c18abf1d9292e83cfce"), looks := true }, kinds := [], alts := [], laidByText := true, laidKinds := [.handle], laidTests := true, laidLooks := .later }
def LinkRoomUptoCardSaid : Prop := Claim7.holds Tryz.pinned (.plain (OpenSpec.upto linkRoomSpec)) linkRoomUptoCard
end Rows
end Go.Proofs.YtbmjnfnekmeegaaGreatDoor
