/-
  DERIVED. GIVEN WITH THE SEED: THE CARDS: each row of YtmcbeclkocjlkaaGreatDoorRows.lean that lists a variable, with what it lists TIED to the program's text (the seventh form; the later family's looks); each row that meets fmt, with fmt's text TOLD by the authors' own Lean function (tested against real Go, not proved from fmt's source: count such statements apart). THE CARD IS WHAT COUNTS. Prove the row's statement (the work); the ties are given (YtmcbeclkocjlkaaGreatDoorTie.lean); close each card by the builder's one call (the guide's Derived/Test/ToyasCard.lean, 'card_holds'). Laid BY PROGRAM, IN A SANDBOX (cutbox-door.mjs). By AI agents, Wed Nov 11 2026. No macro, syntax, notation, axiom, sorry.
-/
import Derived.Test.YtmcbeclkocjlkaaGreatDoorRows
import GoSem.ClaimSeven
namespace Go.Proofs.YtmcbeclkocjlkaaGreatDoor
namespace Rows

/-- THE TIED CARD OF 'hasplaw18.ImgCut'. -/
def imgCutCard : Claim7 := { stood := { row := imgCutRow, standIns := [], harness := (true, "a0cde1381062bf8868d58b51c1ec87fdc77889cacb497351ba942309d33db73a"), looks := true }, kinds := [], alts := [], laidByText := true, laidKinds := [.handle], laidTests := true, laidLooks := .later }
def ImgCutCardSaid : Prop := Claim7.holds Tryz.pinned (.plain (OpenSpec.ofChange imgCutSpec)) imgCutCard

/-- THE SECOND FORM's CARD OF 'hasplaw18.ImgCut'. -/
def imgCutUptoCard : Claim7 := { stood := { row := imgCutUptoRow, standIns := [], harness := (true, "a0cde1381062bf8868d58b51c1ec87fdc77889cacb497351ba942309d33db73a"), looks := true }, kinds := [], alts := [], laidByText := true, laidKinds := [.handle], laidTests := true, laidLooks := .later }
def ImgCutUptoCardSaid : Prop := Claim7.holds Tryz.pinned (.plain (OpenSpec.upto imgCutSpec)) imgCutUptoCard
end Rows
end Go.Proofs.YtmcbeclkocjlkaaGreatDoor
