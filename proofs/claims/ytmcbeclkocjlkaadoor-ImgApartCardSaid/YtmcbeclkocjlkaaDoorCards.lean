/-
  DERIVED. GIVEN WITH THE SEED: THE CARDS: each row of YtmcbeclkocjlkaaDoorRows.lean that lists a variable, with what it lists TIED to the program's text (the seventh form; the later family's looks); each row that meets fmt, with fmt's text TOLD by the authors' own Lean function (tested against real Go, not proved from fmt's source: count such statements apart). THE CARD IS WHAT COUNTS. Prove the row's statement (the work); the ties are given (YtmcbeclkocjlkaaDoorTie.lean); close each card by the builder's one call (the guide's Derived/Test/ToyasCard.lean, 'card_holds'). Laid BY PROGRAM, IN A SANDBOX (cutbox-door.mjs). By AI agents, Wed Nov 11 2026. No macro, syntax, notation, axiom, sorry.
-/
import Derived.Test.YtmcbeclkocjlkaaDoorRows
import GoSem.ClaimSeven
namespace Go.Proofs.YtmcbeclkocjlkaaDoor
namespace Rows

/-- THE TIED CARD OF 'hasplaw18.ImgApart'. -/
def imgApartCard : Claim7 := { stood := { row := imgApartRow, standIns := [], harness := (true, "28857699ab9fcb654577494fb9341e9e47f5db9f9b08f2c6ec05d997e219aa00"), looks := true }, kinds := [], alts := [], laidByText := true, laidKinds := [.handle], laidTests := true, laidLooks := .later }
def ImgApartCardSaid : Prop := Claim7.holds Tryd.pinned (.plain (OpenSpec.ofChange imgApartSpec)) imgApartCard

/-- THE SECOND FORM's CARD OF 'hasplaw18.ImgApart'. -/
def imgApartUptoCard : Claim7 := { stood := { row := imgApartUptoRow, standIns := [], harness := (true, "28857699ab9fcb654577494fb9341e9e47f5db9f9b08f2c6ec05d997e219aa00"), looks := true }, kinds := [], alts := [], laidByText := true, laidKinds := [.handle], laidTests := true, laidLooks := .later }
def ImgApartUptoCardSaid : Prop := Claim7.holds Tryd.pinned (.plain (OpenSpec.upto imgApartSpec)) imgApartUptoCard
end Rows
end Go.Proofs.YtmcbeclkocjlkaaDoor
