/-
  DERIVED. GIVEN WITH THE SEED: THE CARDS: each row of YtnnelghngekbpaaDoorRows.lean that lists a variable, with what it lists TIED to the program's text (the seventh form; the later family's looks); each row that meets fmt, with fmt's text TOLD by the authors' own Lean function (tested against real Go, not proved from fmt's source: count such statements apart). THE CARD IS WHAT COUNTS. Prove the row's statement (the work); the ties are given (YtnnelghngekbpaaDoorTie.lean); close each card by the builder's one call (the guide's Derived/Test/ToyasCard.lean, 'card_holds'). Laid BY PROGRAM, IN A SANDBOX (cutbox-door.mjs). By AI agents, Wed Nov 11 2026. No macro, syntax, notation, axiom, sorry.
-/
import Derived.Test.YtnnelghngekbpaaDoorRows
import GoSem.ClaimSeven
namespace Go.Proofs.YtnnelghngekbpaaDoor
namespace Rows

/-- THE TIED CARD OF 'hasplaw4.MemPlays'. -/
def memPlaysCard : Claim7 := { stood := { row := memPlaysRow, standIns := [], harness := (true, "eee12be65ecd173f2eb2082cd462913b982c34dfbedaf4a264326160ddb403bc"), looks := true }, kinds := [], alts := [], laidByText := true, laidKinds := [.handle], laidTests := true, laidLooks := .later }
def MemPlaysCardSaid : Prop := Claim7.holds Tryd.pinned (.plain (OpenSpec.ofChange memPlaysSpec)) memPlaysCard

/-- THE TIED CARD OF 'hasplaw4.MemTags'. -/
def memTagsCard : Claim7 := { stood := { row := memTagsRow, standIns := [], harness := (true, "eee12be65ecd173f2eb2082cd462913b982c34dfbedaf4a264326160ddb403bc"), looks := true }, kinds := [], alts := [], laidByText := true, laidKinds := [.handle], laidTests := true, laidLooks := .later }
def MemTagsCardSaid : Prop := Claim7.holds Tryd.pinned (.plain (OpenSpec.ofChange memTagsSpec)) memTagsCard

/-- THE TIED CARD OF 'hasplaw4.MemApart'. -/
def memApartCard : Claim7 := { stood := { row := memApartRow, standIns := [], harness := (true, "eee12be65ecd173f2eb2082cd462913b982c34dfbedaf4a264326160ddb403bc"), looks := true }, kinds := [], alts := [], laidByText := true, laidKinds := [.handle], laidTests := true, laidLooks := .later }
def MemApartCardSaid : Prop := Claim7.holds Tryd.pinned (.plain (OpenSpec.ofChange memApartSpec)) memApartCard

/-- THE TIED CARD OF 'hasplaw4.MemZero'. -/
def memZeroCard : Claim7 := { stood := { row := memZeroRow, standIns := [], harness := (true, "eee12be65ecd173f2eb2082cd462913b982c34dfbedaf4a264326160ddb403bc"), looks := true }, kinds := [], alts := [], laidByText := true, laidKinds := [.handle], laidTests := true, laidLooks := .later }
def MemZeroCardSaid : Prop := Claim7.holds Tryd.pinned (.plain (OpenSpec.ofChange memZeroSpec)) memZeroCard

/-- THE SECOND FORM's CARD OF 'hasplaw4.MemPlays'. -/
def memPlaysUptoCard : Claim7 := { stood := { row := memPlaysUptoRow, standIns := [], harness := (true, "eee12be65ecd173f2eb2082cd462913b982c34dfbedaf4a264326160ddb403bc"), looks := true }, kinds := [], alts := [], laidByText := true, laidKinds := [.handle], laidTests := true, laidLooks := .later }
def MemPlaysUptoCardSaid : Prop := Claim7.holds Tryd.pinned (.plain (OpenSpec.upto memPlaysSpec)) memPlaysUptoCard

/-- THE SECOND FORM's CARD OF 'hasplaw4.MemTags'. -/
def memTagsUptoCard : Claim7 := { stood := { row := memTagsUptoRow, standIns := [], harness := (true, "eee12be65ecd173f2eb2082cd462913b982c34dfbedaf4a264326160ddb403bc"), looks := true }, kinds := [], alts := [], laidByText := true, laidKinds := [.handle], laidTests := true, laidLooks := .later }
def MemTagsUptoCardSaid : Prop := Claim7.holds Tryd.pinned (.plain (OpenSpec.upto memTagsSpec)) memTagsUptoCard

/-- THE SECOND FORM's CARD OF 'hasplaw4.MemApart'. -/
def memApartUptoCard : Claim7 := { stood := { row := memApartUptoRow, standIns := [], harness := (true, "eee12be65ecd173f2eb2082cd462913b982c34dfbedaf4a264326160ddb403bc"), looks := true }, kinds := [], alts := [], laidByText := true, laidKinds := [.handle], laidTests := true, laidLooks := .later }
def MemApartUptoCardSaid : Prop := Claim7.holds Tryd.pinned (.plain (OpenSpec.upto memApartSpec)) memApartUptoCard

/-- THE SECOND FORM's CARD OF 'hasplaw4.MemZero'. -/
def memZeroUptoCard : Claim7 := { stood := { row := memZeroUptoRow, standIns := [], harness := (true, "eee12be65ecd173f2eb2082cd462913b982c34dfbedaf4a264326160ddb403bc"), looks := true }, kinds := [], alts := [], laidByText := true, laidKinds := [.handle], laidTests := true, laidLooks := .later }
def MemZeroUptoCardSaid : Prop := Claim7.holds Tryd.pinned (.plain (OpenSpec.upto memZeroSpec)) memZeroUptoCard
end Rows
end Go.Proofs.YtnnelghngekbpaaDoor
