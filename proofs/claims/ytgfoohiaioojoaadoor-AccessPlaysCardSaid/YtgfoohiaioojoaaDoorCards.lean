/-
  DERIVED. GIVEN WITH THE SEED: THE CARDS: each row of YtgfoohiaioojoaaDoorRows.lean that lists a variable, with what it lists TIED to the program's text (the seventh form; the later family's looks); each row that meets fmt, with fmt's text TOLD by the authors' own Lean function (tested against real Go, not proved from fmt's source: count such statements apart). THE CARD IS WHAT COUNTS. Prove the row's statement (the work); the ties are given (YtgfoohiaioojoaaDoorTie.lean); close each card by the builder's one call (the guide's Derived/Test/ToyasCard.lean, 'card_holds'). Laid BY PROGRAM, IN A SANDBOX (cutbox-door.mjs). By AI agents, Wed Nov 11 2026. No macro, syntax, notation, axiom, sorry.
-/
import Derived.Test.YtgfoohiaioojoaaDoorRows
import GoSem.ClaimSeven
namespace Go.Proofs.YtgfoohiaioojoaaDoor
namespace Rows

/-- THE TIED CARD OF 'hasplaw5.AccessCheck'. -/
def accessCheckCard : Claim7 := { stood := { row := accessCheckRow, standIns := [], harness := (true, "7b71a1e570feac7e862b4e15c65a52f0b9c2d7b705727e7e5bc5cee04f30f901"), looks := true }, kinds := [], alts := [], laidByText := true, laidKinds := [.handle], laidTests := true, laidLooks := .later }
def AccessCheckCardSaid : Prop := Claim7.holds Tryd.pinned (.plain (OpenSpec.ofChange accessCheckSpec)) accessCheckCard

/-- THE TIED CARD OF 'hasplaw5.AccessPlays'. -/
def accessPlaysCard : Claim7 := { stood := { row := accessPlaysRow, standIns := [], harness := (true, "7b71a1e570feac7e862b4e15c65a52f0b9c2d7b705727e7e5bc5cee04f30f901"), looks := true }, kinds := [], alts := [], laidByText := true, laidKinds := [.handle], laidTests := true, laidLooks := .later }
def AccessPlaysCardSaid : Prop := Claim7.holds Tryd.pinned (.plain (OpenSpec.ofChange accessPlaysSpec)) accessPlaysCard

/-- THE TIED CARD OF 'hasplaw5.AccessBounds'. -/
def accessBoundsCard : Claim7 := { stood := { row := accessBoundsRow, standIns := [], harness := (true, "7b71a1e570feac7e862b4e15c65a52f0b9c2d7b705727e7e5bc5cee04f30f901"), looks := true }, kinds := [], alts := [], laidByText := true, laidKinds := [.handle], laidTests := true, laidLooks := .later }
def AccessBoundsCardSaid : Prop := Claim7.holds Tryd.pinned (.plain (OpenSpec.ofChange accessBoundsSpec)) accessBoundsCard

/-- THE TIED CARD OF 'hasplaw5.AccessWord'. -/
def accessWordCard : Claim7 := { stood := { row := accessWordRow, standIns := [], harness := (true, "7b71a1e570feac7e862b4e15c65a52f0b9c2d7b705727e7e5bc5cee04f30f901"), looks := true }, kinds := [], alts := [], laidByText := true, laidKinds := [.handle], laidTests := true, laidLooks := .later }
def AccessWordCardSaid : Prop := Claim7.holds Tryd.pinned (.plain (OpenSpec.ofChange accessWordSpec)) accessWordCard

/-- THE TIED CARD OF 'hasplaw5.AccessKeeps'. -/
def accessKeepsCard : Claim7 := { stood := { row := accessKeepsRow, standIns := [], harness := (true, "7b71a1e570feac7e862b4e15c65a52f0b9c2d7b705727e7e5bc5cee04f30f901"), looks := true }, kinds := [], alts := [], laidByText := true, laidKinds := [.handle], laidTests := true, laidLooks := .later }
def AccessKeepsCardSaid : Prop := Claim7.holds Tryd.pinned (.plain (OpenSpec.ofChange accessKeepsSpec)) accessKeepsCard

/-- THE TIED CARD OF 'hasplaw5.AccessPart'. -/
def accessPartCard : Claim7 := { stood := { row := accessPartRow, standIns := [], harness := (true, "7b71a1e570feac7e862b4e15c65a52f0b9c2d7b705727e7e5bc5cee04f30f901"), looks := true }, kinds := [], alts := [], laidByText := true, laidKinds := [.handle], laidTests := true, laidLooks := .later }
def AccessPartCardSaid : Prop := Claim7.holds Tryd.pinned (.plain (OpenSpec.ofChange accessPartSpec)) accessPartCard

/-- THE SECOND FORM's CARD OF 'hasplaw5.AccessCheck'. -/
def accessCheckUptoCard : Claim7 := { stood := { row := accessCheckUptoRow, standIns := [], harness := (true, "7b71a1e570feac7e862b4e15c65a52f0b9c2d7b705727e7e5bc5cee04f30f901"), looks := true }, kinds := [], alts := [], laidByText := true, laidKinds := [.handle], laidTests := true, laidLooks := .later }
def AccessCheckUptoCardSaid : Prop := Claim7.holds Tryd.pinned (.plain (OpenSpec.upto accessCheckSpec)) accessCheckUptoCard

/-- THE SECOND FORM's CARD OF 'hasplaw5.AccessPlays'. -/
def accessPlaysUptoCard : Claim7 := { stood := { row := accessPlaysUptoRow, standIns := [], harness := (true, "7b71a1e570feac7e862b4e15c65a52f0b9c2d7b705727e7e5bc5cee04f30f901"), looks := true }, kinds := [], alts := [], laidByText := true, laidKinds := [.handle], laidTests := true, laidLooks := .later }
def AccessPlaysUptoCardSaid : Prop := Claim7.holds Tryd.pinned (.plain (OpenSpec.upto accessPlaysSpec)) accessPlaysUptoCard

/-- THE SECOND FORM's CARD OF 'hasplaw5.AccessBounds'. -/
def accessBoundsUptoCard : Claim7 := { stood := { row := accessBoundsUptoRow, standIns := [], harness := (true, "7b71a1e570feac7e862b4e15c65a52f0b9c2d7b705727e7e5bc5cee04f30f901"), looks := true }, kinds := [], alts := [], laidByText := true, laidKinds := [.handle], laidTests := true, laidLooks := .later }
def AccessBoundsUptoCardSaid : Prop := Claim7.holds Tryd.pinned (.plain (OpenSpec.upto accessBoundsSpec)) accessBoundsUptoCard

/-- THE SECOND FORM's CARD OF 'hasplaw5.AccessWord'. -/
def accessWordUptoCard : Claim7 := { stood := { row := accessWordUptoRow, standIns := [], harness := (true, "7b71a1e570feac7e862b4e15c65a52f0b9c2d7b705727e7e5bc5cee04f30f901"), looks := true }, kinds := [], alts := [], laidByText := true, laidKinds := [.handle], laidTests := true, laidLooks := .later }
def AccessWordUptoCardSaid : Prop := Claim7.holds Tryd.pinned (.plain (OpenSpec.upto accessWordSpec)) accessWordUptoCard

/-- THE SECOND FORM's CARD OF 'hasplaw5.AccessKeeps'. -/
def accessKeepsUptoCard : Claim7 := { stood := { row := accessKeepsUptoRow, standIns := [], harness := (true, "7b71a1e570feac7e862b4e15c65a52f0b9c2d7b705727e7e5bc5cee04f30f901"), looks := true }, kinds := [], alts := [], laidByText := true, laidKinds := [.handle], laidTests := true, laidLooks := .later }
def AccessKeepsUptoCardSaid : Prop := Claim7.holds Tryd.pinned (.plain (OpenSpec.upto accessKeepsSpec)) accessKeepsUptoCard

/-- THE SECOND FORM's CARD OF 'hasplaw5.AccessPart'. -/
def accessPartUptoCard : Claim7 := { stood := { row := accessPartUptoRow, standIns := [], harness := (true, "7b71a1e570feac7e862b4e15c65a52f0b9c2d7b705727e7e5bc5cee04f30f901"), looks := true }, kinds := [], alts := [], laidByText := true, laidKinds := [.handle], laidTests := true, laidLooks := .later }
def AccessPartUptoCardSaid : Prop := Claim7.holds Tryd.pinned (.plain (OpenSpec.upto accessPartSpec)) accessPartUptoCard
end Rows
end Go.Proofs.YtgfoohiaioojoaaDoor
