/-
  DERIVED. GIVEN WITH THE SEED: THE CARDS: each row of YtcmmdeenkfeofaaDoorRows.lean that lists a variable, with what it lists TIED to the program's text (the seventh form; the later family's looks); each row that meets fmt, with fmt's text TOLD by the authors' own Lean function (tested against real Go, not proved from fmt's source: count such statements apart). THE CARD IS WHAT COUNTS. Prove the row's statement (the work); the ties are given (YtcmmdeenkfeofaaDoorTie.lean); close each card by the builder's one call (the guide's Derived/Test/ToyasCard.lean, 'card_holds'). Laid BY PROGRAM, IN A SANDBOX (cutbox-door.mjs). By AI agents, Wed Nov 11 2026. No macro, syntax, notation, axiom, sorry.
-/
import Derived.Test.YtcmmdeenkfeofaaDoorRows
import GoSem.ClaimSeven
namespace Go.Proofs.YtcmmdeenkfeofaaDoor
namespace Rows

/-- THE TIED CARD OF 'hasplaw1.WordDo'. -/
def wordDoCard : Claim7 := { stood := { row := wordDoRow, standIns := [], harness := (true, "ec2d53a694bfef33b71c7f2f151a2f7ee22f880bc69971b28f7b9a85a78701eb"), looks := true }, kinds := [], alts := [], laidByText := true, laidKinds := [.data, .data, .data], laidTests := true, laidLooks := .later }
def WordDoCardSaid : Prop := Claim7.holds Tryd.pinned (.plain (OpenSpec.ofChange wordDoSpec)) wordDoCard

/-- THE TIED CARD OF 'hasplaw1.WordSigned'. -/
def wordSignedCard : Claim7 := { stood := { row := wordSignedRow, standIns := [], harness := (true, "ec2d53a694bfef33b71c7f2f151a2f7ee22f880bc69971b28f7b9a85a78701eb"), looks := true }, kinds := [], alts := [], laidByText := true, laidKinds := [.data, .data, .data], laidTests := true, laidLooks := .later }
def WordSignedCardSaid : Prop := Claim7.holds Tryd.pinned (.plain (OpenSpec.ofChange wordSignedSpec)) wordSignedCard

/-- THE TIED CARD OF 'hasplaw1.WordLaws'. -/
def wordLawsCard : Claim7 := { stood := { row := wordLawsRow, standIns := [], harness := (true, "ec2d53a694bfef33b71c7f2f151a2f7ee22f880bc69971b28f7b9a85a78701eb"), looks := true }, kinds := [], alts := [], laidByText := true, laidKinds := [.data, .data, .data], laidTests := true, laidLooks := .later }
def WordLawsCardSaid : Prop := Claim7.holds Tryd.pinned (.plain (OpenSpec.ofChange wordLawsSpec)) wordLawsCard

/-- THE TIED CARD OF 'hasplaw1.WordShifts'. -/
def wordShiftsCard : Claim7 := { stood := { row := wordShiftsRow, standIns := [], harness := (true, "ec2d53a694bfef33b71c7f2f151a2f7ee22f880bc69971b28f7b9a85a78701eb"), looks := true }, kinds := [], alts := [], laidByText := true, laidKinds := [.data, .data, .data], laidTests := true, laidLooks := .later }
def WordShiftsCardSaid : Prop := Claim7.holds Tryd.pinned (.plain (OpenSpec.ofChange wordShiftsSpec)) wordShiftsCard

/-- THE TIED CARD OF 'hasplaw1.WordOrder'. -/
def wordOrderCard : Claim7 := { stood := { row := wordOrderRow, standIns := [], harness := (true, "ec2d53a694bfef33b71c7f2f151a2f7ee22f880bc69971b28f7b9a85a78701eb"), looks := true }, kinds := [], alts := [], laidByText := true, laidKinds := [.data, .data, .data], laidTests := true, laidLooks := .later }
def WordOrderCardSaid : Prop := Claim7.holds Tryd.pinned (.plain (OpenSpec.ofChange wordOrderSpec)) wordOrderCard

/-- THE SECOND FORM's CARD OF 'hasplaw1.WordDo'. -/
def wordDoUptoCard : Claim7 := { stood := { row := wordDoUptoRow, standIns := [], harness := (true, "ec2d53a694bfef33b71c7f2f151a2f7ee22f880bc69971b28f7b9a85a78701eb"), looks := true }, kinds := [], alts := [], laidByText := true, laidKinds := [.data, .data, .data], laidTests := true, laidLooks := .later }
def WordDoUptoCardSaid : Prop := Claim7.holds Tryd.pinned (.plain (OpenSpec.upto wordDoSpec)) wordDoUptoCard

/-- THE SECOND FORM's CARD OF 'hasplaw1.WordSigned'. -/
def wordSignedUptoCard : Claim7 := { stood := { row := wordSignedUptoRow, standIns := [], harness := (true, "ec2d53a694bfef33b71c7f2f151a2f7ee22f880bc69971b28f7b9a85a78701eb"), looks := true }, kinds := [], alts := [], laidByText := true, laidKinds := [.data, .data, .data], laidTests := true, laidLooks := .later }
def WordSignedUptoCardSaid : Prop := Claim7.holds Tryd.pinned (.plain (OpenSpec.upto wordSignedSpec)) wordSignedUptoCard

/-- THE SECOND FORM's CARD OF 'hasplaw1.WordLaws'. -/
def wordLawsUptoCard : Claim7 := { stood := { row := wordLawsUptoRow, standIns := [], harness := (true, "ec2d53a694bfef33b71c7f2f151a2f7ee22f880bc69971b28f7b9a85a78701eb"), looks := true }, kinds := [], alts := [], laidByText := true, laidKinds := [.data, .data, .data], laidTests := true, laidLooks := .later }
def WordLawsUptoCardSaid : Prop := Claim7.holds Tryd.pinned (.plain (OpenSpec.upto wordLawsSpec)) wordLawsUptoCard

/-- THE SECOND FORM's CARD OF 'hasplaw1.WordShifts'. -/
def wordShiftsUptoCard : Claim7 := { stood := { row := wordShiftsUptoRow, standIns := [], harness := (true, "ec2d53a694bfef33b71c7f2f151a2f7ee22f880bc69971b28f7b9a85a78701eb"), looks := true }, kinds := [], alts := [], laidByText := true, laidKinds := [.data, .data, .data], laidTests := true, laidLooks := .later }
def WordShiftsUptoCardSaid : Prop := Claim7.holds Tryd.pinned (.plain (OpenSpec.upto wordShiftsSpec)) wordShiftsUptoCard

/-- THE SECOND FORM's CARD OF 'hasplaw1.WordOrder'. -/
def wordOrderUptoCard : Claim7 := { stood := { row := wordOrderUptoRow, standIns := [], harness := (true, "ec2d53a694bfef33b71c7f2f151a2f7ee22f880bc69971b28f7b9a85a78701eb"), looks := true }, kinds := [], alts := [], laidByText := true, laidKinds := [.data, .data, .data], laidTests := true, laidLooks := .later }
def WordOrderUptoCardSaid : Prop := Claim7.holds Tryd.pinned (.plain (OpenSpec.upto wordOrderSpec)) wordOrderUptoCard
end Rows
end Go.Proofs.YtcmmdeenkfeofaaDoor
