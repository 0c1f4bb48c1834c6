/-
  DERIVED. GIVEN WITH THE SEED: THE CARDS: each row of YtbpmjegpoafhgaaDoorRows.lean that lists a variable, with what it lists TIED to the program's text (the seventh form; the later family's looks); each row that meets fmt, with fmt's text TOLD by the authors' own Lean function (tested against real Go, not proved from fmt's source: count such statements apart). THE CARD IS WHAT COUNTS. Prove the row's statement (the work); the ties are given (YtbpmjegpoafhgaaDoorTie.lean); close each card by the builder's one call (the guide's Derived/Test/ToyasCard.lean, 'card_holds'). Laid BY PROGRAM, IN A SANDBOX (cutbox-door.mjs). By AI agents, Wed Nov 11 2026. No macro, syntax, notation, axiom, sorry.
-/
import Derived.Test.YtbpmjegpoafhgaaDoorRows
import GoSem.ClaimSeven
namespace Go.Proofs.YtbpmjegpoafhgaaDoor
namespace Rows

/-- THE TIED CARD OF 'hasplaw6.OpAny'. -/
def opAnyCard : Claim7 := { stood := { row := opAnyRow, standIns := [], harness := (true, "df41738103cedd2bb39354841871bbc2cdebe75a2234796a9a338c0e8067b33f"), looks := false }, kinds := [], alts := [], laidByText := true, laidKinds := [.data], laidTests := true, laidLooks := .later }
def OpAnyCardSaid : Prop := Claim7.holds Tryd.pinned (.plain (OpenSpec.ofChange opAnySpec)) opAnyCard

/-- THE TIED CARD OF 'hasplaw6.OpOnce'. -/
def opOnceCard : Claim7 := { stood := { row := opOnceRow, standIns := [], harness := (true, "df41738103cedd2bb39354841871bbc2cdebe75a2234796a9a338c0e8067b33f"), looks := false }, kinds := [], alts := [], laidByText := true, laidKinds := [.data], laidTests := true, laidLooks := .later }
def OpOnceCardSaid : Prop := Claim7.holds Tryd.pinned (.plain (OpenSpec.ofChange opOnceSpec)) opOnceCard

/-- THE SECOND FORM's CARD OF 'hasplaw6.OpAny'. -/
def opAnyUptoCard : Claim7 := { stood := { row := opAnyUptoRow, standIns := [], harness := (true, "df41738103cedd2bb39354841871bbc2cdebe75a2234796a9a338c0e8067b33f"), looks := false }, kinds := [], alts := [], laidByText := true, laidKinds := [.data], laidTests := true, laidLooks := .later }
def OpAnyUptoCardSaid : Prop := Claim7.holds Tryd.pinned (.plain (OpenSpec.upto opAnySpec)) opAnyUptoCard

/-- THE SECOND FORM's CARD OF 'hasplaw6.OpOnce'. -/
def opOnceUptoCard : Claim7 := { stood := { row := opOnceUptoRow, standIns := [], harness := (true, "df41738103cedd2bb39354841871bbc2cdebe75a2234796a9a338c0e8067b33f"), looks := false }, kinds := [], alts := [], laidByText := true, laidKinds := [.data], laidTests := true, laidLooks := .later }
def OpOnceUptoCardSaid : Prop := Claim7.holds Tryd.pinned (.plain (OpenSpec.upto opOnceSpec)) opOnceUptoCard
end Rows
end Go.Proofs.YtbpmjegpoafhgaaDoor
