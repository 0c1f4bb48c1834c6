/-
  NARROWER THAN 'FOR EVERY INPUT', by the rows' own cells (each row's printed sentence says how): OpAny: laid · OpOnce: laid.
  DERIVED. THE GIVEN ROWS OF THIS SEAT. 2 by the template 'for every input the law returns true; each argument reads behind the call as it read before'; 0 by the template 'total and deterministic' (their statements: YtbpmjegpoafhgaaDoorTotals.lean).
  GIVEN WITH THE SEED: the statements are not yours to turn. If you find one false, say at which input.
  Laid BY PROGRAM, IN A SANDBOX (cutbox-rows.mjs): the forced cells as the released guide's own fill.sh prints them over the translation 94c2ab5d3444a08f… (all of the seat's roots in one cut). By AI agents, Wed Nov 11 2026. No macro, syntax, notation, axiom, sorry.
-/
import Derived.Test.YtbpmjegpoafhgaaDoorChecked
import GoSem.Claim
import GoSem.ClaimJoined
import GoSem.ClaimMapViews
import Derived.JoinedTies
import Derived.KernelRfl
namespace Go.Proofs.YtbpmjegpoafhgaaDoor
/- THE CELL 'sum', in the pinned program and in every row, IS THE sha256 OF THE DUMP (.gsa) THAT YtbpmjegpoafhgaaDoorProg.lean LOADS. Nothing in Lean hashes anything: it is a label: what it is worth is what the hold of that sum in a sandbox is worth. -/
noncomputable def Tryd.pinned : Pinned := { name := "ytbpmjegpoafhgaadoor", sum := "94c2ab5d3444a08f576abafaaf33b30b86cc886531b3534cdaf2f3809943f5bb", checked := Tryd.checked }
namespace Rows
def none {H : Type} : Left H := { results := [], args := [] }

/- WHAT THE LISTED PACKAGE-LEVEL VARIABLES READ AS WHEN THE CALL BEGINS. Each datum BY PROGRAM (the guide's laid-datum.mjs) off the statement by which the dump's own 'gosem.cut.vars' lays the variable. In a bare row this is a premise. The card (YtbpmjegpoafhgaaDoorCards.lean) ties it to the program's text. -/
def laid_hasp_op_names {H : Type} : DataW H := .agg [.lit (.string [97, 100, 100]), .lit (.string [115, 117, 98]), .lit (.string [109, 117, 108]), .lit (.string [97, 110, 100]), .lit (.string [111, 114]), .lit (.string [120, 111, 114]), .lit (.string [115, 108, 108]), .lit (.string [115, 114, 108]), .lit (.string [115, 114, 97]), .lit (.string [115, 108, 116]), .lit (.string [115, 108, 116, 117]), .lit (.string [100, 105, 118, 117]), .lit (.string [114, 101, 109, 117]), .lit (.string [97, 100, 100, 105]), .lit (.string [97, 110, 100, 105]), .lit (.string [111, 114, 105]), .lit (.string [120, 111, 114, 105]), .lit (.string [115, 108, 108, 105]), .lit (.string [115, 114, 108, 105]), .lit (.string [115, 108, 116, 105]), .lit (.string [108, 105]), .lit (.string [108, 117, 105]), .lit (.string [109, 118]), .lit (.string [99, 98, 97, 115, 101]), .lit (.string [99, 116, 111, 112]), .lit (.string [99, 97, 100, 100, 114]), .lit (.string [99, 112, 101, 114, 109]), .lit (.string [99, 116, 121, 112, 101]), .lit (.string [99, 116, 97, 103]), .lit (.string [99, 115, 101, 116, 97, 100, 100, 114]), .lit (.string [99, 105, 110, 99]), .lit (.string [99, 105, 110, 99, 105]), .lit (.string [99, 98, 111, 117, 110, 100, 115]), .lit (.string [99, 98, 111, 117, 110, 100, 115, 105]), .lit (.string [99, 97, 110, 100, 112]), .lit (.string [99, 97, 110, 100, 112, 105]), .lit (.string [99, 99, 108, 101, 97, 114]), .lit (.string [99, 115, 101, 97, 108]), .lit (.string [99, 117, 110, 115, 101, 97, 108]), .lit (.string [99, 101, 110, 116, 101, 114]), .lit (.string [99, 115, 117, 98]), .lit (.string [99, 115, 117, 98, 115, 101, 116]), .lit (.string [99, 101, 113]), .lit (.string [108, 98]), .lit (.string [108, 98, 117]), .lit (.string [108, 104]), .lit (.string [108, 104, 117]), .lit (.string [108, 119]), .lit (.string [108, 99]), .lit (.string [115, 98]), .lit (.string [115, 104]), .lit (.string [115, 119]), .lit (.string [115, 99]), .lit (.string [98, 101, 113]), .lit (.string [98, 110, 101]), .lit (.string [98, 108, 116]), .lit (.string [98, 103, 101]), .lit (.string [98, 108, 116, 117]), .lit (.string [98, 103, 101, 117]), .lit (.string [106, 97, 108]), .lit (.string [106, 97, 108, 114]), .lit (.string [97, 117, 105, 112, 99, 99]), .lit (.string [105, 110]), .lit (.string [111, 117, 116]), .lit (.string [104, 97, 108, 116]), .lit (.string [101, 99, 97, 108, 108]), .lit (.string [110, 111, 112])]

/-- 'hasplaw6.OpAny': WHATEVER THE INPUT: true; the input reads as it did. -/
def opAnySpec : ChangeSpec := { name := "opAny", fn := fun _ => fun
  | [d1, d2] => { results := [.lit (.bool true)], args := [d1, d2] }
  | _ => none }
def opAnyRow : OpenClaim := { program := "ytbpmjegpoafhgaadoor", sum := "94c2ab5d3444a08f576abafaaf33b30b86cc886531b3534cdaf2f3809943f5bb", func := "hasp/hasplaw6.OpAny", spec := "opAny", named := ["hasp/op.names"], apart := false, laid := [("hasp/op.names", laid_hasp_op_names)] }
def OpAnySaid : Prop := opAnyRow.holds Tryd.pinned (OpenSpec.ofChange opAnySpec)

/-- ITS FALSE NEIGHBOUR: 'it returns false'. Refute it at one input. -/
def opAnyWrong : ChangeSpec := { name := "opAny", fn := fun _ => fun
  | [d1, d2] => { results := [.lit (.bool false)], args := [d1, d2] }
  | _ => none }
def OpAnyWrongFalsely : Prop := opAnyRow.holds Tryd.pinned (OpenSpec.ofChange opAnyWrong)

/-- 'hasplaw6.OpOnce': WHATEVER THE INPUT: true; the input reads as it did. -/
def opOnceSpec : ChangeSpec := { name := "opOnce", fn := fun _ => fun
  | [d1, d2] => { results := [.lit (.bool true)], args := [d1, d2] }
  | _ => none }
def opOnceRow : OpenClaim := { program := "ytbpmjegpoafhgaadoor", sum := "94c2ab5d3444a08f576abafaaf33b30b86cc886531b3534cdaf2f3809943f5bb", func := "hasp/hasplaw6.OpOnce", spec := "opOnce", named := ["hasp/op.names"], apart := false, laid := [("hasp/op.names", laid_hasp_op_names)] }
def OpOnceSaid : Prop := opOnceRow.holds Tryd.pinned (OpenSpec.ofChange opOnceSpec)

/-- ITS FALSE NEIGHBOUR: 'it returns false'. Refute it at one input. -/
def opOnceWrong : ChangeSpec := { name := "opOnce", fn := fun _ => fun
  | [d1, d2] => { results := [.lit (.bool false)], args := [d1, d2] }
  | _ => none }
def OpOnceWrongFalsely : Prop := opOnceRow.holds Tryd.pinned (OpenSpec.ofChange opOnceWrong)

/- THE SECOND FORM. 'bulk': how many values and letters a reading holds, each counted each time it is reached (what is shared counts as often as it is met; a slice's spare places count too). A statement '..UptoSaid' is the law's where the arguments, and the package variables that the reading takes, are together of bulk at most 1048576: NARROWER than '..Said'. Prove '..Said' where nothing that the law and all that it calls make is longer than what came in: it says more and counts as full. Else prove '..UptoSaid'. A law counts once. -/
mutual
def uptoBulk {H : Type} : DataW H → Nat
  | .lit (.string bytes) => bytes.length + 1
  | .lit _ => 1
  | .nil => 1
  | .ptr d => uptoBulk d + 1
  | .slice elems spare => uptoBulkAll elems + uptoBulkAll spare + 1
  | .agg parts => uptoBulkAll parts + 1
  | .iface _ d => uptoBulk d + 1
  | .map entries => uptoBulkEntries entries + 1
  | .held _ => 1
def uptoBulkAll {H : Type} : List (DataW H) → Nat
  | [] => 0
  | d :: r => uptoBulk d + uptoBulkAll r
def uptoBulkEntries {H : Type} : List (Lit × DataW H) → Nat
  | [] => 0
  | x :: r => uptoBulkEntry x + uptoBulkEntries r
def uptoBulkEntry {H : Type} : Lit × DataW H → Nat
  | (.string bytes, d) => bytes.length + uptoBulk d + 1
  | (_, d) => uptoBulk d + 1
 end
def uptoSmall : (H : Type) → List (DataW H) → Bool := fun _ ds => decide (uptoBulkAll ds ≤ 1048576)
def OpenSpec.upto (s : _root_.Go.ChangeSpec) : _root_.Go.OpenSpec := { _root_.Go.OpenSpec.ofChange s with cond := some uptoSmall }

/-- 'hasplaw6.OpAny', WHERE WHAT IT READS IS OF BULK AT MOST 1048576: true; the input reads as it did. -/
def opAnyUptoRow : OpenClaim := { program := "ytbpmjegpoafhgaadoor", sum := "94c2ab5d3444a08f576abafaaf33b30b86cc886531b3534cdaf2f3809943f5bb", func := "hasp/hasplaw6.OpAny", spec := "opAny", named := ["hasp/op.names"], apart := false, laid := [("hasp/op.names", laid_hasp_op_names)], narrowed := true }
def OpAnyUptoSaid : Prop := opAnyUptoRow.holds Tryd.pinned (OpenSpec.upto opAnySpec)

/-- 'hasplaw6.OpOnce', WHERE WHAT IT READS IS OF BULK AT MOST 1048576: true; the input reads as it did. -/
def opOnceUptoRow : OpenClaim := { program := "ytbpmjegpoafhgaadoor", sum := "94c2ab5d3444a08f576abafaaf33b30b86cc886531b3534cdaf2f3809943f5bb", func := "hasp/hasplaw6.OpOnce", spec := "opOnce", named := ["hasp/op.names"], apart := false, laid := [("hasp/op.names", laid_hasp_op_names)], narrowed := true }
def OpOnceUptoSaid : Prop := opOnceUptoRow.holds Tryd.pinned (OpenSpec.upto opOnceSpec)

end Rows
end Go.Proofs.YtbpmjegpoafhgaaDoor
