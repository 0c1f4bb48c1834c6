/- What the program's lex.Line is to answer. -/
import Derived.Test.YtcdepfdfemmfhaaDoorLexAll
import Derived.Test.YtcdepfdfemmfhaaDoorPre
namespace Go.Proofs.YtcdepfdfemmfhaaDoor
set_option linter.unusedVariables false
set_option linter.unusedSimpArgs false
open Go.RowKit
def faultB (w : World) (q : Nat) (part : ByteArray) (at_ n : Int) : Prop := Box w q #[.string part, .int .i64 at_, .iface 55 (.int .i64 n)]
def LineP (l : List UInt8) (w : World) (e : Ending) (w' : World) : Prop := match lexL l 0 with
  | .error (i, x) => ∃ v q, e = .returned (.tuple #[v, faultP q]) ∧ faultB w' q colS i x ∧ Keep w w'
  | .ok ts => ∃ v, e = .returned (.tuple #[v, .nilIface]) ∧ w'.ownsRow w.heap.size 45 4 v ts.length (tokRows ts) ∧ Keep w w'
def PLine : Prop := ∀ (s : ByteArray) (w : World), s.size ≤ 1000 → Pre w → Calls Tryd.prog 10 #[.string s] w (LineP s.data.toList w)
theorem infoLTok : (Tryd.prog.info? 45).map (fun i => (i.zero, i.size, i.bytes)) = some (some (.agg #[.int .i64 0, .string ⟨#[]⟩, .int .i64 0, .int .i64 0]), 4, 40) := by kernel_rfl
end Go.Proofs.YtcdepfdfemmfhaaDoor
