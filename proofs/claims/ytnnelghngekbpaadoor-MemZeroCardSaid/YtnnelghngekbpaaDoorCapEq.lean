/- Two capabilities, compared. -/
import Derived.Test.YtnnelghngekbpaaDoorChecked
import Derived.WalkKit
import Derived.Laws.StructEq
namespace Go.Proofs.YtnnelghngekbpaaDoor
set_option linter.unusedVariables false
set_option linter.unusedSimpArgs false
open Go.RowKit

theorem eqin_cap (t : Bool) (b p a m y b1 p1 a1 m1 y1 : Int) (w : World) :
    (Op.equalIn 10000 39 (.agg #[.bool t, .int .u32 b, .int .u32 p, .int .u32 a, .int .u16 m, .int .u16 y]) (.agg #[.bool t, .int .u32 b1, .int .u32 p1, .int .u32 a1, .int .u16 m1, .int .u16 y1])).run Tryd.prog w =
      .ok ((b == b1) && ((p == p1) && ((a == a1) && ((m == m1) && (y == y1))))) w := by
  cases h1 : (b == b1) <;> cases h2 : (p == p1) <;> cases h3 : (a == a1) <;> cases h4 : (m == m1) <;> cases h5 : (y == y1)
  all_goals go_simp
end Go.Proofs.YtnnelghngekbpaaDoor
