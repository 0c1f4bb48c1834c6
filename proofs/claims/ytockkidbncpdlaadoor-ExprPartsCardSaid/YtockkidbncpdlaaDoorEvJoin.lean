/- The reference's times, join: what a sign makes of two numbers. -/
import Derived.Test.YtockkidbncpdlaaDoorEvSign
namespace Go.Proofs.YtockkidbncpdlaaDoor
set_option linter.unusedVariables false
set_option linter.unusedSimpArgs false
open Go.RowKit
def InB (n : Int) : Prop := -1099511627776 ≤ n ∧ n ≤ 1099511627776
/-- What came: a number, nothing changed; or the error at a place. -/
def JoinR (r : Rdr) (pl : Int) (o : Option Int) (w : World) (x : Ending) (w' : World) : Prop := match o with
  | some n => x = .returned (.int .i64 n) ∧ w = w'
  | none => x = .returned (.int .i64 0) ∧ KeepBut (fun z => z = r.b) w w' ∧ r.Bad w' pl 14
theorem JoinR.ok {r : Rdr} {pl : Int} {o : Option Int} {n : Int} {w : World} (h : o = some n) : JoinR r pl o w (.returned (.int .i64 n)) w := by subst h; exact ⟨rfl, rfl⟩
theorem JoinR.bad {r : Rdr} {pl : Int} {o : Option Int} {w w' : World} (h : o = none) (k : KeepBut (fun z => z = r.b) w w' ∧ r.Bad w' pl 14) : JoinR r pl o w (.returned (.int .i64 0)) w' := by subst h; exact ⟨rfl, k⟩
theorem timesE_mul {a b : Int} (h1 : a ≠ 0) (h2 : b ≠ 0) (h : ¬ absI a > 1099511627776 / absI b) : timesE a b = some (a * b) := by
  unfold timesE lxBig; rw [if_neg (by omega), if_neg h]
theorem timesE_over {a b : Int} (h1 : a ≠ 0) (h2 : b ≠ 0) (h : absI a > 1099511627776 / absI b) : timesE a b = none := by
  unfold timesE lxBig; rw [if_neg (by omega), if_pos h]
theorem pos_mul {x y : Int} (hx : 0 < x) (hy : 0 < y) (h : ¬ x > 1099511627776 / y) : 0 ≤ x * y ∧ x * y ≤ 1099511627776 := by
  have h4 : x ≤ 1099511627776 / y := by omega
  have h5 := Int.mul_le_mul_of_nonneg_right h4 (Int.le_of_lt hy)
  have h6 := Int.ediv_mul_le 1099511627776 (Int.ne_of_gt hy)
  exact ⟨Int.mul_nonneg (Int.le_of_lt hx) (Int.le_of_lt hy), by omega⟩
theorem quo_bd {y : Int} (hy : 0 < y) : 0 ≤ 1099511627776 / y ∧ 1099511627776 / y ≤ 1099511627776 := ⟨Int.ediv_nonneg (by decide) (Int.le_of_lt hy), Int.ediv_le_self _ (by decide)⟩
theorem abs_pos {x : Int} (h : 0 < x) : absI x = x := by unfold absI; rw [if_neg (by omega)]
theorem abs_neg {x : Int} (h : 0 < x) : absI (-x) = x := by unfold absI; rw [if_pos (by omega)]; omega
end Go.Proofs.YtockkidbncpdlaaDoor
