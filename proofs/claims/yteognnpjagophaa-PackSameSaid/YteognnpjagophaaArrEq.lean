/- Two rows of sixteen bytes, compared. -/
import Derived.Test.YteognnpjagophaaRefBytes
import Derived.Laws.StructEq
import Derived.ChangeKeysEq
import Derived.KernelRfl
namespace Go.Proofs.Yteognnpjagophaa
set_option linter.unusedVariables false
set_option linter.unusedSimpArgs false
open Go.RowKit

theorem cellsU8 : Try.prog.cellsOf 5 = 1 := by kernel_rfl
theorem plainU8 : Try.prog.plainKey 5 = true := by kernel_rfl
theorem u8s_at (l : List Int) (i : Nat) (h : i < l.length) : (u8s l)[i]? = some (.int .u8 l[i]) := by
  simp [u8s, List.getElem?_eq_getElem h]
theorem eq_items (d : Nat) (xs ys : List Int) (hl : xs.length = ys.length) : ∀ (n k : Nat), k + n = xs.length → ∀ w : World,
    (Op.eqItems (d + 1) 5 (Try.prog.cellsOf 5) (u8s xs) (u8s ys) (List.range' k n)).run Try.prog w = .ok (xs.drop k == ys.drop k) w
  | 0, k, hk, w => by
    rw [List.drop_eq_nil_of_le (by omega), List.drop_eq_nil_of_le (by omega)]
    simp [Op.eqItems]
  | n + 1, k, hk, w => by
    have h1 : k < xs.length := by omega
    have h2 : k < ys.length := by omega
    have p1 := run_part_plain (P := Try.prog) (w := w) plainU8 (off := k * Try.prog.cellsOf 5) (by rw [cellsU8, Nat.mul_one]; exact u8s_at xs k h1)
    have p2 := run_part_plain (P := Try.prog) (w := w) plainU8 (off := k * Try.prog.cellsOf 5) (by rw [cellsU8, Nat.mul_one]; exact u8s_at ys k h2)
    have p3 := run_equalIn_int (P := Try.prog) w d 5 .u8 .u8 xs[k] ys[k] Try.underlying5
    rw [List.range'_succ, List.drop_eq_getElem_cons h1, List.drop_eq_getElem_cons h2]
    simp only [Op.eqItems, Sem.run_bind, p1, p2, p3, Result.andThen_ok]
    have hih := eq_items d xs ys hl n (k + 1) (by omega) w
    cases hc : (xs[k] == ys[k])
    · rw [List.cons_beq_cons, hc]
      rfl
    · rw [List.cons_beq_cons, hc]
      simpa using hih
theorem info8 : ∃ i, Try.prog.info? 5 = some i := by
  cases h : Try.prog.info? 5 with
  | some i => exact ⟨i, rfl⟩
  | none =>
    have hs : (Try.prog.info? 5).isSome = true := by kernel_rfl
    rw [h] at hs
    cases hs
theorem eqin16 (xs ys : List Int) (h1 : xs.length = 16) (h2 : ys.length = 16) (w : World) :
    (Op.equalIn 10000 27 (.agg (u8s xs)) (.agg (u8s ys))).run Try.prog w = .ok (xs == ys) w := by
  obtain ⟨i, hi⟩ := info8
  rw [run_equalIn_array w 9999 (u8s xs) (u8s ys) Try.underlying27 hi, List.range_eq_range', eq_items 9998 xs ys (by rw [h1, h2]) 16 0 (by omega)]
  rfl
end Go.Proofs.Yteognnpjagophaa
