/- The forms of what access answers; hasplaw5's plays: what a memory's store does to both. -/
import Derived.Test.YtgfoohiaioojoaaDoorAccFilled
namespace Go.Proofs.YtgfoohiaioojoaaDoor
set_option linter.unusedVariables false
set_option linter.unusedSimpArgs false
open Go.RowKit
theorem readE_form (L : Nat) (t : Bool) (b p a m y off n : Int) : ∃ pt x k, readE L t b p a m y off n = wrongV pt x k := by
  unfold readE numE loadV errV rangeV
  repeat' split
  all_goals exact ⟨_, _, _, rfl⟩
theorem writeE_form (L : Nat) (t : Bool) (b p a m y off n : Int) : ∃ pt x k, writeE L t b p a m y off n = wrongV pt x k := by
  unfold writeE numE storeV errV rangeV
  repeat' split
  all_goals exact ⟨_, _, _, rfl⟩
theorem capE_form (L : Nat) (t : Bool) (b p a m y off q : Int) : ∃ pt x k, capE L t b p a m y off q = wrongV pt x k := by
  unfold capE granV rangeV alignV
  repeat' split
  all_goals exact ⟨_, _, _, rfl⟩
theorem rcapV_form (bs : List Int) (ts : List Bool) (t : Bool) (b p a m y off : Int) : ∃ u z1 z2 z3 z4 z5, rcapV bs ts t b p a m y off = .agg #[.bool u, .int .u32 z1, .int .u32 z2, .int .u32 z3, .int .u16 z4, .int .u16 z5] := by
  unfold rcapV
  split
  · exact ⟨_, _, _, _, _, _, rfl⟩
  · exact ⟨_, _, _, _, _, _, rfl⟩
/-- An error stays where a block is written that was made since. -/
theorem ErrV.under {w0 w w' : World} {v wv : Value} {c : Nat} (h0 : ErrV w0 v wv) (h : ErrV w v wv) (k : KeepBut (fun z => z = c) w w') (hc : w0.heap.size ≤ c) : ErrV w' v wv :=
  ErrV.but h k (fun q hq hz => by
    rcases h0 with ⟨_, h1⟩ | ⟨q', part, at_, n, h1, h2, h3, h4⟩
    · rw [h1] at hq; cases hq
    · rw [h3] at hq
      unfold faultP at hq
      simp only [Value.iface.injEq, Value.pointer.injEq, Option.some.injEq, Addr.mk.injEq, and_true, true_and] at hq
      have := h4.lt
      omega)
end Go.Proofs.YtgfoohiaioojoaaDoor
