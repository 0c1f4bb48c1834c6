/- word.Do and the reference's Do at any text: both answer doVal where it is an op, and no such op where it is none. -/
import Derived.Test.YtcmmdeenkfeofaaDoorDoWord
import Derived.Test.YtcmmdeenkfeofaaDoorDoRef
import Derived.Test.YtcmmdeenkfeofaaDoorDoNone
namespace Go.Proofs.YtcmmdeenkfeofaaDoor
set_option linter.unusedVariables false
set_option linter.unusedSimpArgs false
open Go.RowKit

theorem do_ok (op : ByteArray) (a b : Int) (w : World) (h0 : 0 ≤ a) (h1 : a < 4294967296) (h2 : 0 ≤ b) (h3 : b < 4294967296) (hk : doOk op = true) :
    Calls Tryd.prog 9 #[.string op, .int .u32 a, .int .u32 b] w fun e w' => e = .returned (.tuple #[.int .u32 (doVal op a b), .nilIface]) ∧ w = w' := by
  by_cases n0 : op = nm_add
  · subst n0
    have hv : doVal nm_add a b = ((a + b) % 4294967296) := by unfold doVal; rw [if_pos rfl]
    rw [hv]
    exact do_add a b w h0 h1 h2 h3
  by_cases n1 : op = nm_sub
  · subst n1
    have hv : doVal nm_sub a b = ((a - b) % 4294967296) := by unfold doVal; rw [if_neg (by decide), if_pos rfl]
    rw [hv]
    exact do_sub a b w h0 h1 h2 h3
  by_cases n2 : op = nm_mul
  · subst n2
    have hv : doVal nm_mul a b = (a * b % 4294967296) := by unfold doVal; rw [if_neg (by decide), if_neg (by decide), if_pos rfl]
    rw [hv]
    exact do_mul a b w h0 h1 h2 h3
  by_cases n3 : op = nm_and
  · subst n3
    have hv : doVal nm_and a b = (bits .and .u32 a b) := by unfold doVal; rw [if_neg (by decide), if_neg (by decide), if_neg (by decide), if_pos rfl]
    rw [hv]
    exact do_and a b w h0 h1 h2 h3
  by_cases n4 : op = nm_or
  · subst n4
    have hv : doVal nm_or a b = (bits .or .u32 a b) := by unfold doVal; rw [if_neg (by decide), if_neg (by decide), if_neg (by decide), if_neg (by decide), if_pos rfl]
    rw [hv]
    exact do_or a b w h0 h1 h2 h3
  by_cases n5 : op = nm_xor
  · subst n5
    have hv : doVal nm_xor a b = (bits .xor .u32 a b) := by unfold doVal; rw [if_neg (by decide), if_neg (by decide), if_neg (by decide), if_neg (by decide), if_neg (by decide), if_pos rfl]
    rw [hv]
    exact do_xor a b w h0 h1 h2 h3
  by_cases n6 : op = nm_sll
  · subst n6
    have hv : doVal nm_sll a b = (a * 2 ^ (b % 32).toNat % 4294967296) := by unfold doVal; rw [if_neg (by decide), if_neg (by decide), if_neg (by decide), if_neg (by decide), if_neg (by decide), if_neg (by decide), if_pos rfl]
    rw [hv]
    exact do_sll a b w h0 h1 h2 h3
  by_cases n7 : op = nm_srl
  · subst n7
    have hv : doVal nm_srl a b = (a / 2 ^ (b % 32).toNat) := by unfold doVal; rw [if_neg (by decide), if_neg (by decide), if_neg (by decide), if_neg (by decide), if_neg (by decide), if_neg (by decide), if_neg (by decide), if_pos rfl]
    rw [hv]
    exact do_srl a b w h0 h1 h2 h3
  by_cases n8 : op = nm_sra
  · subst n8
    have hv : doVal nm_sra a b = (wrap32 a / 2 ^ (b % 32).toNat % 4294967296) := by unfold doVal; rw [if_neg (by decide), if_neg (by decide), if_neg (by decide), if_neg (by decide), if_neg (by decide), if_neg (by decide), if_neg (by decide), if_neg (by decide), if_pos rfl]
    rw [hv]
    exact do_sra a b w h0 h1 h2 h3
  by_cases n9 : op = nm_slt
  · subst n9
    have hv : doVal nm_slt a b = (if wrap32 a < wrap32 b then 1 else 0) := by unfold doVal; rw [if_neg (by decide), if_neg (by decide), if_neg (by decide), if_neg (by decide), if_neg (by decide), if_neg (by decide), if_neg (by decide), if_neg (by decide), if_neg (by decide), if_pos rfl]
    rw [hv]
    exact do_slt a b w h0 h1 h2 h3
  by_cases n10 : op = nm_sltu
  · subst n10
    have hv : doVal nm_sltu a b = (if a < b then 1 else 0) := by unfold doVal; rw [if_neg (by decide), if_neg (by decide), if_neg (by decide), if_neg (by decide), if_neg (by decide), if_neg (by decide), if_neg (by decide), if_neg (by decide), if_neg (by decide), if_neg (by decide), if_pos rfl]
    rw [hv]
    exact do_sltu a b w h0 h1 h2 h3
  by_cases n11 : op = nm_divu
  · subst n11
    have hv : doVal nm_divu a b = (quoU a b) := by unfold doVal; rw [if_neg (by decide), if_neg (by decide), if_neg (by decide), if_neg (by decide), if_neg (by decide), if_neg (by decide), if_neg (by decide), if_neg (by decide), if_neg (by decide), if_neg (by decide), if_neg (by decide), if_pos rfl]
    rw [hv]
    exact do_divu a b w h0 h1 h2 h3
  by_cases n12 : op = nm_remu
  · subst n12
    have hv : doVal nm_remu a b = (remU a b) := by unfold doVal; rw [if_neg (by decide), if_neg (by decide), if_neg (by decide), if_neg (by decide), if_neg (by decide), if_neg (by decide), if_neg (by decide), if_neg (by decide), if_neg (by decide), if_neg (by decide), if_neg (by decide), if_neg (by decide), if_pos rfl]
    rw [hv]
    exact do_remu a b w h0 h1 h2 h3
  simp only [doOk, Bool.or_eq_true, decide_eq_true_eq, n0, n1, n2, n3, n4, n5, n6, n7, n8, n9, n10, n11, n12, or_self] at hk
theorem do_no (op : ByteArray) (a b : Int) (w : World) (h0 : 0 ≤ a) (h1 : a < 4294967296) (h2 : 0 ≤ b) (h3 : b < 4294967296) (hk : doOk op = false) :
    Calls Tryd.prog 9 #[.string op, .int .u32 a, .int .u32 b] w fun e w' => e = .returned (.tuple #[.int .u32 0, .iface 35 (.int .i64 7)]) ∧ w = w' := by
  simp only [doOk, Bool.or_eq_false_iff, decide_eq_false_iff_not] at hk
  obtain ⟨⟨⟨⟨⟨⟨⟨⟨⟨⟨⟨⟨n0, n1⟩, n2⟩, n3⟩, n4⟩, n5⟩, n6⟩, n7⟩, n8⟩, n9⟩, n10⟩, n11⟩, n12⟩ := hk
  exact do_none op a b w h0 h1 h2 h3 n0 n1 n2 n3 n4 n5 n6 n7 n8 n9 n10 n11 n12
theorem refDo_ok (op : ByteArray) (a b : Int) (w : World) (h0 : 0 ≤ a) (h1 : a < 4294967296) (h2 : 0 ≤ b) (h3 : b < 4294967296) (hk : doOk op = true) :
    Calls Tryd.prog 10 #[.string op, .int .u32 a, .int .u32 b] w fun e w' => e = .returned (.tuple #[.int .u32 (doVal op a b), .bool true]) ∧ w = w' := by
  by_cases n0 : op = nm_add
  · subst n0
    have hv : doVal nm_add a b = ((a + b) % 4294967296) := by unfold doVal; rw [if_pos rfl]
    rw [hv]
    exact ref_add a b w h0 h1 h2 h3
  by_cases n1 : op = nm_sub
  · subst n1
    have hv : doVal nm_sub a b = ((a - b) % 4294967296) := by unfold doVal; rw [if_neg (by decide), if_pos rfl]
    rw [hv]
    exact ref_sub a b w h0 h1 h2 h3
  by_cases n2 : op = nm_mul
  · subst n2
    have hv : doVal nm_mul a b = (a * b % 4294967296) := by unfold doVal; rw [if_neg (by decide), if_neg (by decide), if_pos rfl]
    rw [hv]
    exact ref_mul a b w h0 h1 h2 h3
  by_cases n3 : op = nm_and
  · subst n3
    have hv : doVal nm_and a b = (bits .and .u32 a b) := by unfold doVal; rw [if_neg (by decide), if_neg (by decide), if_neg (by decide), if_pos rfl]
    rw [hv]
    exact ref_and a b w h0 h1 h2 h3
  by_cases n4 : op = nm_or
  · subst n4
    have hv : doVal nm_or a b = (bits .or .u32 a b) := by unfold doVal; rw [if_neg (by decide), if_neg (by decide), if_neg (by decide), if_neg (by decide), if_pos rfl]
    rw [hv]
    exact ref_or a b w h0 h1 h2 h3
  by_cases n5 : op = nm_xor
  · subst n5
    have hv : doVal nm_xor a b = (bits .xor .u32 a b) := by unfold doVal; rw [if_neg (by decide), if_neg (by decide), if_neg (by decide), if_neg (by decide), if_neg (by decide), if_pos rfl]
    rw [hv]
    exact ref_xor a b w h0 h1 h2 h3
  by_cases n6 : op = nm_sll
  · subst n6
    have hv : doVal nm_sll a b = (a * 2 ^ (b % 32).toNat % 4294967296) := by unfold doVal; rw [if_neg (by decide), if_neg (by decide), if_neg (by decide), if_neg (by decide), if_neg (by decide), if_neg (by decide), if_pos rfl]
    rw [hv]
    exact ref_sll a b w h0 h1 h2 h3
  by_cases n7 : op = nm_srl
  · subst n7
    have hv : doVal nm_srl a b = (a / 2 ^ (b % 32).toNat) := by unfold doVal; rw [if_neg (by decide), if_neg (by decide), if_neg (by decide), if_neg (by decide), if_neg (by decide), if_neg (by decide), if_neg (by decide), if_pos rfl]
    rw [hv]
    exact ref_srl a b w h0 h1 h2 h3
  by_cases n8 : op = nm_sra
  · subst n8
    have hv : doVal nm_sra a b = (wrap32 a / 2 ^ (b % 32).toNat % 4294967296) := by unfold doVal; rw [if_neg (by decide), if_neg (by decide), if_neg (by decide), if_neg (by decide), if_neg (by decide), if_neg (by decide), if_neg (by decide), if_neg (by decide), if_pos rfl]
    rw [hv]
    exact ref_sra a b w h0 h1 h2 h3
  by_cases n9 : op = nm_slt
  · subst n9
    have hv : doVal nm_slt a b = (if wrap32 a < wrap32 b then 1 else 0) := by unfold doVal; rw [if_neg (by decide), if_neg (by decide), if_neg (by decide), if_neg (by decide), if_neg (by decide), if_neg (by decide), if_neg (by decide), if_neg (by decide), if_neg (by decide), if_pos rfl]
    rw [hv]
    exact ref_slt a b w h0 h1 h2 h3
  by_cases n10 : op = nm_sltu
  · subst n10
    have hv : doVal nm_sltu a b = (if a < b then 1 else 0) := by unfold doVal; rw [if_neg (by decide), if_neg (by decide), if_neg (by decide), if_neg (by decide), if_neg (by decide), if_neg (by decide), if_neg (by decide), if_neg (by decide), if_neg (by decide), if_neg (by decide), if_pos rfl]
    rw [hv]
    exact ref_sltu a b w h0 h1 h2 h3
  by_cases n11 : op = nm_divu
  · subst n11
    have hv : doVal nm_divu a b = (quoU a b) := by unfold doVal; rw [if_neg (by decide), if_neg (by decide), if_neg (by decide), if_neg (by decide), if_neg (by decide), if_neg (by decide), if_neg (by decide), if_neg (by decide), if_neg (by decide), if_neg (by decide), if_neg (by decide), if_pos rfl]
    rw [hv]
    exact ref_divu a b w h0 h1 h2 h3
  by_cases n12 : op = nm_remu
  · subst n12
    have hv : doVal nm_remu a b = (remU a b) := by unfold doVal; rw [if_neg (by decide), if_neg (by decide), if_neg (by decide), if_neg (by decide), if_neg (by decide), if_neg (by decide), if_neg (by decide), if_neg (by decide), if_neg (by decide), if_neg (by decide), if_neg (by decide), if_neg (by decide), if_pos rfl]
    rw [hv]
    exact ref_remu a b w h0 h1 h2 h3
  simp only [doOk, Bool.or_eq_true, decide_eq_true_eq, n0, n1, n2, n3, n4, n5, n6, n7, n8, n9, n10, n11, n12, or_self] at hk
theorem refDo_no (op : ByteArray) (a b : Int) (w : World) (h0 : 0 ≤ a) (h1 : a < 4294967296) (h2 : 0 ≤ b) (h3 : b < 4294967296) (hk : doOk op = false) :
    Calls Tryd.prog 10 #[.string op, .int .u32 a, .int .u32 b] w fun e w' => e = .returned (.tuple #[.int .u32 0, .bool false]) ∧ w = w' := by
  simp only [doOk, Bool.or_eq_false_iff, decide_eq_false_iff_not] at hk
  obtain ⟨⟨⟨⟨⟨⟨⟨⟨⟨⟨⟨⟨n0, n1⟩, n2⟩, n3⟩, n4⟩, n5⟩, n6⟩, n7⟩, n8⟩, n9⟩, n10⟩, n11⟩, n12⟩ := hk
  exact ref_none op a b w h0 h1 h2 h3 n0 n1 n2 n3 n4 n5 n6 n7 n8 n9 n10 n11 n12
end Go.Proofs.YtcmmdeenkfeofaaDoor
