/- word.Do and the reference's Do at a text that is no op. -/
import Derived.Test.YtcmmdeenkfeofaaDoorDoNames
namespace Go.Proofs.YtcmmdeenkfeofaaDoor
set_option linter.unusedVariables false
set_option linter.unusedSimpArgs false
open Go.RowKit

theorem do_none (op : ByteArray) (a b : Int) (w : World) (h0 : 0 ≤ a) (h1 : a < 4294967296) (h2 : 0 ≤ b) (h3 : b < 4294967296) (n0 : ¬ op = nm_add) (n1 : ¬ op = nm_sub) (n2 : ¬ op = nm_mul) (n3 : ¬ op = nm_and) (n4 : ¬ op = nm_or) (n5 : ¬ op = nm_xor) (n6 : ¬ op = nm_sll) (n7 : ¬ op = nm_srl) (n8 : ¬ op = nm_sra) (n9 : ¬ op = nm_slt) (n10 : ¬ op = nm_sltu) (n11 : ¬ op = nm_divu) (n12 : ¬ op = nm_remu) :
    Calls Tryd.prog 9 #[.string op, .int .u32 a, .int .u32 b] w fun e w' => e = .returned (.tuple #[.int .u32 0, .iface 35 (.int .i64 7)]) ∧ w = w' := by
  have t0 : (op.toList == [97, 100, 100]) = false := str_ne op _ n0
  have t1 : (op.toList == [115, 117, 98]) = false := str_ne op _ n1
  have t2 : (op.toList == [109, 117, 108]) = false := str_ne op _ n2
  have t3 : (op.toList == [97, 110, 100]) = false := str_ne op _ n3
  have t4 : (op.toList == [111, 114]) = false := str_ne op _ n4
  have t5 : (op.toList == [120, 111, 114]) = false := str_ne op _ n5
  have t6 : (op.toList == [115, 108, 108]) = false := str_ne op _ n6
  have t7 : (op.toList == [115, 114, 108]) = false := str_ne op _ n7
  have t8 : (op.toList == [115, 114, 97]) = false := str_ne op _ n8
  have t9 : (op.toList == [115, 108, 116]) = false := str_ne op _ n9
  have t10 : (op.toList == [115, 108, 116, 117]) = false := str_ne op _ n10
  have t11 : (op.toList == [100, 105, 118, 117]) = false := str_ne op _ n11
  have t12 : (op.toList == [114, 101, 109, 117]) = false := str_ne op _ n12
  clear n0 n1 n2 n3 n4 n5 n6 n7 n8 n9 n10 n11 n12
  have e31 := and31 b h2 h3
  have b0 : 0 ≤ b % 32 := by omega
  have b1 : b % 32 < 32 := by omega
  go_enter Tryd.func9, Tryd.ntmps9
  go_wp2
  go_ret2
  exact ⟨rfl, rfl⟩
theorem ref_none (op : ByteArray) (a b : Int) (w : World) (h0 : 0 ≤ a) (h1 : a < 4294967296) (h2 : 0 ≤ b) (h3 : b < 4294967296) (n0 : ¬ op = nm_add) (n1 : ¬ op = nm_sub) (n2 : ¬ op = nm_mul) (n3 : ¬ op = nm_and) (n4 : ¬ op = nm_or) (n5 : ¬ op = nm_xor) (n6 : ¬ op = nm_sll) (n7 : ¬ op = nm_srl) (n8 : ¬ op = nm_sra) (n9 : ¬ op = nm_slt) (n10 : ¬ op = nm_sltu) (n11 : ¬ op = nm_divu) (n12 : ¬ op = nm_remu) :
    Calls Tryd.prog 10 #[.string op, .int .u32 a, .int .u32 b] w fun e w' => e = .returned (.tuple #[.int .u32 0, .bool false]) ∧ w = w' := by
  have t0 : (op.toList == [97, 100, 100]) = false := str_ne op _ n0
  have t1 : (op.toList == [115, 117, 98]) = false := str_ne op _ n1
  have t2 : (op.toList == [109, 117, 108]) = false := str_ne op _ n2
  have t3 : (op.toList == [97, 110, 100]) = false := str_ne op _ n3
  have t4 : (op.toList == [111, 114]) = false := str_ne op _ n4
  have t5 : (op.toList == [120, 111, 114]) = false := str_ne op _ n5
  have t6 : (op.toList == [115, 108, 108]) = false := str_ne op _ n6
  have t7 : (op.toList == [115, 114, 108]) = false := str_ne op _ n7
  have t8 : (op.toList == [115, 114, 97]) = false := str_ne op _ n8
  have t9 : (op.toList == [115, 108, 116]) = false := str_ne op _ n9
  have t10 : (op.toList == [115, 108, 116, 117]) = false := str_ne op _ n10
  have t11 : (op.toList == [100, 105, 118, 117]) = false := str_ne op _ n11
  have t12 : (op.toList == [114, 101, 109, 117]) = false := str_ne op _ n12
  clear n0 n1 n2 n3 n4 n5 n6 n7 n8 n9 n10 n11 n12
  have e31 := and31 b h2 h3
  have b0 : 0 ≤ b % 32 := by omega
  have b1 : b % 32 < 32 := by omega
  go_enter Tryd.func10, Tryd.ntmps10
  go_wp2
  go_ret2
  exact ⟨rfl, rfl⟩
end Go.Proofs.YtcmmdeenkfeofaaDoor
