/- word.Do and the reference's Do: what each answers for every op and any two numbers. -/
import Derived.Test.YtcmmdeenkfeofaaDoorSmall
import Derived.Lib.Hide
namespace Go.Proofs.YtcmmdeenkfeofaaDoor
set_option linter.unusedVariables false
set_option linter.unusedSimpArgs false
open Go.RowKit

def nm_add : ByteArray := ⟨#[97, 100, 100]⟩
def nm_sub : ByteArray := ⟨#[115, 117, 98]⟩
def nm_mul : ByteArray := ⟨#[109, 117, 108]⟩
def nm_and : ByteArray := ⟨#[97, 110, 100]⟩
def nm_or : ByteArray := ⟨#[111, 114]⟩
def nm_xor : ByteArray := ⟨#[120, 111, 114]⟩
def nm_sll : ByteArray := ⟨#[115, 108, 108]⟩
def nm_srl : ByteArray := ⟨#[115, 114, 108]⟩
def nm_sra : ByteArray := ⟨#[115, 114, 97]⟩
def nm_slt : ByteArray := ⟨#[115, 108, 116]⟩
def nm_sltu : ByteArray := ⟨#[115, 108, 116, 117]⟩
def nm_divu : ByteArray := ⟨#[100, 105, 118, 117]⟩
def nm_remu : ByteArray := ⟨#[114, 101, 109, 117]⟩
/-- What P101 says of each op. -/
def doVal (op : ByteArray) (a b : Int) : Int :=
  if op = nm_add then (a + b) % 4294967296 else
  if op = nm_sub then (a - b) % 4294967296 else
  if op = nm_mul then a * b % 4294967296 else
  if op = nm_and then bits .and .u32 a b else
  if op = nm_or then bits .or .u32 a b else
  if op = nm_xor then bits .xor .u32 a b else
  if op = nm_sll then a * 2 ^ (b % 32).toNat % 4294967296 else
  if op = nm_srl then a / 2 ^ (b % 32).toNat else
  if op = nm_sra then wrap32 a / 2 ^ (b % 32).toNat % 4294967296 else
  if op = nm_slt then if wrap32 a < wrap32 b then 1 else 0 else
  if op = nm_sltu then if a < b then 1 else 0 else
  if op = nm_divu then quoU a b else
  if op = nm_remu then remU a b else
  0
def doOk (op : ByteArray) : Bool :=
  decide (op = nm_add) || decide (op = nm_sub) || decide (op = nm_mul) || decide (op = nm_and) || decide (op = nm_or) || decide (op = nm_xor) || decide (op = nm_sll) || decide (op = nm_srl) || decide (op = nm_sra) || decide (op = nm_slt) || decide (op = nm_sltu) || decide (op = nm_divu) || decide (op = nm_remu)
theorem str_ne (s : ByteArray) (l : List UInt8) (h : ¬ s = ⟨l.toArray⟩) : (s.toList == l) = false := by
  rw [ByteArray.toList_eq, beq_eq_false_iff_ne]
  intro e
  apply h
  cases s with | mk d => simp only [ByteArray.mk.injEq]; rw [← e]

end Go.Proofs.YtcmmdeenkfeofaaDoor
