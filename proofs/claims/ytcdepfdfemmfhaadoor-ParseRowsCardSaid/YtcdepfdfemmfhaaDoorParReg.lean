/- The reference's Reg: one name c0 to c15. -/
import Derived.Test.YtcdepfdfemmfhaaDoorParIs
import Derived.Test.YtcdepfdfemmfhaaDoorDec
import Derived.Test.YtcdepfdfemmfhaaDoorGBase
namespace Go.Proofs.YtcdepfdfemmfhaaDoor
set_option linter.unusedVariables false
set_option linter.unusedSimpArgs false
open Go.RowKit
theorem cName_dec (i : Nat) (h : i < 16) : (⟨#[99]⟩ : ByteArray) ++ ⟨(Lib.decDigits i).toArray⟩ = cName i := by
  unfold cName
  by_cases h10 : i < 10
  · rw [dec_last i h10, if_pos h10]; rfl
  · rw [dec_step i (by omega), dec_last (i / 10) (by omega), if_neg h10]
    have e1 : digB (i / 10) = 49 := by rw [show i / 10 = 1 by omega]; rfl
    have e2 : i % 10 = i - 10 := by omega
    rw [e1, e2]; rfl
/-- What Reg answers. -/
def regV (o : Option Nat) : Value := match o with
  | none => .tuple #[.int .i64 0, .bool false]
  | some r => .tuple #[.int .i64 r, .bool true]
theorem regFrom_lt {s : ByteArray} : ∀ (n i r : Nat), regFrom s n i = some r → r < i + n
  | 0, i, r, h => by cases h
  | n + 1, i, r, h => by
    unfold regFrom at h
    split at h
    · cases h; omega
    · have := regFrom_lt n (i + 1) r h; omega
theorem regL_lt {l : List Tok} {r : Nat} (h : regL l = some r) : r < 16 := by
  unfold regL at h
  split at h
  · split at h
    · have := regFrom_lt 16 0 r h; omega
    · cases h
  · cases h
end Go.Proofs.YtcdepfdfemmfhaaDoor
