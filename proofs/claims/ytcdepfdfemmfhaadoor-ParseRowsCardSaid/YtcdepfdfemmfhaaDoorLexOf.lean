/- The reference's one: the word that a text begins with. -/
import Derived.Test.YtcdepfdfemmfhaaDoorLexQuo
import Derived.Lib.Strings
namespace Go.Proofs.YtcdepfdfemmfhaaDoor
set_option linter.unusedVariables false
set_option linter.unusedSimpArgs false
open Go.RowKit
def tokV (t : Tok) : Value := .agg #[.int .i64 t.kind, .string t.text, .int .i64 t.n, .int .i64 t.pl]
/-- What one answers. -/
def OneR (l : List UInt8) (e : Ending) : Prop := match oneL l with
  | .error x => ∃ t n, e = .returned (.tuple #[tokV t, .int .i64 n, .int .i64 x])
  | .ok (t, k) => e = .returned (.tuple #[tokV t, .int .i64 k, .int .i64 0])
theorem OneR.ok {l : List UInt8} {t : Tok} {k : Nat} (h : oneL l = .ok (t, k)) : OneR l (.returned (.tuple #[tokV t, .int .i64 k, .int .i64 0])) := by unfold OneR; rw [h]
theorem OneR.bad {l : List UInt8} {x : Int} (h : oneL l = .error x) (t : Tok) (n : Int) : OneR l (.returned (.tuple #[tokV t, .int .i64 n, .int .i64 x])) := by unfold OneR; rw [h]; exact ⟨t, n, rfl⟩
theorem ext_take (s : ByteArray) (a b : Nat) : s.extract a b = strL ((s.data.toList.drop a).take (b - a)) := by
  apply ByteArray.ext
  apply Array.ext'
  rw [ByteArray.data_extract, Array.toList_extract]
  simp [strL, List.extract_eq_take_drop]
theorem span_at {p : Int → Bool} (s : ByteArray) (k : Nat) (h : k < s.size) (hp : p (s[k]'h).toNat = true) : spanL p (s.data.toList.drop k) = spanL p (s.data.toList.drop (k + 1)) + 1 := by
  rw [drop_at s k h, spanL, if_pos hp]
theorem span_no {p : Int → Bool} (s : ByteArray) (k : Nat) (h : k < s.size) (hp : p (s[k]'h).toNat = false) : spanL p (s.data.toList.drop k) = 0 := by
  rw [drop_at s k h, spanL, if_neg (by rw [hp]; decide)]
theorem span_end {p : Int → Bool} (s : ByteArray) (k : Nat) (h : s.size ≤ k) : spanL p (s.data.toList.drop k) = 0 := by
  rw [drop_end s k h]; rfl
theorem list_at (s : ByteArray) (h : 0 < s.size) : s.data.toList = s[0] :: s.data.toList.drop 1 := by
  have := drop_at s 0 h
  rwa [List.drop_zero] at this
def zTok : Tok := ⟨0, ⟨#[]⟩, 0, 0⟩
end Go.Proofs.YtcdepfdfemmfhaaDoor
