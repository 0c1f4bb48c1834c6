/- Numbers as rows of bytes, the lowest first: plain; no Go in sight. -/
import Derived.Test.YtnnelghngekbpaaDoorCapDef
namespace Go.Proofs.YtnnelghngekbpaaDoor
set_option linter.unusedVariables false
set_option linter.unusedSimpArgs false
open Go.RowKit

def b4 (v : Int) : List Int := [v % 256, v / 256 % 256, v / 65536 % 256, v / 16777216 % 256]
def b2 (v : Int) : List Int := [v % 256, v / 256 % 256]
/-- A capability's sixteen bytes. -/
def putL (b p a m y : Int) : List Int := b4 b ++ (b4 p ++ (b4 a ++ (b2 m ++ b2 y)))
theorem putL_length (b p a m y : Int) : (putL b p a m y).length = 16 := rfl
def IsByte (z : Int) : Prop := 0 ≤ z ∧ z ≤ 255
theorem b4_bytes (v : Int) : ∀ z ∈ b4 v, IsByte z := by
  intro z hz
  simp only [b4, List.mem_cons, List.not_mem_nil, or_false] at hz
  unfold IsByte
  omega
theorem b2_bytes (v : Int) : ∀ z ∈ b2 v, IsByte z := by
  intro z hz
  simp only [b2, List.mem_cons, List.not_mem_nil, or_false] at hz
  unfold IsByte
  omega
/-- Bytes as a number of 32 bits, the lowest first. -/
def leW : List Int → Int
  | [] => 0
  | z :: l => leW l * 256 % 4294967296 + z
theorem leW_in (l : List Int) (h : ∀ z ∈ l, IsByte z) : 0 ≤ leW l ∧ leW l ≤ 4294967295 := by
  induction l with
  | nil => decide
  | cons z l ih =>
    have hz := h z (by simp)
    have := ih fun x hx => h x (by simp [hx])
    unfold IsByte at hz
    unfold leW
    omega
theorem leW_b4 (v : Int) (h : 0 ≤ v ∧ v ≤ 4294967295) : leW (b4 v) = v := by simp only [b4, leW]; omega
theorem leW_b2 (v : Int) (h : 0 ≤ v ∧ v ≤ 65535) : leW (b2 v) = v := by simp only [b2, leW]; omega
theorem b4_leW (a b c d : Int) (ha : IsByte a) (hb : IsByte b) (hc : IsByte c) (hd : IsByte d) : b4 (leW [a, b, c, d]) = [a, b, c, d] := by
  unfold IsByte at ha hb hc hd
  have e : leW [a, b, c, d] = ((d * 256 + c) * 256 + b) * 256 + a := by simp only [leW]; omega
  rw [e]
  simp only [b4, List.cons.injEq, and_true]
  omega
theorem b2_leW (a b : Int) (ha : IsByte a) (hb : IsByte b) : b2 (leW [a, b]) = [a, b] := by
  unfold IsByte at ha hb
  have e : leW [a, b] = b * 256 + a := by simp only [leW]; omega
  rw [e]
  simp only [b2, List.cons.injEq, and_true]
  omega
theorem leW2_in (a b : Int) (ha : IsByte a) (hb : IsByte b) : 0 ≤ leW [a, b] ∧ leW [a, b] ≤ 65535 := by
  unfold IsByte at ha hb
  simp only [leW]; omega
/-- A byte beneath eight noughts. -/
theorem or_byte (x z : Int) (hx : 0 ≤ x ∧ x ≤ 4294967295) (hz : IsByte z) : bits .or .u32 (x * 256 % 4294967296) z = x * 256 % 4294967296 + z := by
  unfold IsByte at hz
  rw [u32_or _ z (by omega) (by omega) (by omega) (by omega)]
  obtain ⟨Z, rfl⟩ := Int.eq_ofNat_of_zero_le hz.1
  obtain ⟨X, rfl⟩ := Int.eq_ofNat_of_zero_le hx.1
  have e : ((X : Int) * 256 % 4294967296).toNat = 2 ^ 8 * (X % 16777216) := by omega
  rw [e, Int.toNat_natCast, ← Nat.two_pow_add_eq_or_of_lt (show Z < 2 ^ 8 by omega)]
  omega
end Go.Proofs.YtnnelghngekbpaaDoor
