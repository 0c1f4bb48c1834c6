/- The reference's quoted: a text in quotes. -/
import Derived.Test.YtcdepfdfemmfhaaDoorLexNum
namespace Go.Proofs.YtcdepfdfemmfhaaDoor
set_option linter.unusedVariables false
set_option linter.unusedSimpArgs false
open Go.RowKit
/-- What quoted answers. -/
def quoV (r : List UInt8) : Int := match quoteEnd r with
  | none => -1
  | some j => (j : Int) + 2
/-- From place k on nothing else is asked. -/
def QuoInv (s : ByteArray) (k : Nat) (R : Int) : Prop := R = match quoteEnd (s.data.toList.drop k) with
  | none => -1
  | some j => (j : Int) + k + 1
theorem QuoInv.start (s : ByteArray) (c : UInt8) (r : List UInt8) (hs : s.data.toList = c :: r) : QuoInv s 1 (quoV r) := by
  unfold QuoInv quoV
  rw [hs]
  show _ = match quoteEnd r with | none => -1 | some j => (j : Int) + 1 + 1
  cases quoteEnd r <;> simp; omega
theorem QuoInv.over {s : ByteArray} {k : Nat} {R : Int} (h : QuoInv s k R) (hk : s.size ≤ k) : R = -1 := by
  unfold QuoInv at h; rw [drop_end s k hk] at h; exact h
theorem QuoInv.hit {s : ByteArray} {k : Nat} {R : Int} (h : QuoInv s k R) (hk : k < s.size) (hc : ((s[k]'hk).toNat : Int) = 34) : R = (k : Int) + 1 := by
  unfold QuoInv at h; rw [drop_at s k hk] at h; unfold quoteEnd at h; rw [if_pos hc] at h; simpa using h
theorem QuoInv.bad {s : ByteArray} {k : Nat} {R : Int} (h : QuoInv s k R) (hk : k < s.size) (hc : ¬ ((s[k]'hk).toNat : Int) = 34) (hd : ((s[k]'hk).toNat : Int) < 32 ∨ ((s[k]'hk).toNat : Int) > 126) : R = -1 := by
  unfold QuoInv at h; rw [drop_at s k hk] at h; unfold quoteEnd at h; rw [if_neg hc, if_pos hd] at h; exact h
theorem QuoInv.next {s : ByteArray} {k : Nat} {R : Int} (h : QuoInv s k R) (hk : k < s.size) (hc : ¬ ((s[k]'hk).toNat : Int) = 34) (hd : ¬ (((s[k]'hk).toNat : Int) < 32 ∨ ((s[k]'hk).toNat : Int) > 126)) : QuoInv s (k + 1) R := by
  unfold QuoInv at h ⊢; rw [drop_at s k hk] at h; unfold quoteEnd at h; rw [if_neg hc, if_neg hd] at h
  rw [h]
  cases quoteEnd (s.data.toList.drop (k + 1)) <;> simp; omega
end Go.Proofs.YtcdepfdfemmfhaaDoor
