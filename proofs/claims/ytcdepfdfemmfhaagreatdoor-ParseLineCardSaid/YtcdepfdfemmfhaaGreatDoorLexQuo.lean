/- The reference's quoted: a text in quotes. -/
import Derived.Test.YtcdepfdfemmfhaaGreatDoorLexNum
namespace Go.Proofs.YtcdepfdfemmfhaaGreatDoor
set_option linter.unusedVariables false
set_option linter.unusedSimpArgs false
open Go.RowKit
/-- What quoted answers. -/
def quoV (r : List UInt8) : Int := match quoteEnd r with
  | none => -1
  | some j => (j : Int) + 2
/-- From place k on nothing else is asked. -/
def QuoInv (s : ByteArray) (k : Nat) (R : Int) : Prop := R = match quoteEnd (s.data.toList.drop k) with
  | none => -1
  | some j => (j : Int) + k + 1
theorem QuoInv.start (s : ByteArray) (c : UInt8) (r : List UInt8) (hs : s.data.toList = c :: r) : QuoInv s 1 (quoV r) := by
  unfold QuoInv quoV
  rw [hs]
  show _ = match quoteEnd r with | none => -1 | some j => (j : Int) + 1 + 1
  cases quoteEnd r <;> simp; omega
theorem QuoInv.over {s : ByteArray} {k : Nat} {R : Int} (h : QuoInv s k R) (hk : s.size ≤ k) : R = -1 := by
  unfold QuoInv at h; rw [drop_end s k hk] at h; exact h
theorem QuoInv.hit {s : ByteArray} {k : Nat} {R : Int} (h : QuoInv s k R) (hk : k < s.size) (hc : ((s[k]'hk).toNat : Int) = 34) : R = (k : Int) + 1 := by
  unfold QuoInv at h; rw [drop_at s k hk] at h; unfold quoteEnd at h; rw [if_pos hc] at h; simpa using h
theorem QuoInv.bad {s : ByteArray} {k : Nat} {R : Int} (h : QuoInv s k R) (hk : k < s.size) (hc : ¬ ((s[k]'hk).toNat : Int) = 34) (hd : ((s[k]'hk).toNat : Int) < 32 ∨ ((s[k]'hk).toNat : Int) > 126) : R = -1 := by
  unfold QuoInv at h; rw [drop_at s k hk] at h; unfold quoteEnd at h; rw [if_neg hc, if_pos hd] at h; exact h
theorem QuoInv.next {s : ByteArray} {k : Nat} {R : Int} (h : QuoInv s k R) (hk : k < s.size) (hc : ¬ ((s[k]'hk).toNat : Int) = 34) (hd : ¬ (((s[k]'hk).toNat : Int) < 32 ∨ ((s[k]'hk).toNat : Int) > 126)) : QuoInv s (k + 1) R := by
  unfold QuoInv at h ⊢; rw [drop_at s k hk] at h; unfold quoteEnd at h; rw [if_neg hc, if_neg hd] at h
  rw [h]
  cases quoteEnd (s.data.toList.drop (k + 1)) <;> simp; omega
set_option maxHeartbeats 1000000 in
theorem rquoted_any (s : ByteArray) (c : UInt8) (r : List UInt8) (hl : s.data.toList = c :: r) (hs : s.size ≤ 140737488355328) (w : World) : Calls Tryz.prog 52 #[.string s] w fun e w' => e = .returned (.int .i64 (quoV r)) ∧ w = w' := by
  have HI := Lib.hid (QuoInv.start s c r hl)
  obtain ⟨R, hR⟩ : ∃ R, R = quoV r := ⟨_, rfl⟩
  rw [← hR] at HI ⊢
  have s0 : 1 ≤ s.size := by
    have : s.data.toList.length = s.size := by simp
    rw [hl] at this; simp at this; omega
  clear hR hl
  go_enter Tryz.func52, Tryz.ntmps52
  go_wp2_with fail
  go_loop [3] (fun i => ∃ (k : Nat), k ≤ s.size ∧ i = .int .i64 (k : Int) ∧ QuoInv s k R) (fun i => s.size - (intOf i).toNat)
  case atStart => exact ⟨1, by omega, rfl, HI.out⟩
  case round =>
    obtain ⟨k, hk, rfl, hi⟩ := hrel
    have HN := Lib.hid hi
    clear hi
    by_cases h : k < s.size
    · obtain ⟨b0, b1⟩ := byte_bd (s[k]'h)
      by_cases q : ((s[k]'h).toNat : Int) = 34
      · obtain rfl := HN.out.hit h q
        go_wp2_with fail
        go_ret
        exact ⟨rfl, rfl⟩
      · have q' : (((s[k]'h).toNat : Int) == 34) = false := beq_eq_false_iff_ne.2 q
        by_cases lo : ((s[k]'h).toNat : Int) < 32
        · obtain rfl := HN.out.bad h q (.inl lo)
          go_wp2_with fail
          go_ret
          exact ⟨rfl, rfl⟩
        · by_cases hi : 126 < ((s[k]'h).toNat : Int)
          · obtain rfl := HN.out.bad h q (.inr hi)
            go_wp2_with fail
            go_ret
            exact ⟨rfl, rfl⟩
          · have HS := Lib.hid (HN.out.next h q (by omega))
            have hi' : decide (126 < ((s[k]'h).toNat : Int)) = false := decide_eq_false hi
            clear q
            go_wp2_with fail
            go_round
            case rel => exact ⟨k + 1, h, by go_num, HS.out⟩
            case measure => simp [intOf]; omega
    · obtain rfl := HN.out.over (by omega)
      go_wp2_with fail
      go_ret
      exact ⟨rfl, rfl⟩
end Go.Proofs.YtcdepfdfemmfhaaGreatDoor
