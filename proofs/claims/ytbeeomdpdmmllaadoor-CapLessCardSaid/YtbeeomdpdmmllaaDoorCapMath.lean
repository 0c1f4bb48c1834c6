/- Plain facts on permissions, bounds, keys: no Go in sight. -/
import Derived.Test.YtbeeomdpdmmllaaDoorCapDef
import Derived.IntWalk
namespace Go.Proofs.YtbeeomdpdmmllaaDoor
set_option linter.unusedVariables false
set_option linter.unusedSimpArgs false
open Go.RowKit

/-- No permission of m that m1 has not. -/
def Within (m m1 : Int) : Prop := ∀ i, m.toNat.testBit i = true → m1.toNat.testBit i = true
theorem within_iff (m m1 : Int) (h : 0 ≤ m ∧ m ≤ 65535) (h1 : 0 ≤ m1 ∧ m1 ≤ 65535) : (bits .andNot .u16 m m1 == 0) = true ↔ Within m m1 := by
  rw [u16_andNot m m1 (by omega) (by omega) (by omega) (by omega), beq_iff_eq]
  have e : (65535 : Nat) - m1.toNat = 2 ^ 16 - (m1.toNat + 1) := by omega
  have hb : ∀ i, (65535 - m1.toNat).testBit i = (decide (i < 16) && !m1.toNat.testBit i) := fun i => by
    rw [e, Nat.testBit_two_pow_sub_succ (by omega)]
  constructor
  · intro h0 i hi
    have hz : m.toNat &&& (65535 - m1.toNat) = 0 := by omega
    have := congrArg (fun n => n.testBit i) hz
    simp only [Nat.testBit_and, hb, Nat.zero_testBit, hi, Bool.true_and] at this
    have hlt : i < 16 := by
      apply Decidable.byContradiction
      intro hge
      rw [Nat.testBit_lt_two_pow (Nat.lt_of_lt_of_le (show m.toNat < 2 ^ 16 by omega) (Nat.pow_le_pow_right (by decide) (by omega)))] at hi
      cases hi
    simpa [hlt] using this
  · intro hw
    have hz : m.toNat &&& (65535 - m1.toNat) = 0 := by
      apply Nat.eq_of_testBit_eq
      intro i
      rw [Nat.testBit_and, hb, Nat.zero_testBit]
      cases hi : m.toNat.testBit i
      · rfl
      · rw [hw i hi]; simp
    omega
theorem Within.refl (m : Int) : Within m m := fun _ h => h
theorem Within.trans {a b c : Int} (h : Within a b) (k : Within b c) : Within a c := fun i hi => k i (h i hi)
theorem Within.antisymm {a b : Int} (ha : 0 ≤ a) (hb : 0 ≤ b) (h : Within a b) (k : Within b a) : a = b := by
  have e : a.toNat = b.toNat := by
    apply Nat.eq_of_testBit_eq
    intro i
    rw [Bool.eq_iff_iff]
    exact ⟨h i, k i⟩
  omega
theorem and_in (m x : Int) (h : 0 ≤ m ∧ m ≤ 65535) (h1 : 0 ≤ x ∧ x ≤ 65535) : 0 ≤ bits .and .u16 m x ∧ bits .and .u16 m x ≤ 65535 := by
  rw [u16_and m x (by omega) (by omega) (by omega) (by omega)]
  have := Nat.and_le_left (n := m.toNat) (m := x.toNat)
  omega
theorem and_nat (m x : Int) (h : 0 ≤ m ∧ m ≤ 65535) (h1 : 0 ≤ x ∧ x ≤ 65535) : (bits .and .u16 m x).toNat = m.toNat &&& x.toNat := by
  rw [u16_and m x (by omega) (by omega) (by omega) (by omega), Int.toNat_natCast]
theorem and_within (m x : Int) (h : 0 ≤ m ∧ m ≤ 65535) (h1 : 0 ≤ x ∧ x ≤ 65535) : Within (bits .and .u16 m x) m := by
  intro i hi
  rw [and_nat m x h h1, Nat.testBit_and, Bool.and_eq_true] at hi
  exact hi.1
theorem and_eq {m x n : Int} (h : 0 ≤ m ∧ m ≤ 65535) (h1 : 0 ≤ x ∧ x ≤ 65535) (hn : 0 ≤ n) (e : m.toNat &&& x.toNat = n.toNat) : bits .and .u16 m x = n := by
  rw [u16_and m x (by omega) (by omega) (by omega) (by omega), e]; omega
theorem and_swap (m x z : Int) (h : 0 ≤ m ∧ m ≤ 65535) (hx : 0 ≤ x ∧ x ≤ 65535) (hz : 0 ≤ z ∧ z ≤ 65535) : bits .and .u16 (bits .and .u16 m z) x = bits .and .u16 (bits .and .u16 m x) z := by
  have a1 := and_in m x h hx
  have a2 := and_in m z h hz
  have a3 := and_in _ z a1 hz
  exact and_eq a2 hx a3.1 (by rw [and_nat _ _ a1 hz, and_nat _ _ h hx, and_nat _ _ h hz, Nat.and_assoc, Nat.and_assoc, Nat.and_comm z.toNat])
theorem and_both (m x z : Int) (h : 0 ≤ m ∧ m ≤ 65535) (hx : 0 ≤ x ∧ x ≤ 65535) (hz : 0 ≤ z ∧ z ≤ 65535) : bits .and .u16 m (bits .and .u16 x z) = bits .and .u16 (bits .and .u16 m x) z := by
  have a1 := and_in m x h hx
  have a2 := and_in x z hx hz
  have a3 := and_in _ z a1 hz
  exact and_eq h a2 a3.1 (by rw [and_nat _ _ a1 hz, and_nat _ _ h hx, and_nat _ _ hx hz, Nat.and_assoc])
theorem and_all (m : Int) (h : 0 ≤ m ∧ m ≤ 65535) : bits .and .u16 m 65535 = m :=
  and_eq h (by decide) h.1 (by rw [show (65535 : Int).toNat = 2 ^ 16 - 1 from rfl, Nat.and_two_pow_sub_one_eq_mod, Nat.mod_eq_of_lt (by omega)])
/-- One bit alone. -/
theorem and_bit (k : Nat) (hk : k < 16) (m : Int) (h : 0 ≤ m ∧ m ≤ 65535) : bits .and .u16 m ((2 ^ k : Nat) : Int) = 0 ∨ bits .and .u16 m ((2 ^ k : Nat) : Int) = ((2 ^ k : Nat) : Int) := by
  have hp : 2 ^ k < 65536 := Nat.pow_lt_pow_right (by decide) hk
  have e : m.toNat &&& 2 ^ k = if m.toNat.testBit k then 2 ^ k else 0 := by
    apply Nat.eq_of_testBit_eq
    intro i
    rw [Nat.testBit_and, Nat.testBit_two_pow]
    by_cases hi : k = i
    · subst hi
      cases ht : m.toNat.testBit k <;> simp
    · cases ht : m.toNat.testBit k <;> simp [hi, Nat.testBit_two_pow]
  obtain ⟨q, hq⟩ : ∃ q : Nat, 2 ^ k = q := ⟨_, rfl⟩
  rw [hq] at hp e ⊢
  rw [u16_and m _ (by omega) (by omega) (by omega) (by omega), Int.toNat_natCast, e]
  split
  · exact .inr rfl
  · exact .inl rfl

theorem sub_iff (b p m b1 p1 m1 : Int) (h : 0 ≤ m ∧ m ≤ 65535) (h1 : 0 ≤ m1 ∧ m1 ≤ 65535) : subB b p m b1 p1 m1 = true ↔ b1 ≤ b ∧ p ≤ p1 ∧ Within m m1 := by
  unfold subB
  rw [Bool.and_eq_true, Bool.and_eq_true, within_iff m m1 h h1, decide_eq_true_eq, decide_eq_true_eq, and_assoc]
theorem sub_same (b p m : Int) (h : 0 ≤ m ∧ m ≤ 65535) : subB b p m b p m = true := (sub_iff _ _ _ _ _ _ h h).2 ⟨Int.le_refl _, Int.le_refl _, Within.refl _⟩
theorem tagOpen_iff {t : Bool} {y : Int} : tagOpen t y = true ↔ t = true ∧ y = 0 := by simp [tagOpen]
theorem tagBounds_iff {t : Bool} {b p a y n : Int} : tagBounds t b p a y n = true ↔ t = true ∧ (b ≤ a ∧ a + n ≤ p) ∧ y = 0 := by simp [tagBounds, hasB, and_assoc]
theorem tagOpen_twice (t : Bool) (y : Int) : tagOpen (tagOpen t y) y = tagOpen t y := by
  rw [Bool.eq_iff_iff, tagOpen_iff, tagOpen_iff]; constructor
  · rintro ⟨⟨a, b⟩, _⟩; exact ⟨a, b⟩
  · rintro ⟨a, b⟩; exact ⟨⟨a, b⟩, b⟩
theorem sealTy_in (y : Int) (tk : Bool) (bk pk ak mk yk : Int) (hy : 0 ≤ y ∧ y ≤ 65535) : 0 ≤ sealTy y tk bk pk ak mk yk ∧ sealTy y tk bk pk ak mk yk ≤ 65535 := by
  unfold sealTy
  split
  · rename_i h
    simp only [sealOk, Bool.and_eq_true, decide_eq_true_eq] at h
    omega
  · exact hy
end Go.Proofs.YtbeeomdpdmmllaaDoor
