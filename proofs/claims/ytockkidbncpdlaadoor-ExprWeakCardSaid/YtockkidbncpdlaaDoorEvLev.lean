/- The reference's level: a chain of signs, given what is read at the stronger level. -/
import Derived.Test.YtockkidbncpdlaaDoorEvUn
namespace Go.Proofs.YtockkidbncpdlaaDoor
set_option linter.unusedVariables false
set_option linter.unusedSimpArgs false
open Go.RowKit
def atOf (b : Nat) (w : World) : Nat := match w.cell? ⟨b, 1, none⟩ with
  | some (.int _ a) => a.toNat
  | _ => 0
theorem Rdr.Ok.atOf {r : Rdr} {w : World} {p : Nat} (h : r.Ok w p) : atOf r.b w = p := by
  unfold Go.Proofs.YtockkidbncpdlaaDoor.atOf
  rw [Box.cells h]
  rfl
/-- What is left of a chain. -/
def ChM (r : Rdr) (v : Value) (w : World) : Nat := match v with
  | .string s => if s.size = 0 then 0 else r.toks.length + 1 - atOf r.b w
  | _ => 0
theorem ChM_end (r : Rdr) (w : World) : ChM r (.string ⟨#[]⟩) w = 0 := rfl
theorem lvS_in {k : Nat} {s : ByteArray} (h : inS (lvS k) s = true) : s = sBar ∨ s = sHat ∨ s = sAmp ∨ s = sShl ∨ s = sShr ∨ s = sAdd ∨ s = sSub ∨ s = sMul := by
  match k, h with
  | 0, h => simp [lvS, inS] at h; exact .inl h.symm
  | 1, h => simp [lvS, inS] at h; exact .inr (.inl h.symm)
  | 2, h => simp [lvS, inS] at h; exact .inr (.inr (.inl h.symm))
  | 3, h =>
    simp [lvS, inS] at h
    rcases h with h | h
    · exact .inr (.inr (.inr (.inl h.symm)))
    · exact .inr (.inr (.inr (.inr (.inl h.symm))))
  | 4, h =>
    simp [lvS, inS] at h
    rcases h with h | h
    · exact .inr (.inr (.inr (.inr (.inr (.inl h.symm)))))
    · exact .inr (.inr (.inr (.inr (.inr (.inr (.inl h.symm))))))
  | 5, h => simp [lvS, inS] at h; exact .inr (.inr (.inr (.inr (.inr (.inr (.inr h.symm))))))
  | (n + 6), h => simp [lvS, inS] at h
theorem sign_size {s : ByteArray} (h : s = sBar ∨ s = sHat ∨ s = sAmp ∨ s = sShl ∨ s = sShr ∨ s = sAdd ∨ s = sSub ∨ s = sMul) : 0 < s.size := by
  rcases h with rfl | rfl | rfl | rfl | rfl | rfl | rfl | rfl <;> decide
theorem ediv_pow_in {a : Int} (h : InB a) (n : Nat) : InB (a / 2 ^ n) := by
  have p : (0 : Int) < 2 ^ n := Int.pow_pos (by decide)
  obtain ⟨h0, h1⟩ := h
  have e := Int.emod_add_mul_ediv a (2 ^ n)
  have m0 := Int.emod_nonneg a (Int.ne_of_gt p)
  constructor
  · by_cases hn : 0 ≤ a
    · have := Int.ediv_nonneg hn (Int.le_of_lt p); omega
    · have : a ≤ a / 2 ^ n := by
        rw [Int.le_ediv_iff_mul_le p]
        have : a * 2 ^ n ≤ a * 1 := Int.mul_le_mul_of_nonpos_left (by omega) (by omega)
        omega
      omega
  · by_cases hn : 0 ≤ a
    · have := Int.ediv_le_self (2 ^ n) hn; omega
    · have := Int.ediv_neg_of_neg_of_pos (by omega : a < 0) p; omega
theorem timesE_in {a b x : Int} (h : timesE a b = some x) : InB x := by
  unfold timesE at h
  split at h
  · cases h; exact InB.zero
  · rename_i hz
    split at h
    · cases h
    · rename_i ho
      cases h
      have hb : 0 < absI b := by unfold absI; split <;> omega
      have ha : 0 < absI a := by unfold absI; split <;> omega
      have := pos_mul ha hb ho
      have e : absI a * absI b = a * b ∨ absI a * absI b = -(a * b) := by
        unfold absI
        split <;> split
        · left; rw [Int.zero_sub, Int.zero_sub, Int.neg_mul_neg]
        · right; rw [Int.zero_sub, Int.neg_mul]
        · right; rw [Int.zero_sub, Int.mul_neg]
        · left; rfl
      unfold InB
      rcases e with e | e <;> omega
theorem joinE_in {s : ByteArray} {a b x : Int} (ha : InB a) (h : joinE s a b = some x) : InB x := by
  unfold joinE at h
  split at h
  · exact (boundE_in h).2
  · split at h
    · exact (boundE_in h).2
    · split at h
      · exact (boundE_in h).2
      · split at h
        · exact (boundE_in h).2
        · split at h
          · exact (boundE_in h).2
          · split at h
            · exact timesE_in h
            · split at h
              · cases h
              · split at h
                · cases h; exact ediv_pow_in ha _
                · exact timesE_in h
/-- What holds at each round of a chain. -/
def ChRel (r : Rdr) (k at_ d : Nat) (w : World) (lv v8 v9 : Value) (wr : World) : Prop :=
  KeepBut (fun z => z = r.b) w wr ∧ LvIn wr lv ∧
  ((∃ (n : Int) (p : Nat), v8 = .int .i64 n ∧ InB n ∧ at_ ≤ p ∧ p ≤ r.toks.length ∧ v9 = .string ((signAt r.toks p (lvS k)).getD ⟨#[]⟩) ∧ r.Ok wr p ∧ ∀ res, Ev r.toks r.names (.chain k n p) d res → Ev r.toks r.names (.lev k at_) d res) ∨
   (∃ (v : Int) (p : Nat) (e : Int), v8 = .int .i64 v ∧ InB v ∧ v9 = .string ⟨#[]⟩ ∧ r.Bad wr p e ∧ Ev r.toks r.names (.lev k at_) d (.bad p e)))
end Go.Proofs.YtockkidbncpdlaaDoor
