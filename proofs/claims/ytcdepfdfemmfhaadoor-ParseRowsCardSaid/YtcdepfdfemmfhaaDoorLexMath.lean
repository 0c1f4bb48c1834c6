/- Words of the assembler, plain: each word takes a byte at least; the equations of all words from a place on. -/
import Derived.Test.YtcdepfdfemmfhaaDoorLexTab
namespace Go.Proofs.YtcdepfdfemmfhaaDoor
set_option linter.unusedVariables false
set_option linter.unusedSimpArgs false
open Go.RowKit
theorem numLen_pos (c : UInt8) (r : List UInt8) (hd : lxDigit c.toNat = true) : 1 ≤ numLen (c :: r) := by
  unfold numLen numAt numBase
  by_cases h : isHexL (c :: r) = true
  · simp only [if_pos h]; omega
  · simp only [if_neg h, List.drop_zero]
    have hx : lxHex c.toNat = (c.toNat : Int) - 48 := by unfold lxHex; rw [if_pos hd]
    have hb : 48 ≤ (c.toNat : Int) ∧ (c.toNat : Int) ≤ 57 := by simpa [lxDigit] using hd
    unfold numRun
    rw [hx, if_pos (by omega)]
    simp
/-- What is known of any word. -/
structure TokOk (t : Tok) : Prop where
  lo : 0 ≤ t.n
  hi : t.n < lxBig
  k1 : 1 ≤ t.kind
  k5 : t.kind ≤ 5
theorem oneL_ok {l : List UInt8} {t : Tok} {k : Nat} (h : oneL l = .ok (t, k)) : 1 ≤ k ∧ k ≤ l.length ∧ TokOk t ∧ t.text.size ≤ l.length := by
  match l, h with
  | c :: r, h =>
    unfold oneL at h; dsimp only at h
    have z : (0 : Int) ≤ 0 ∧ (0 : Int) < lxBig := by decide
    split at h
    · split at h
      · cases h
      · cases h
        have := spanL_le lxWord r
        exact ⟨by omega, by simpa using this, ⟨z.1, z.2, by simp, by simp⟩, by simp [strL, ByteArray.size]; omega⟩
    · split at h
      · rename_i hd
        split at h
        · rename_i he
          cases h
          have hl := numLen_le (c :: r)
          have hv := numVal_bd (c :: r)
          have hv2 : numVal (c :: r) < lxBig := by
            unfold numErr at he
            split at he
            · cases he
            · split at he
              · cases he
              · omega
          exact ⟨numLen_pos c r hd, hl, ⟨hv.1, hv2, by simp, by simp⟩, by simp [strL, ByteArray.size]; omega⟩
        · cases h
      · split at h
        · split at h
          · cases h
          · cases h
            have := spanL_le lxSmall r
            exact ⟨by omega, by simpa using this, ⟨z.1, z.2, by simp, by simp⟩, by simp [strL, ByteArray.size]; omega⟩
        · split at h
          · split at h
            · cases h
            · rename_i j hj
              cases h
              have := quoteEnd_lt r j hj
              exact ⟨by omega, by simp; omega, ⟨z.1, z.2, by simp, by simp⟩, by simp [strL, ByteArray.size]; omega⟩
          · split at h
            · rename_i hs
              cases h
              have h2 : 2 ≤ (c :: r).length := by
                have h4 : ((c :: r).take 2).length = 2 := by
                  simp only [isShift, Bool.or_eq_true, decide_eq_true_eq] at hs
                  rcases hs with hs | hs <;> rw [hs] <;> rfl
                rw [List.length_take] at h4
                omega
              exact ⟨by decide, h2, ⟨z.1, z.2, by simp, by simp⟩, by simp [strL, ByteArray.size]; omega⟩
            · split at h
              · cases h
                exact ⟨Nat.le_refl _, by simp, ⟨z.1, z.2, by simp, by simp⟩, by simp [strL, ByteArray.size]⟩
              · cases h
theorem oneL_err {l : List UInt8} {e : Int} (h : oneL l = .error e) : e = 11 ∨ e = 14 ∨ e = 15 := by
  match l, h with
  | [], h => cases h; exact .inl rfl
  | c :: r, h =>
    unfold oneL at h; dsimp only at h
    split at h
    · split at h
      · cases h; exact .inr (.inr rfl)
      · cases h
    · split at h
      · split at h
        · cases h
        · rename_i he
          cases h
          unfold numErr at he ⊢
          split
          · exact .inl rfl
          · rename_i h1
            rw [if_neg h1] at he
            split
            · exact .inr (.inl rfl)
            · rename_i h2
              rw [if_neg h2] at he
              exact absurd rfl he
      · split at h
        · split at h
          · cases h; exact .inl rfl
          · cases h
        · split at h
          · split at h
            · cases h; exact .inl rfl
            · cases h
          · split at h
            · cases h
            · split at h
              · cases h
              · cases h; exact .inl rfl
theorem lexF_fuel : ∀ (n f : Nat) (l : List UInt8) (i : Nat), l.length ≤ n → l.length ≤ f → lexF f l i = lexF l.length l i := by
  intro n
  induction n with
  | zero =>
    intro f l i hn hf
    obtain rfl := List.length_eq_zero_iff.1 (Nat.le_zero.1 hn)
    cases f <;> rfl
  | succ n ih =>
    intro f l i hn hf
    match l, hn, hf with
    | [], _, _ => cases f <;> rfl
    | c :: r, hn, hf =>
      simp only [List.length_cons] at hn hf
      obtain ⟨f, rfl⟩ : ∃ g, f = g + 1 := ⟨f - 1, by omega⟩
      show lexF (f + 1) (c :: r) i = lexF (r.length + 1) (c :: r) i
      unfold lexF
      split
      · rfl
      · split
        · rw [ih f r _ (by omega) (by omega)]
        · cases ho : oneL (c :: r) with
          | error e => rfl
          | ok x =>
            obtain ⟨t, k⟩ := x
            have hk := oneL_ok ho
            simp only [List.length_cons] at hk
            have hl : ((c :: r).drop k).length ≤ r.length := by simp; omega
            show (match lexF f ((c :: r).drop k) (i + k) with | .error x => _ | .ok ts => _) = (match lexF r.length ((c :: r).drop k) (i + k) with | .error x => _ | .ok ts => _)
            rw [ih f _ _ (by omega) (by omega), ih r.length _ _ (by omega) hl]
theorem lexL_nil (i : Nat) : lexL [] i = .ok [] := rfl
theorem lexL_semi {c : UInt8} {r : List UInt8} (i : Nat) (h : (c.toNat : Int) = 59) : lexL (c :: r) i = .ok [] := by
  show lexF (r.length + 1) (c :: r) i = _
  unfold lexF; rw [if_pos h]
theorem lexL_blank {c : UInt8} {r : List UInt8} (i : Nat) (h : (c.toNat : Int) = 32 ∨ (c.toNat : Int) = 9) : lexL (c :: r) i = lexL r (i + 1) := by
  show lexF (r.length + 1) (c :: r) i = _
  unfold lexF; rw [if_neg (by omega), if_pos h]; rfl
theorem lexL_err {c : UInt8} {r : List UInt8} (i : Nat) (h1 : (c.toNat : Int) ≠ 59) (h2 : ¬ ((c.toNat : Int) = 32 ∨ (c.toNat : Int) = 9)) {e : Int} (h : oneL (c :: r) = .error e) : lexL (c :: r) i = .error (i, e) := by
  show lexF (r.length + 1) (c :: r) i = _
  unfold lexF; rw [if_neg h1, if_neg h2, h]
/-- Words put ahead. -/
def lexApp (d : List Tok) : Except (Nat × Int) (List Tok) → Except (Nat × Int) (List Tok)
  | .error x => .error x
  | .ok ts => .ok (d ++ ts)
theorem lexApp_nil (x : Except (Nat × Int) (List Tok)) : lexApp [] x = x := by cases x <;> rfl
theorem lexApp_app (a b : List Tok) (x : Except (Nat × Int) (List Tok)) : lexApp (a ++ b) x = lexApp a (lexApp b x) := by cases x <;> simp [lexApp]
theorem lexL_ok {c : UInt8} {r : List UInt8} (i : Nat) (h1 : (c.toNat : Int) ≠ 59) (h2 : ¬ ((c.toNat : Int) = 32 ∨ (c.toNat : Int) = 9)) {t : Tok} {k : Nat} (h : oneL (c :: r) = .ok (t, k)) :
    lexL (c :: r) i = lexApp [{ t with pl := i }] (lexL ((c :: r).drop k) (i + k)) := by
  have hk := oneL_ok h
  simp only [List.length_cons] at hk
  show lexF (r.length + 1) (c :: r) i = _
  conv => lhs; unfold lexF
  rw [if_neg h1, if_neg h2, h]
  simp only
  rw [lexF_fuel r.length r.length _ _ (by simp; omega) (by simp; omega)]
  show _ = lexApp _ (lexF ((c :: r).drop k).length ((c :: r).drop k) (i + k))
  cases lexF ((c :: r).drop k).length ((c :: r).drop k) (i + k) <;> rfl
/-- What is known of all words of a text. -/
theorem lexL_toks : ∀ (n : Nat) (l : List UInt8) (i : Nat) (ts : List Tok), l.length ≤ n → lexL l i = .ok ts → (∀ t ∈ ts, TokOk t ∧ t.text.size ≤ l.length) ∧ ts.length ≤ l.length := by
  intro n
  induction n with
  | zero =>
    intro l i ts hn h
    obtain rfl := List.length_eq_zero_iff.1 (Nat.le_zero.1 hn)
    cases h
    exact ⟨fun t ht => by simp at ht, Nat.le_refl _⟩
  | succ n ih =>
    intro l i ts hn h
    match l, hn, h with
    | [], _, h => cases h; exact ⟨fun t ht => by simp at ht, Nat.le_refl _⟩
    | c :: r, hn, h =>
      simp only [List.length_cons] at hn
      by_cases h1 : (c.toNat : Int) = 59
      · rw [lexL_semi i h1] at h; cases h; exact ⟨fun t ht => by simp at ht, Nat.zero_le _⟩
      · by_cases h2 : (c.toNat : Int) = 32 ∨ (c.toNat : Int) = 9
        · rw [lexL_blank i h2] at h
          obtain ⟨a, b⟩ := ih r _ ts (by omega) h
          exact ⟨fun t ht => ⟨(a t ht).1, by have := (a t ht).2; simp; omega⟩, by simp; omega⟩
        · cases ho : oneL (c :: r) with
          | error e => rw [lexL_err i h1 h2 ho] at h; cases h
          | ok x =>
            obtain ⟨t, k⟩ := x
            have hk := oneL_ok ho
            simp only [List.length_cons] at hk
            rw [lexL_ok i h1 h2 ho] at h
            cases hr : lexL ((c :: r).drop k) (i + k) with
            | error x => rw [hr] at h; cases h
            | ok us =>
              rw [hr] at h
              cases h
              obtain ⟨a, b⟩ := ih _ _ us (by simp; omega) hr
              simp only [List.length_drop, List.length_cons] at a b
              refine ⟨fun u hu => ?_, by simp; omega⟩
              simp only [List.cons_append, List.nil_append, List.mem_cons] at hu
              rcases hu with rfl | hu
              · exact ⟨⟨hk.2.2.1.lo, hk.2.2.1.hi, hk.2.2.1.k1, hk.2.2.1.k5⟩, by simpa using hk.2.2.2⟩
              · exact ⟨(a u hu).1, by have := (a u hu).2; simp; omega⟩
/-- What may be wrong. -/
theorem lexL_bad : ∀ (n : Nat) (l : List UInt8) (i j : Nat) (x : Int), l.length ≤ n → lexL l i = .error (j, x) → x = 11 ∨ x = 14 ∨ x = 15 := by
  intro n
  induction n with
  | zero =>
    intro l i j x hn h
    obtain rfl := List.length_eq_zero_iff.1 (Nat.le_zero.1 hn)
    cases h
  | succ n ih =>
    intro l i j x hn h
    match l, hn, h with
    | [], _, h => cases h
    | c :: r, hn, h =>
      simp only [List.length_cons] at hn
      by_cases h1 : (c.toNat : Int) = 59
      · rw [lexL_semi i h1] at h; cases h
      · by_cases h2 : (c.toNat : Int) = 32 ∨ (c.toNat : Int) = 9
        · rw [lexL_blank i h2] at h
          exact ih r _ _ _ (by omega) h
        · cases ho : oneL (c :: r) with
          | error e => rw [lexL_err i h1 h2 ho] at h; cases h; exact oneL_err ho
          | ok y =>
            obtain ⟨t, k⟩ := y
            have hk := oneL_ok ho
            simp only [List.length_cons] at hk
            rw [lexL_ok i h1 h2 ho] at h
            cases hr : lexL ((c :: r).drop k) (i + k) with
            | error z =>
              rw [hr] at h
              cases h
              exact ih _ _ _ _ (by simp; omega) hr
            | ok us => rw [hr] at h; cases h
end Go.Proofs.YtcdepfdfemmfhaaDoor
