/- Words of the assembler, plain: what a span of bytes tells of digits, of quotes. -/
import Derived.Test.YtcdepfdfemmfhaaDoorLexMath
import Derived.Test.YtcdepfdfemmfhaaDoorLexCls
namespace Go.Proofs.YtcdepfdfemmfhaaDoor
set_option linter.unusedVariables false
set_option linter.unusedSimpArgs false
open Go.RowKit
theorem spanL_stop {p : Int → Bool} : ∀ (l : List UInt8) (h : spanL p l < l.length), p (l[spanL p l]'h).toNat = false
  | [], h => absurd h (by simp)
  | c :: r, h => by
    by_cases d : p c.toNat = true
    · have e : spanL p (c :: r) = spanL p r + 1 := by simp [spanL, d]
      have h' : spanL p r < r.length := by rw [e] at h; simpa using h
      have := spanL_stop r h'
      simp only [e, List.getElem_cons_succ]
      exact this
    · have e : spanL p (c :: r) = 0 := by simp [spanL, d]
      simp only [e, List.getElem_cons_zero]
      simpa using d
theorem spanL_all {p : Int → Bool} : ∀ (l : List UInt8), ∀ c ∈ l.take (spanL p l), p c.toNat = true
  | [], c, h => by simp at h
  | a :: r, c, h => by
    by_cases d : p a.toNat = true
    · have e : spanL p (a :: r) = spanL p r + 1 := by simp [spanL, d]
      rw [e, List.take_succ_cons, List.mem_cons] at h
      rcases h with rfl | h
      · exact d
      · exact spanL_all r c h
    · have e : spanL p (a :: r) = 0 := by simp [spanL, d]
      rw [e] at h; simp at h
/-- Digits of a base: by a span of those. -/
theorem run_span {B : Int} {p : Int → Bool} (hp : ∀ c : Int, p c = true ↔ (0 ≤ lxHex c ∧ lxHex c < B)) : ∀ (l : List UInt8) (n : Int), (numRun B l n).1 = spanL p l ∧ (numRun B (l.take (spanL p l)) n).2 = (numRun B l n).2
  | [], n => ⟨rfl, rfl⟩
  | c :: r, n => by
    by_cases d : p c.toNat = true
    · have e : spanL p (c :: r) = spanL p r + 1 := by simp [spanL, d]
      have h := (hp c.toNat).1 d
      obtain ⟨h1, h2⟩ := run_span hp r (capBig (n * B + lxHex c.toNat))
      rw [e, List.take_succ_cons]
      unfold numRun
      rw [if_pos h, if_pos h]
      exact ⟨by rw [h1], h2⟩
    · have e : spanL p (c :: r) = 0 := by simp [spanL, d]
      have h : ¬ (0 ≤ lxHex c.toNat ∧ lxHex c.toNat < B) := fun h => d ((hp c.toNat).2 h)
      rw [e, List.take_zero]
      unfold numRun
      rw [if_neg h]
      exact ⟨rfl, rfl⟩
theorem dig_ten (c : Int) : lxDigit c = true ↔ (0 ≤ lxHex c ∧ lxHex c < 10) := by
  rw [lxDigit_iff]
  unfold lxHex
  by_cases d : lxDigit c = true
  · rw [if_pos d]; rw [lxDigit_iff] at d; omega
  · rw [if_neg d]; rw [lxDigit_iff] at d; split <;> (try split) <;> omega
theorem hex_six (c : Int) : lxIsHex c = true ↔ (0 ≤ lxHex c ∧ lxHex c < 16) := by
  have := lxHex_lo c
  unfold lxIsHex
  rw [decide_eq_true_iff]; omega
/-- Which bytes a number's digits are. -/
def numP (l : List UInt8) : Int → Bool := if isHexL l = true then lxIsHex else lxDigit
theorem numP_iff (l : List UInt8) (c : Int) : numP l c = true ↔ (0 ≤ lxHex c ∧ lxHex c < numBase l) := by
  unfold numP numBase
  by_cases h : isHexL l = true
  · rw [if_pos h, if_pos h]; exact hex_six c
  · rw [if_neg h, if_neg h]; exact dig_ten c
theorem numLen_span (l : List UInt8) : numLen l = numAt l + spanL (numP l) (l.drop (numAt l)) := by
  unfold numLen; rw [(run_span (numP_iff l) _ _).1]
theorem numVal_span (l : List UInt8) : (numRun (numBase l) ((l.drop (numAt l)).take (numLen l - numAt l)) 0).2 = numVal l := by
  have e : numLen l - numAt l = spanL (numP l) (l.drop (numAt l)) := by rw [numLen_span]; omega
  rw [e, (run_span (numP_iff l) _ _).2]; rfl
theorem num_all (l : List UInt8) : ∀ c ∈ (l.drop (numAt l)).take (numLen l - numAt l), 0 ≤ lxHex c.toNat ∧ lxHex c.toNat < numBase l := by
  intro c hc
  have e : numLen l - numAt l = spanL (numP l) (l.drop (numAt l)) := by rw [numLen_span]; omega
  rw [e] at hc
  exact (numP_iff l _).1 (spanL_all _ c hc)
theorem num_stop (l : List UInt8) (h : numLen l < l.length) : lxDigit (l[numLen l]'h).toNat = false := by
  have e := numLen_span l
  have h' : spanL (numP l) (l.drop (numAt l)) < (l.drop (numAt l)).length := by rw [List.length_drop]; omega
  have hs := spanL_stop _ h'
  have e2 : (l.drop (numAt l))[spanL (numP l) (l.drop (numAt l))]'h' = l[numLen l]'h := by
    rw [List.getElem_drop]; congr 1; omega
  rw [e2] at hs
  cases d : lxDigit (l[numLen l]'h).toNat with
  | false => rfl
  | true =>
    have h2 := (dig_ten _).1 d
    have : numP l (l[numLen l]'h).toNat = true := (numP_iff l _).2 ⟨h2.1, by have := h2.2; unfold numBase; split <;> omega⟩
    rw [this] at hs; cases hs
/-- A quote's end: by a span of what may stand in a text. -/
theorem plain_iff (c : Int) : lxPlain c = true ↔ (32 ≤ c ∧ c ≤ 126 ∧ c ≠ 34) := by simp [lxPlain, and_assoc]
theorem quote_span : ∀ (l : List UInt8), (∀ h : spanL lxPlain l < l.length, ((l[spanL lxPlain l]'h).toNat : Int) = 34 → quoteEnd l = some (spanL lxPlain l)) ∧ ((∀ h : spanL lxPlain l < l.length, ((l[spanL lxPlain l]'h).toNat : Int) ≠ 34) → quoteEnd l = none)
  | [] => ⟨fun h => absurd h (by simp), fun _ => rfl⟩
  | c :: r => by
    obtain ⟨i1, i2⟩ := quote_span r
    by_cases d : lxPlain c.toNat = true
    · have e : spanL lxPlain (c :: r) = spanL lxPlain r + 1 := by simp [spanL, d]
      have hd := (plain_iff c.toNat).1 d
      have q : quoteEnd (c :: r) = (quoteEnd r).map (· + 1) := by
        conv => lhs; unfold quoteEnd
        rw [if_neg hd.2.2, if_neg (by omega)]
      constructor
      · intro h hc
        have h' : spanL lxPlain r < r.length := by rw [e] at h; simpa using h
        simp only [e, List.getElem_cons_succ] at hc
        rw [q, i1 h' hc, e]; rfl
      · intro h
        have : quoteEnd r = none := i2 fun h' hc => h (by rw [e]; simpa using h') (by simp only [e, List.getElem_cons_succ]; exact hc)
        rw [q, this]; rfl
    · have e : spanL lxPlain (c :: r) = 0 := by simp [spanL, d]
      constructor
      · intro h hc
        simp only [e, List.getElem_cons_zero] at hc
        rw [e]; unfold quoteEnd; rw [if_pos hc]
      · intro h
        have hc : (c.toNat : Int) ≠ 34 := by
          have := h (by rw [e]; simp)
          simpa only [e, List.getElem_cons_zero] using this
        have hd : ¬ (32 ≤ (c.toNat : Int) ∧ (c.toNat : Int) ≤ 126 ∧ (c.toNat : Int) ≠ 34) := fun k => d ((plain_iff c.toNat).2 k)
        unfold quoteEnd; rw [if_neg hc, if_pos (by omega)]
end Go.Proofs.YtcdepfdfemmfhaaDoor
