/- Words of the assembler, plain: a text and what stands behind it are read apart, where a byte parts them; the same words further on. -/
import Derived.Test.YtcdepfdfemmfhaaDoorLexMath
import Derived.Test.YtcdepfdfemmfhaaDoorEvMath
namespace Go.Proofs.YtcdepfdfemmfhaaDoor
set_option linter.unusedVariables false
set_option linter.unusedSimpArgs false
open Go.RowKit
/-- A byte that ends a word. -/
structure Stops (c : UInt8) : Prop where
  word : lxWord c.toNat = false
  lt : (c.toNat : Int) ≠ 60
  gt : (c.toNat : Int) ≠ 62
theorem Stops.letter {c : UInt8} (h : Stops c) : lxLetter c.toNat = false := by
  have := h.word; simp only [lxWord, Bool.or_eq_false_iff] at this; exact this.1.1
theorem Stops.digit {c : UInt8} (h : Stops c) : lxDigit c.toNat = false := by
  have := h.word; simp only [lxWord, Bool.or_eq_false_iff] at this; exact this.1.2
theorem Stops.small {c : UInt8} (h : Stops c) : lxSmall c.toNat = false := by
  have := h.letter
  simp only [lxLetter, Bool.or_eq_false_iff] at this
  exact this.1.1
theorem Stops.hex {c : UInt8} (h : Stops c) : lxHex c.toNat = -1 := by
  have h1 := h.letter
  have h2 := h.digit
  unfold lxHex
  rw [if_neg (by rw [h2]; decide)]
  simp only [lxLetter, Bool.or_eq_false_iff, Bool.and_eq_false_iff, decide_eq_false_iff_not] at h1
  rw [if_neg (by omega), if_neg (by omega)]
theorem Stops.x {c : UInt8} (h : Stops c) : ¬ (c.toNat : Int) = 120 := by
  have h1 := h.letter
  simp only [lxLetter, Bool.or_eq_false_iff, Bool.and_eq_false_iff, decide_eq_false_iff_not] at h1
  omega
theorem spanL_cat {p : Int → Bool} {c : UInt8} {r : List UInt8} (hc : p c.toNat = false) : ∀ (l : List UInt8), spanL p (l ++ c :: r) = spanL p l
  | [] => by show spanL p (c :: r) = 0; unfold spanL; rw [if_neg (by rw [hc]; decide)]
  | a :: l => by
    show spanL p (a :: (l ++ c :: r)) = spanL p (a :: l)
    unfold spanL
    rw [spanL_cat hc l]
theorem numRun_cat {base : Int} {c : UInt8} {r : List UInt8} (hc : lxHex c.toNat = -1) : ∀ (l : List UInt8) (n : Int), numRun base (l ++ c :: r) n = numRun base l n
  | [], n => by show numRun base (c :: r) n = (0, n); unfold numRun; rw [if_neg (by rw [hc]; omega)]
  | a :: l, n => by
    show numRun base (a :: (l ++ c :: r)) n = numRun base (a :: l) n
    unfold numRun
    rw [numRun_cat hc l]
theorem isHexL_cat {c : UInt8} {r : List UInt8} (hc : Stops c) : ∀ (l : List UInt8), l ≠ [] → isHexL (l ++ c :: r) = isHexL l
  | [], h => absurd rfl h
  | [a], _ => by
    have hx := hc.x
    match r with
    | [] => rfl
    | b :: r =>
      show (((a.toNat : Int) == 48) && ((c.toNat : Int) == 120) && decide (0 ≤ lxHex b.toNat)) = false
      rw [beq_eq_false_iff_ne.2 hx]; simp
  | [a, b], _ => by
    show (((a.toNat : Int) == 48) && ((b.toNat : Int) == 120) && decide (0 ≤ lxHex c.toNat)) = false
    rw [hc.hex]; simp
  | a :: b :: d :: l, _ => rfl
theorem drop_cat {l : List UInt8} {k : Nat} (h : k ≤ l.length) (x : List UInt8) : (l ++ x).drop k = l.drop k ++ x := by
  rw [List.drop_append_of_le_length h]
theorem numAt_le (l : List UInt8) : numAt l ≤ l.length := by
  have := numLen_le l; unfold numLen at this; omega
theorem numLen_cat {c : UInt8} {r : List UInt8} (hc : Stops c) (l : List UInt8) (h : l ≠ []) : numLen (l ++ c :: r) = numLen l ∧ numVal (l ++ c :: r) = numVal l := by
  have h1 : numAt (l ++ c :: r) = numAt l := by unfold numAt; rw [isHexL_cat hc l h]
  have h2 : numBase (l ++ c :: r) = numBase l := by unfold numBase; rw [isHexL_cat hc l h]
  constructor
  · unfold numLen; rw [h1, h2, drop_cat (numAt_le l), numRun_cat hc.hex]
  · unfold numVal; rw [h1, h2, drop_cat (numAt_le l), numRun_cat hc.hex]
theorem numErr_cat {c : UInt8} {r : List UInt8} (hc : Stops c) (l : List UInt8) (h : l ≠ []) : numErr (l ++ c :: r) = numErr l := by
  obtain ⟨h1, h2⟩ := numLen_cat (r := r) hc l h
  have h3 : badNext ((l ++ c :: r).drop (numLen l)) = badNext (l.drop (numLen l)) := by
    rw [drop_cat (numLen_le l)]
    cases hd : l.drop (numLen l) with
    | nil =>
      show (lxLetter c.toNat || lxDigit c.toNat) = false
      rw [hc.letter, hc.digit]; rfl
    | cons a x => rfl
  unfold numErr
  rw [h1, h2, h3]
theorem quoteEnd_cat {x : List UInt8} : ∀ (l : List UInt8) (j : Nat), quoteEnd l = some j → quoteEnd (l ++ x) = some j
  | [], j, h => by simp [quoteEnd] at h
  | c :: l, j, h => by
    show quoteEnd (c :: (l ++ x)) = some j
    unfold quoteEnd at h ⊢
    split at h
    · rename_i hc; rw [if_pos hc]; exact h
    · rename_i hc
      rw [if_neg hc]
      split at h
      · cases h
      · rename_i hd
        rw [if_neg hd]
        simp only [Option.map_eq_some_iff] at h ⊢
        obtain ⟨i, hi, hj⟩ := h
        exact ⟨i, quoteEnd_cat l i hi, hj⟩
theorem take_cat {l : List UInt8} {k : Nat} (h : k ≤ l.length) (x : List UInt8) : (l ++ x).take k = l.take k := List.take_append_of_le_length h
theorem oneL_cat {l : List UInt8} {t : Tok} {k : Nat} {c : UInt8} {r : List UInt8} (hc : Stops c) (h : oneL l = .ok (t, k)) : oneL (l ++ c :: r) = .ok (t, k) := by
  match l, h with
  | a :: l, h =>
    show oneL (a :: (l ++ c :: r)) = _
    have hn : a :: l ≠ [] := by simp
    have e1 : numErr (a :: (l ++ c :: r)) = numErr (a :: l) := numErr_cat hc (a :: l) hn
    obtain ⟨e2, e3⟩ : numLen (a :: (l ++ c :: r)) = numLen (a :: l) ∧ numVal (a :: (l ++ c :: r)) = numVal (a :: l) := numLen_cat hc (a :: l) hn
    have t2 : (a :: (l ++ c :: r)).take (numLen (a :: l)) = (a :: l).take (numLen (a :: l)) := take_cat (numLen_le (a :: l)) (c :: r)
    unfold oneL at h ⊢; dsimp only at h ⊢
    rw [spanL_cat hc.word, spanL_cat hc.small, e1, e2, e3, t2, take_cat (spanL_le lxWord l), take_cat (spanL_le lxSmall l)]
    split at h
    · rename_i q; rw [if_pos q]; exact h
    · rename_i q
      rw [if_neg q]
      split at h
      · rename_i q2; rw [if_pos q2]; exact h
      · rename_i q2
        rw [if_neg q2]
        split at h
        · rename_i q3; rw [if_pos q3]; exact h
        · rename_i q3
          rw [if_neg q3]
          split at h
          · rename_i q4
            rw [if_pos q4]
            split at h
            · cases h
            · rename_i j hj
              simp only [quoteEnd_cat l j hj]
              rw [take_cat (by have := quoteEnd_lt l j hj; omega)]
              exact h
          · rename_i q4
            rw [if_neg q4]
            match l, h with
            | [], h =>
              have hs1 : isShift [a] = false := by simp [isShift]
              rw [if_neg (by rw [hs1]; decide)] at h
              have hs2 : isShift (a :: ([] ++ c :: r)) = false := by
                have n60 : c ≠ 60 := by rintro rfl; exact hc.lt rfl
                have n62 : c ≠ 62 := by rintro rfl; exact hc.gt rfl
                simp [isShift, n60, n62]
              rw [if_neg (by rw [hs2]; decide)]
              exact h
            | b :: l, h =>
              have hs : isShift (a :: (b :: l ++ c :: r)) = isShift (a :: b :: l) := rfl
              rw [hs]
              exact h
/-- A text and what stands behind it. -/
theorem lexL_cat {c : UInt8} {r : List UInt8} (hc : Stops c) : ∀ (n : Nat) (l : List UInt8) (i : Nat) (ts : List Tok), l.length ≤ n → lexL l i = .ok ts → (∀ b ∈ l, (b.toNat : Int) ≠ 59) →
    lexL (l ++ c :: r) i = lexApp ts (lexL (c :: r) (i + l.length)) := by
  intro n
  induction n with
  | zero =>
    intro l i ts hn h _
    obtain rfl := List.length_eq_zero_iff.1 (Nat.le_zero.1 hn)
    cases h
    rw [lexApp_nil]; rfl
  | succ n ih =>
    intro l i ts hn h h59
    match l, hn, h, h59 with
    | [], _, h, _ => cases h; rw [lexApp_nil]; rfl
    | a :: l, hn, h, h59 =>
      simp only [List.length_cons] at hn ⊢
      have h1 : (a.toNat : Int) ≠ 59 := h59 a (by simp)
      by_cases h2 : (a.toNat : Int) = 32 ∨ (a.toNat : Int) = 9
      · rw [lexL_blank i h2] at h
        show lexL (a :: (l ++ c :: r)) i = _
        rw [lexL_blank i h2, ih l (i + 1) ts (by omega) h (fun b hb => h59 b (by simp [hb])), show i + 1 + l.length = i + (l.length + 1) by omega]
      · cases ho : oneL (a :: l) with
        | error e => rw [lexL_err i h1 h2 ho] at h; cases h
        | ok x =>
          obtain ⟨t, k⟩ := x
          have hk := oneL_ok ho
          simp only [List.length_cons] at hk
          rw [lexL_ok i h1 h2 ho] at h
          have ho' : oneL (a :: (l ++ c :: r)) = .ok (t, k) := oneL_cat hc ho
          show lexL (a :: (l ++ c :: r)) i = _
          rw [lexL_ok i h1 h2 ho']
          cases hr : lexL ((a :: l).drop k) (i + k) with
          | error x => rw [hr] at h; cases h
          | ok us =>
            rw [hr] at h
            cases h
            have hd : (a :: (l ++ c :: r)).drop k = (a :: l).drop k ++ c :: r := drop_cat (l := a :: l) (by simp; omega) (c :: r)
            rw [hd, ih _ (i + k) us (by simp; omega) hr (fun b hb => h59 b (List.mem_of_mem_drop hb)), ← lexApp_app]
            congr 2
            simp; omega
/-- The same words, further on. -/
theorem lexL_on : ∀ (n : Nat) (l : List UInt8) (i j : Nat) (ts : List Tok), l.length ≤ n → lexL l i = .ok ts →
    ∃ us, lexL l j = .ok us ∧ us.length = ts.length ∧ ∀ (q : Nat) (t : Tok), ts[q]? = some t → ∃ u : Tok, us[q]? = some u ∧ u.like t := by
  intro n
  induction n with
  | zero =>
    intro l i j ts hn h
    obtain rfl := List.length_eq_zero_iff.1 (Nat.le_zero.1 hn)
    cases h
    exact ⟨[], rfl, rfl, fun q t hq => by simp at hq⟩
  | succ n ih =>
    intro l i j ts hn h
    match l, hn, h with
    | [], _, h => cases h; exact ⟨[], rfl, rfl, fun q t hq => by simp at hq⟩
    | a :: l, hn, h =>
      simp only [List.length_cons] at hn
      by_cases h1 : (a.toNat : Int) = 59
      · rw [lexL_semi i h1] at h; cases h; exact ⟨[], lexL_semi j h1, rfl, fun q t hq => by simp at hq⟩
      · by_cases h2 : (a.toNat : Int) = 32 ∨ (a.toNat : Int) = 9
        · rw [lexL_blank i h2] at h
          obtain ⟨us, h3, h4⟩ := ih l (i + 1) (j + 1) ts (by omega) h
          exact ⟨us, by rw [lexL_blank j h2]; exact h3, h4⟩
        · cases ho : oneL (a :: l) with
          | error e => rw [lexL_err i h1 h2 ho] at h; cases h
          | ok x =>
            obtain ⟨t, k⟩ := x
            have hk := oneL_ok ho
            simp only [List.length_cons] at hk
            rw [lexL_ok i h1 h2 ho] at h
            cases hr : lexL ((a :: l).drop k) (i + k) with
            | error x => rw [hr] at h; cases h
            | ok us =>
              rw [hr] at h
              cases h
              obtain ⟨vs, h3, h4, h5⟩ := ih _ (i + k) (j + k) us (by simp; omega) hr
              refine ⟨[{ t with pl := j }] ++ vs, by rw [lexL_ok j h1 h2 ho, h3]; rfl, by simp [h4], fun q u hq => ?_⟩
              cases q with
              | zero =>
                simp only [List.cons_append, List.nil_append, List.getElem?_cons_zero, Option.some.injEq] at hq ⊢
                subst hq
                exact ⟨_, rfl, rfl, rfl, rfl⟩
              | succ q =>
                simp only [List.cons_append, List.nil_append, List.getElem?_cons_succ] at hq ⊢
                exact h5 q u hq
end Go.Proofs.YtcdepfdfemmfhaaDoor
