/- Words of the assembler, plain: what P1201 says of any text, by lists of bytes; no Go in sight. -/
import Derived.Test.YtahnbeoacdnhjaaDoorGBase
namespace Go.Proofs.YtahnbeoacdnhjaaDoor
set_option linter.unusedVariables false
set_option linter.unusedSimpArgs false
open Go.RowKit
/-- A word: its kind, its text, its number, where it begins. -/
structure Tok where
  kind : Int
  text : ByteArray
  n : Int
  pl : Int
def tokRow (t : Tok) : List Value := [.int .i64 t.kind, .string t.text, .int .i64 t.n, .int .i64 t.pl]
def tokRows (l : List Tok) : List Value := l.flatMap tokRow
theorem tokRows_length (l : List Tok) : (tokRows l).length = l.length * 4 := by
  induction l with
  | nil => rfl
  | cons t l ih => simp only [tokRows, List.flatMap_cons, List.length_append, List.length_cons] at ih ⊢; rw [ih]; simp [tokRow]; omega
theorem tokRows_append (a b : List Tok) : tokRows (a ++ b) = tokRows a ++ tokRows b := by simp [tokRows]
theorem tokRows_row (l : List Tok) (i j : Nat) (hj : j < 4) : ∀ t, l[i]? = some t → (tokRows l)[i * 4 + j]? = (tokRow t)[j]? := by
  induction l generalizing i with
  | nil => intro t h; simp at h
  | cons a l ih =>
    intro t h
    have hl : (tokRow a).length = 4 := rfl
    cases i with
    | zero =>
      simp only [List.getElem?_cons_zero, Option.some.injEq] at h
      subst h
      simp only [tokRows, List.flatMap_cons]
      rw [List.getElem?_append_left (by omega)]
      simp
    | succ i =>
      simp only [List.getElem?_cons_succ] at h
      have := ih i t h
      simp only [tokRows, List.flatMap_cons] at this ⊢
      rw [List.getElem?_append_right (by omega), ← this]
      congr 1
      omega
def lxBig : Int := 1099511627776
def lxLetter (c : Int) : Bool := (decide (97 ≤ c) && decide (c ≤ 122)) || (decide (65 ≤ c) && decide (c ≤ 90)) || (c == 95)
def lxDigit (c : Int) : Bool := decide (48 ≤ c) && decide (c ≤ 57)
def lxHex (c : Int) : Int := if lxDigit c = true then c - 48 else if 97 ≤ c ∧ c ≤ 102 then c - 87 else if 65 ≤ c ∧ c ≤ 70 then c - 55 else -1
theorem lxHex_lo (c : Int) : -1 ≤ lxHex c ∧ lxHex c ≤ 15 := by
  unfold lxHex lxDigit
  by_cases h : (decide (48 ≤ c) && decide (c ≤ 57)) = true
  · rw [if_pos h]; simp at h; omega
  · rw [if_neg h]; split <;> (try split) <;> omega
def lxWord (c : Int) : Bool := lxLetter c || lxDigit c || (c == 46)
def lxSmall (c : Int) : Bool := decide (97 ≤ c) && decide (c ≤ 122)
/-- How many bytes from the first on are such. -/
def spanL (p : Int → Bool) : List UInt8 → Nat
  | [] => 0
  | c :: r => if p c.toNat = true then spanL p r + 1 else 0
theorem spanL_le (p : Int → Bool) (l : List UInt8) : spanL p l ≤ l.length := by
  induction l with
  | nil => exact Nat.le_refl _
  | cons c r ih => unfold spanL; split <;> simp <;> omega
def capBig (m : Int) : Int := if m > lxBig then lxBig else m
/-- Digits of a base: how many, their value, cut at the bound. -/
def numRun (base : Int) : List UInt8 → Int → Nat × Int
  | [], n => (0, n)
  | c :: r, n => if 0 ≤ lxHex c.toNat ∧ lxHex c.toNat < base then ((numRun base r (capBig (n * base + lxHex c.toNat))).1 + 1, (numRun base r (capBig (n * base + lxHex c.toNat))).2) else (0, n)
theorem capBig_bd (m : Int) (h : 0 ≤ m) : 0 ≤ capBig m ∧ capBig m ≤ lxBig := by unfold capBig lxBig; split <;> omega
theorem numRun_le (base : Int) : ∀ (l : List UInt8) (n : Int), (numRun base l n).1 ≤ l.length
  | [], n => Nat.le_refl _
  | c :: r, n => by
    unfold numRun
    split
    · have := numRun_le base r (capBig (n * base + lxHex c.toNat)); simp; omega
    · simp
theorem numRun_bd (base : Int) (hb : 0 ≤ base) : ∀ (l : List UInt8) (n : Int), 0 ≤ n → n ≤ lxBig → 0 ≤ (numRun base l n).2 ∧ (numRun base l n).2 ≤ lxBig
  | [], n, h0, h1 => ⟨h0, h1⟩
  | c :: r, n, h0, h1 => by
    unfold numRun
    split
    · rename_i h
      have hm := Int.mul_nonneg h0 hb
      have := capBig_bd (n * base + lxHex c.toNat) (by omega)
      exact numRun_bd base hb r _ this.1 this.2
    · exact ⟨h0, h1⟩
def isHexL : List UInt8 → Bool
  | a :: b :: c :: _ => ((a.toNat : Int) == 48) && ((b.toNat : Int) == 120) && decide (0 ≤ lxHex c.toNat)
  | _ => false
def badNext : List UInt8 → Bool
  | [] => false
  | c :: _ => lxLetter c.toNat || lxDigit c.toNat
def numAt (l : List UInt8) : Nat := if isHexL l = true then 2 else 0
def numBase (l : List UInt8) : Int := if isHexL l = true then 16 else 10
def numLen (l : List UInt8) : Nat := numAt l + (numRun (numBase l) (l.drop (numAt l)) 0).1
def numVal (l : List UInt8) : Int := (numRun (numBase l) (l.drop (numAt l)) 0).2
def numErr (l : List UInt8) : Int := if badNext (l.drop (numLen l)) = true then 11 else if lxBig ≤ numVal l then 14 else 0
theorem numLen_le (l : List UInt8) : numLen l ≤ l.length := by
  unfold numLen numAt
  have h1 := numRun_le (numBase l) (l.drop (if isHexL l = true then 2 else 0)) 0
  by_cases h : isHexL l = true
  · have h2 : 3 ≤ l.length := by
      match l, h with
      | a :: b :: c :: r, _ => simp
    simp only [if_pos h] at h1 ⊢
    simp at h1 ⊢; omega
  · simp only [if_neg h] at h1 ⊢
    simpa using h1
theorem numVal_bd (l : List UInt8) : 0 ≤ numVal l ∧ numVal l ≤ lxBig := by
  unfold numVal
  exact numRun_bd _ (by unfold numBase; split <;> decide) _ _ (by decide) (by decide)
/-- Behind an opening quote: where the closing one is. -/
def quoteEnd : List UInt8 → Option Nat
  | [] => none
  | c :: r => if (c.toNat : Int) = 34 then some 0 else if (c.toNat : Int) < 32 ∨ (c.toNat : Int) > 126 then none else (quoteEnd r).map (· + 1)
theorem quoteEnd_lt : ∀ (l : List UInt8) (j : Nat), quoteEnd l = some j → j < l.length
  | [], j, h => by simp [quoteEnd] at h
  | c :: r, j, h => by
    unfold quoteEnd at h
    split at h
    · simp at h; subst h; simp
    · split at h
      · cases h
      · simp only [Option.map_eq_some_iff] at h
        obtain ⟨i, hi, rfl⟩ := h
        have := quoteEnd_lt r i hi
        simp; omega
def strL (l : List UInt8) : ByteArray := ⟨l.toArray⟩
def lxSigns : List Int := [40, 41, 44, 58, 43, 45, 42, 38, 124, 94, 126]
def isShift (l : List UInt8) : Bool := decide (l.take 2 = [60, 60]) || decide (l.take 2 = [62, 62])
/-- The word that a text begins with, how long it is there; or what is wrong. -/
def oneL : List UInt8 → Except Int (Tok × Nat)
  | [] => .error 11
  | c :: r =>
    if lxLetter c.toNat = true then
      (if 16 < spanL lxWord r + 1 then .error 15 else .ok (⟨1, strL (c :: r.take (spanL lxWord r)), 0, 0⟩, spanL lxWord r + 1))
    else if lxDigit c.toNat = true then
      (if numErr (c :: r) = 0 then .ok (⟨2, strL ((c :: r).take (numLen (c :: r))), numVal (c :: r), 0⟩, numLen (c :: r)) else .error (numErr (c :: r)))
    else if (c.toNat : Int) = 46 then
      (if spanL lxSmall r = 0 then .error 11 else .ok (⟨4, strL (r.take (spanL lxSmall r)), 0, 0⟩, spanL lxSmall r + 1))
    else if (c.toNat : Int) = 34 then
      (match quoteEnd r with
       | none => .error 11
       | some j => .ok (⟨5, strL (r.take j), 0, 0⟩, j + 2))
    else if isShift (c :: r) = true then .ok (⟨3, strL ((c :: r).take 2), 0, 0⟩, 2)
    else if (c.toNat : Int) ∈ lxSigns then .ok (⟨3, strL [c], 0, 0⟩, 1)
    else .error 11
/-- All words from a place on; fuel: as many as there are bytes serve. -/
def lexF : Nat → List UInt8 → Nat → Except (Nat × Int) (List Tok)
  | 0, _, _ => .ok []
  | _ + 1, [], _ => .ok []
  | f + 1, c :: r, i =>
    if (c.toNat : Int) = 59 then .ok [] else
    if (c.toNat : Int) = 32 ∨ (c.toNat : Int) = 9 then lexF f r (i + 1) else
    match oneL (c :: r) with
    | .error e => .error (i, e)
    | .ok (t, k) =>
      match lexF f ((c :: r).drop k) (i + k) with
      | .error x => .error x
      | .ok ts => .ok ({ t with pl := i } :: ts)
def lexL (l : List UInt8) (i : Nat) : Except (Nat × Int) (List Tok) := lexF l.length l i
end Go.Proofs.YtahnbeoacdnhjaaDoor
