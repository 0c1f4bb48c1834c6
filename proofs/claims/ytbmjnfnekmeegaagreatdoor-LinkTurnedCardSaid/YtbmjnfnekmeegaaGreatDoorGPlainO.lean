/- LexTab, ObjTab, ObjMath, ObjOk: Words of the assembler, plain: what P1201 says of any text, by lists of bytes; no Go in sight. -/
import Derived.Test.YtbmjnfnekmeegaaGreatDoorGBase
/- Words of the assembler, plain: what P1201 says of any text, by lists of bytes; no Go in sight. -/
namespace Go.Proofs.YtbmjnfnekmeegaaGreatDoor
set_option linter.unusedVariables false
set_option linter.unusedSimpArgs false
open Go.RowKit
/-- A word: its kind, its text, its number, where it begins. -/
structure Tok where
  kind : Int
  text : ByteArray
  n : Int
  pl : Int
def tokRow (t : Tok) : List Value := [.int .i64 t.kind, .string t.text, .int .i64 t.n, .int .i64 t.pl]
def tokRows (l : List Tok) : List Value := l.flatMap tokRow
theorem tokRows_length (l : List Tok) : (tokRows l).length = l.length * 4 := by
  induction l with
  | nil => rfl
  | cons t l ih => simp only [tokRows, List.flatMap_cons, List.length_append, List.length_cons] at ih ⊢; rw [ih]; simp [tokRow]; omega
theorem tokRows_append (a b : List Tok) : tokRows (a ++ b) = tokRows a ++ tokRows b := by simp [tokRows]
theorem tokRows_row (l : List Tok) (i j : Nat) (hj : j < 4) : ∀ t, l[i]? = some t → (tokRows l)[i * 4 + j]? = (tokRow t)[j]? := by
  induction l generalizing i with
  | nil => intro t h; simp at h
  | cons a l ih =>
    intro t h
    have hl : (tokRow a).length = 4 := rfl
    cases i with
    | zero =>
      simp only [List.getElem?_cons_zero, Option.some.injEq] at h
      subst h
      simp only [tokRows, List.flatMap_cons]
      rw [List.getElem?_append_left (by omega)]
      simp
    | succ i =>
      simp only [List.getElem?_cons_succ] at h
      have := ih i t h
      simp only [tokRows, List.flatMap_cons] at this ⊢
      rw [List.getElem?_append_right (by omega), ← this]
      congr 1
      omega
def lxBig : Int := 1099511627776
def lxLetter (c : Int) : Bool := (decide (97 ≤ c) && decide (c ≤ 122)) || (decide (65 ≤ c) && decide (c ≤ 90)) || (c == 95)
def lxDigit (c : Int) : Bool := decide (48 ≤ c) && decide (c ≤ 57)
def lxHex (c : Int) : Int := if lxDigit c = true then c - 48 else if 97 ≤ c ∧ c ≤ 102 then c - 87 else if 65 ≤ c ∧ c ≤ 70 then c - 55 else -1
theorem lxHex_lo (c : Int) : -1 ≤ lxHex c ∧ lxHex c ≤ 15 := by
  unfold lxHex lxDigit
  by_cases h : (decide (48 ≤ c) && decide (c ≤ 57)) = true
  · rw [if_pos h]; simp at h; omega
  · rw [if_neg h]; split <;> (try split) <;> omega
def lxWord (c : Int) : Bool := lxLetter c || lxDigit c || (c == 46)
def lxSmall (c : Int) : Bool := decide (97 ≤ c) && decide (c ≤ 122)
/-- How many bytes from the first on are such. -/
def spanL (p : Int → Bool) : List UInt8 → Nat
  | [] => 0
  | c :: r => if p c.toNat = true then spanL p r + 1 else 0
theorem spanL_le (p : Int → Bool) (l : List UInt8) : spanL p l ≤ l.length := by
  induction l with
  | nil => exact Nat.le_refl _
  | cons c r ih => unfold spanL; split <;> simp <;> omega
def capBig (m : Int) : Int := if m > lxBig then lxBig else m
/-- Digits of a base: how many, their value, cut at the bound. -/
def numRun (base : Int) : List UInt8 → Int → Nat × Int
  | [], n => (0, n)
  | c :: r, n => if 0 ≤ lxHex c.toNat ∧ lxHex c.toNat < base then ((numRun base r (capBig (n * base + lxHex c.toNat))).1 + 1, (numRun base r (capBig (n * base + lxHex c.toNat))).2) else (0, n)
theorem capBig_bd (m : Int) (h : 0 ≤ m) : 0 ≤ capBig m ∧ capBig m ≤ lxBig := by unfold capBig lxBig; split <;> omega
theorem numRun_le (base : Int) : ∀ (l : List UInt8) (n : Int), (numRun base l n).1 ≤ l.length
  | [], n => Nat.le_refl _
  | c :: r, n => by
    unfold numRun
    split
    · have := numRun_le base r (capBig (n * base + lxHex c.toNat)); simp; omega
    · simp
theorem numRun_bd (base : Int) (hb : 0 ≤ base) : ∀ (l : List UInt8) (n : Int), 0 ≤ n → n ≤ lxBig → 0 ≤ (numRun base l n).2 ∧ (numRun base l n).2 ≤ lxBig
  | [], n, h0, h1 => ⟨h0, h1⟩
  | c :: r, n, h0, h1 => by
    unfold numRun
    split
    · rename_i h
      have hm := Int.mul_nonneg h0 hb
      have := capBig_bd (n * base + lxHex c.toNat) (by omega)
      exact numRun_bd base hb r _ this.1 this.2
    · exact ⟨h0, h1⟩
def isHexL : List UInt8 → Bool
  | a :: b :: c :: _ => ((a.toNat : Int) == 48) && ((b.toNat : Int) == 120) && decide (0 ≤ lxHex c.toNat)
  | _ => false
def badNext : List UInt8 → Bool
  | [] => false
  | c :: _ => lxLetter c.toNat || lxDigit c.toNat
def numAt (l : List UInt8) : Nat := if isHexL l = true then 2 else 0
def numBase (l : List UInt8) : Int := if isHexL l = true then 16 else 10
def numLen (l : List UInt8) : Nat := numAt l + (numRun (numBase l) (l.drop (numAt l)) 0).1
def numVal (l : List UInt8) : Int := (numRun (numBase l) (l.drop (numAt l)) 0).2
def numErr (l : List UInt8) : Int := if badNext (l.drop (numLen l)) = true then 11 else if lxBig ≤ numVal l then 14 else 0
theorem numLen_le (l : List UInt8) : numLen l ≤ l.length := by
  unfold numLen numAt
  have h1 := numRun_le (numBase l) (l.drop (if isHexL l = true then 2 else 0)) 0
  by_cases h : isHexL l = true
  · have h2 : 3 ≤ l.length := by
      match l, h with
      | a :: b :: c :: r, _ => simp
    simp only [if_pos h] at h1 ⊢
    simp at h1 ⊢; omega
  · simp only [if_neg h] at h1 ⊢
    simpa using h1
theorem numVal_bd (l : List UInt8) : 0 ≤ numVal l ∧ numVal l ≤ lxBig := by
  unfold numVal
  exact numRun_bd _ (by unfold numBase; split <;> decide) _ _ (by decide) (by decide)
/-- Behind an opening quote: where the closing one is. -/
def quoteEnd : List UInt8 → Option Nat
  | [] => none
  | c :: r => if (c.toNat : Int) = 34 then some 0 else if (c.toNat : Int) < 32 ∨ (c.toNat : Int) > 126 then none else (quoteEnd r).map (· + 1)
theorem quoteEnd_lt : ∀ (l : List UInt8) (j : Nat), quoteEnd l = some j → j < l.length
  | [], j, h => by simp [quoteEnd] at h
  | c :: r, j, h => by
    unfold quoteEnd at h
    split at h
    · simp at h; subst h; simp
    · split at h
      · cases h
      · simp only [Option.map_eq_some_iff] at h
        obtain ⟨i, hi, rfl⟩ := h
        have := quoteEnd_lt r i hi
        simp; omega
def strL (l : List UInt8) : ByteArray := ⟨l.toArray⟩
def lxSigns : List Int := [40, 41, 44, 58, 43, 45, 42, 38, 124, 94, 126]
def isShift (l : List UInt8) : Bool := decide (l.take 2 = [60, 60]) || decide (l.take 2 = [62, 62])
/-- The word that a text begins with, how long it is there; or what is wrong. -/
def oneL : List UInt8 → Except Int (Tok × Nat)
  | [] => .error 11
  | c :: r =>
    if lxLetter c.toNat = true then
      (if 16 < spanL lxWord r + 1 then .error 15 else .ok (⟨1, strL (c :: r.take (spanL lxWord r)), 0, 0⟩, spanL lxWord r + 1))
    else if lxDigit c.toNat = true then
      (if numErr (c :: r) = 0 then .ok (⟨2, strL ((c :: r).take (numLen (c :: r))), numVal (c :: r), 0⟩, numLen (c :: r)) else .error (numErr (c :: r)))
    else if (c.toNat : Int) = 46 then
      (if spanL lxSmall r = 0 then .error 11 else .ok (⟨4, strL (r.take (spanL lxSmall r)), 0, 0⟩, spanL lxSmall r + 1))
    else if (c.toNat : Int) = 34 then
      (match quoteEnd r with
       | none => .error 11
       | some j => .ok (⟨5, strL (r.take j), 0, 0⟩, j + 2))
    else if isShift (c :: r) = true then .ok (⟨3, strL ((c :: r).take 2), 0, 0⟩, 2)
    else if (c.toNat : Int) ∈ lxSigns then .ok (⟨3, strL [c], 0, 0⟩, 1)
    else .error 11
/-- All words from a place on; fuel: as many as there are bytes serve. -/
def lexF : Nat → List UInt8 → Nat → Except (Nat × Int) (List Tok)
  | 0, _, _ => .ok []
  | _ + 1, [], _ => .ok []
  | f + 1, c :: r, i =>
    if (c.toNat : Int) = 59 then .ok [] else
    if (c.toNat : Int) = 32 ∨ (c.toNat : Int) = 9 then lexF f r (i + 1) else
    match oneL (c :: r) with
    | .error e => .error (i, e)
    | .ok (t, k) =>
      match lexF f ((c :: r).drop k) (i + k) with
      | .error x => .error x
      | .ok ts => .ok ({ t with pl := i } :: ts)
def lexL (l : List UInt8) (i : Nat) : Except (Nat × Int) (List Tok) := lexF l.length l i
end Go.Proofs.YtbmjnfnekmeegaaGreatDoor

/- Objects, plain: what P1501 says of any object, of any bytes. -/
namespace Go.Proofs.YtbmjnfnekmeegaaGreatDoor
set_option linter.unusedVariables false
set_option linter.unusedSimpArgs false
open Go.RowKit
structure SymV where
  name : ByteArray
  data : Bool
  off : Int
  exp : Bool
structure RelV where
  kind : Int
  off : Int
  comp : ByteArray
  name : ByteArray
  perm : Int
structure ObjV where
  name : ByteArray
  code : List Nat
  data : List Nat
  syms : List SymV
  rels : List RelV
/-- Part, place, error; of none the error is 0. -/
abbrev WrV := ByteArray × Int × Int
def okW : WrV := (⟨#[]⟩, 0, 0)
def nameT : ByteArray := ⟨#[110, 97, 109, 101]⟩
def codeT : ByteArray := ⟨#[99, 111, 100, 101]⟩
def dataT : ByteArray := ⟨#[100, 97, 116, 97]⟩
def symsT : ByteArray := ⟨#[115, 121, 109, 115]⟩
def symT : ByteArray := ⟨#[115, 121, 109]⟩
def relsT : ByteArray := ⟨#[114, 101, 108, 115]⟩
def relT : ByteArray := ⟨#[114, 101, 108]⟩
def byteT : ByteArray := ⟨#[98, 121, 116, 101]⟩
/-- A Name's letters and digits. -/
def goodC (c : UInt8) : Bool := lxLetter c.toNat || lxDigit c.toNat
def goodL (l : List UInt8) : Bool := match l with
  | [] => false
  | c :: r => !lxDigit c.toNat && decide (r.length < 16) && (c :: r).all goodC
def goodB (s : ByteArray) : Bool := goodL s.data.toList
/-- By bytes: is the first below the second? -/
def bytesLt (a b : ByteArray) : Bool := Op.bytesLess a.toList b.toList
def findS (l : List SymV) (n : ByteArray) : Option SymV := match l with
  | [] => none
  | s :: r => if s.name = n then some s else findS r n
def secL (o : ObjV) (d : Bool) : Nat := if d = true then o.data.length else o.code.length
def symE (o : ObjV) (i : Nat) : Int := match o.syms[i]? with
  | none => 0
  | some s =>
    if goodB s.name = false then 12 else
    if (match i with
      | 0 => false
      | j + 1 => match o.syms[j]? with
        | none => false
        | some p => !bytesLt p.name s.name) = true then 13 else
    if s.off > secL o s.data then 6 else
    if (s.exp && s.data) = true then 17 else
    if (s.exp && decide (s.off % 4 ≠ 0)) = true then 5 else
    if (s.exp && decide (s.off = secL o s.data)) = true then 6 else 0
/-- The permissions that a section lets one have. -/
def mostP (d : Bool) : Int := if d = true then 27 else 13
def relE (o : ObjV) (i : Nat) : Int := match o.rels[i]? with
  | none => 0
  | some r =>
    if r.kind < 1 ∨ 3 < r.kind then 17 else
    if (match i with
      | 0 => false
      | j + 1 => match o.rels[j]? with
        | none => false
        | some p => decide (r.off ≤ p.off)) = true then 13 else
    if r.off % 16 ≠ 0 then 5 else
    if r.off + 16 > o.data.length then 6 else
    if r.kind = 1 then
      match findS o.syms r.name with
      | none => 12
      | some s => if r.comp ≠ ⟨#[]⟩ then 17 else if bits .andNot .u16 r.perm (mostP s.data) ≠ 0 then 3 else 0
    else if r.kind = 2 then (if (!goodB r.comp || !goodB r.name) = true then 12 else if r.perm ≠ 0 then 17 else 0)
    else (if goodB r.name = false then 12 else if r.comp ≠ ⟨#[]⟩ ∨ r.perm ≠ 0 then 17 else 0)
/-- The first place of n from i on that has an error. -/
def firstE (f : Nat → Int) : Nat → Nat → Option (Nat × Int)
  | 0, _ => none
  | n + 1, i => if f i = 0 then firstE f n (i + 1) else some (i, f i)
def objW (o : ObjV) : WrV :=
  if goodB o.name = false then (nameT, 0, 12) else
  if o.code.length > 16384 then (codeT, o.code.length, 15) else
  if o.code.length % 4 ≠ 0 then (codeT, o.code.length, 5) else
  if o.data.length > 16384 then (dataT, o.data.length, 15) else
  if o.data.length % 16 ≠ 0 then (dataT, o.data.length, 5) else
  if o.syms.length > 256 then (symsT, o.syms.length, 15) else
  match firstE (symE o) o.syms.length 0 with
  | some (i, e) => (symT, i, e)
  | none =>
    if o.rels.length > 256 then (relsT, o.rels.length, 15) else
    match firstE (relE o) o.rels.length 0 with
    | some (i, e) => (relT, i, e)
    | none => okW
/-! ### In bytes -/
def strB (s : ByteArray) : List Nat := s.size :: s.data.toList.map UInt8.toNat
def num4 (n : Nat) : List Nat := [n % 256, n / 256 % 256, n / 65536 % 256, n / 16777216 % 256]
def flagB (s : SymV) : Nat := (if s.data = true then 1 else 0) + (if s.exp = true then 2 else 0)
def symB (s : SymV) : List Nat := strB s.name ++ flagB s :: num4 s.off.toNat
def relB (r : RelV) : List Nat := r.kind.toNat :: (num4 r.off.toNat ++ (strB r.comp ++ (strB r.name ++ num4 r.perm.toNat)))
def hobj : List Nat := [72, 79, 66, 74]
def encL (o : ObjV) : List Nat :=
  hobj ++ (strB o.name ++ (num4 o.code.length ++ (o.code ++ (num4 o.data.length ++ (o.data ++ (num4 o.syms.length ++ (o.syms.flatMap symB ++ (num4 o.rels.length ++ o.rels.flatMap relB))))))))
/-! ### And back: what is read from a place of some bytes on -/
abbrev Rd (α : Type) := Except (Int × Int) (α × Nat)
def takeR (l : List Nat) (n at_ : Nat) : Rd (List Nat) := if at_ + n ≤ l.length then .ok ((l.drop at_).take n, at_ + n) else .error (l.length, 16)
def thenR {α β : Type} (x : Rd α) (f : α → Nat → Rd β) : Rd β := match x with
  | .error e => .error e
  | .ok (a, p) => f a p
def headR (l : List Nat) (h : List Nat) (at_ : Nat) : Rd Unit := thenR (takeR l 4 at_) fun b p => if b = h then .ok ((), p) else .error (0, 11)
def byteR (l : List Nat) (at_ : Nat) : Rd Nat := thenR (takeR l 1 at_) fun b p => .ok (b.getD 0 0, p)
def word4 (b : List Nat) : Nat := b.getD 0 0 + b.getD 1 0 * 256 + b.getD 2 0 * 65536 + b.getD 3 0 * 16777216
def numR (l : List Nat) (at_ : Nat) : Rd Nat := thenR (takeR l 4 at_) fun b p => .ok (word4 b, p)
def strR (l : List Nat) (at_ : Nat) : Rd ByteArray := thenR (byteR l at_) fun n p => thenR (takeR l n p) fun b q => .ok (⟨(b.map UInt8.ofNat).toArray⟩, q)
def mostR (l : List Nat) (most : Nat) (e : Int) (at_ : Nat) : Rd Nat := thenR (numR l at_) fun n p => if n > most then .error (at_, e) else .ok (n, p)
def uptoR (l : List Nat) (least most : Nat) (at_ : Nat) : Rd Nat := thenR (byteR l at_) fun n p => if n < least ∨ most < n then .error (at_, 11) else .ok (n, p)
def symR (l : List Nat) (at_ : Nat) : Rd SymV := thenR (strR l at_) fun s p => thenR (uptoR l 0 3 p) fun f p => thenR (numR l p) fun o p => .ok (⟨s, decide (f % 2 = 1), o, decide (f / 2 % 2 = 1)⟩, p)
def relR (l : List Nat) (at_ : Nat) : Rd RelV := thenR (uptoR l 1 3 at_) fun k p => thenR (numR l p) fun o p => thenR (strR l p) fun c p => thenR (strR l p) fun n p => thenR (mostR l 65535 11 p) fun m p => .ok (⟨k, o, c, n, m⟩, p)
/-- So many of them. -/
def manyR {α : Type} (f : Nat → Rd α) : Nat → Nat → Rd (List α)
  | 0, at_ => .ok ([], at_)
  | n + 1, at_ => thenR (f at_) fun x p => thenR (manyR f n p) fun r q => .ok (x :: r, q)
def objR (l : List Nat) : Rd ObjV :=
  thenR (headR l hobj 0) fun _ p => thenR (strR l p) fun name p => thenR (mostR l 16384 15 p) fun n p => thenR (takeR l n p) fun code p =>
  thenR (mostR l 16384 15 p) fun n p => thenR (takeR l n p) fun data p => thenR (mostR l 256 15 p) fun n p => thenR (manyR (symR l) n p) fun syms p =>
  thenR (mostR l 256 15 p) fun n p => thenR (manyR (relR l) n p) fun rels p => .ok (⟨name, code, data, syms, rels⟩, p)
/-- What Decode says: an object, or the first that is wrong. -/
def decL (l : List Nat) : Except WrV ObjV := match objR l with
  | .error (at_, e) => .error (byteT, at_, e)
  | .ok (o, p) => if p < l.length then .error (byteT, p, 11) else if (objW o).2.2 = 0 then .ok o else .error (objW o)
end Go.Proofs.YtbmjnfnekmeegaaGreatDoor

/- Objects, plain: one in bytes is read back to the end; what is read goes on alike with more behind; so no cut is one, nor one with a byte more. -/
namespace Go.Proofs.YtbmjnfnekmeegaaGreatDoor
set_option linter.unusedVariables false
set_option linter.unusedSimpArgs false
open Go.RowKit
/-- What is read of some bytes is read with more behind. -/
def Mono {α : Type} (f : List Nat → Nat → Rd α) : Prop := ∀ (l x : List Nat) (at_ : Nat) (v : α) (p : Nat), f l at_ = .ok (v, p) → f (l ++ x) at_ = .ok (v, p)
theorem take_mono (n : Nat) : Mono fun l at_ => takeR l n at_ := by
  intro l x at_ v p h
  simp only [takeR] at h ⊢
  split at h
  · rename_i hn
    rw [if_pos (by rw [List.length_append]; omega)]
    simp only [Except.ok.injEq, Prod.mk.injEq] at h
    obtain ⟨rfl, rfl⟩ := h
    simp only [Except.ok.injEq, Prod.mk.injEq, and_true]
    rw [List.drop_append_of_le_length (by omega), List.take_append_of_le_length (by rw [List.length_drop]; omega)]
  · cases h
theorem then_ok {α β : Type} {x : Rd α} {f : α → Nat → Rd β} {v : β} {p : Nat} (h : thenR x f = .ok (v, p)) : ∃ a q, x = .ok (a, q) ∧ f a q = .ok (v, p) := by
  unfold thenR at h
  split at h
  · cases h
  · exact ⟨_, _, rfl, h⟩
theorem then_eq {α β : Type} {x : Rd α} {f : α → Nat → Rd β} {a : α} {q : Nat} (h : x = .ok (a, q)) : thenR x f = f a q := by subst h; rfl
theorem then_mono {α β : Type} {f : List Nat → Nat → Rd α} {g : List Nat → α → Nat → Rd β} (hf : Mono f) (hg : ∀ a, Mono fun l p => g l a p) : Mono fun l at_ => thenR (f l at_) (g l) := by
  intro l x at_ v p h
  obtain ⟨a, q, h1, h2⟩ := then_ok h
  simp only
  rw [then_eq (hf l x at_ a q h1)]
  exact hg a l x q v p h2
theorem ok_mono {α : Type} (v : α) : Mono fun _ p => (.ok (v, p) : Rd α) := fun _ _ _ _ _ h => h
theorem if_mono {α : Type} (c : Prop) [Decidable c] (e : Int × Int) {f : List Nat → Nat → Rd α} (hf : Mono f) : Mono fun l p => if c then .error e else f l p := by
  intro l x at_ v p h
  simp only at h ⊢
  split at h
  · cases h
  · rename_i hc
    rw [if_neg hc]
    exact hf l x at_ v p h
theorem head_mono (h : List Nat) : Mono fun l at_ => headR l h at_ :=
  then_mono (take_mono 4) fun b l x at_ v p hh => by
    simp only at hh ⊢
    split at hh
    · rename_i hc; rw [if_pos hc]; exact hh
    · cases hh
theorem byte_mono : Mono byteR := then_mono (take_mono 1) fun b => ok_mono _
theorem num_mono : Mono numR := then_mono (take_mono 4) fun b => ok_mono _
theorem str_mono : Mono strR := then_mono byte_mono fun n => then_mono (take_mono n) fun b => ok_mono _
theorem most_mono (m : Nat) (e : Int) : Mono fun l at_ => mostR l m e at_ := by
  intro l x at_ v p h
  simp only [mostR] at h ⊢
  obtain ⟨a, q, h1, h2⟩ := then_ok h
  rw [then_eq (num_mono l x at_ a q h1)]
  split at h2
  · cases h2
  · rename_i hc; rw [if_neg hc]; exact h2
theorem upto_mono (a b : Nat) : Mono fun l at_ => uptoR l a b at_ := by
  intro l x at_ v p h
  simp only [uptoR] at h ⊢
  obtain ⟨n, q, h1, h2⟩ := then_ok h
  rw [then_eq (byte_mono l x at_ n q h1)]
  split at h2
  · cases h2
  · rename_i hc; rw [if_neg hc]; exact h2
theorem sym_mono : Mono symR := then_mono str_mono fun _ => then_mono (upto_mono 0 3) fun _ => then_mono num_mono fun _ => ok_mono _
theorem rel_mono : Mono relR := then_mono (upto_mono 1 3) fun _ => then_mono num_mono fun _ => then_mono str_mono fun _ => then_mono str_mono fun _ => then_mono (most_mono 65535 11) fun _ => ok_mono _
theorem many_mono {α : Type} {f : List Nat → Nat → Rd α} (hf : Mono f) : ∀ (n : Nat), Mono fun l at_ => manyR (f l) n at_
  | 0 => fun _ _ _ _ _ h => h
  | n + 1 => then_mono hf fun _ => then_mono (many_mono hf n) fun _ => ok_mono _
theorem obj_mono : Mono fun l (_ : Nat) => objR l := by
  have h : Mono fun l (at_ : Nat) => thenR (headR l hobj at_) fun _ p => thenR (strR l p) fun name p => thenR (mostR l 16384 15 p) fun n p => thenR (takeR l n p) fun code p =>
      thenR (mostR l 16384 15 p) fun n p => thenR (takeR l n p) fun data p => thenR (mostR l 256 15 p) fun n p => thenR (manyR (symR l) n p) fun syms p =>
      thenR (mostR l 256 15 p) fun n p => thenR (manyR (relR l) n p) fun rels p => (.ok ((⟨name, code, data, syms, rels⟩ : ObjV), p) : Rd ObjV) :=
    then_mono (head_mono hobj) fun _ => then_mono str_mono fun _ => then_mono (most_mono 16384 15) fun n => then_mono (take_mono n) fun _ => then_mono (most_mono 16384 15) fun n => then_mono (take_mono n) fun _ =>
      then_mono (most_mono 256 15) fun n => then_mono (many_mono sym_mono n) fun _ => then_mono (most_mono 256 15) fun n => then_mono (many_mono rel_mono n) fun _ => ok_mono _
  exact fun l x _ v p hh => h l x 0 v p hh
/-- What is read lies within. -/
def Bnd {α : Type} (f : List Nat → Nat → Rd α) : Prop := ∀ (l : List Nat) (at_ : Nat) (v : α) (p : Nat), at_ ≤ l.length → f l at_ = .ok (v, p) → p ≤ l.length
theorem take_bnd (n : Nat) : Bnd fun l at_ => takeR l n at_ := by
  intro l at_ v p ha h
  simp only [takeR] at h
  split at h
  · simp only [Except.ok.injEq, Prod.mk.injEq] at h
    omega
  · cases h
theorem then_bnd {α β : Type} {f : List Nat → Nat → Rd α} {g : List Nat → α → Nat → Rd β} (hf : Bnd f) (hg : ∀ a, Bnd fun l p => g l a p) : Bnd fun l at_ => thenR (f l at_) (g l) := by
  intro l at_ v p ha h
  obtain ⟨a, q, h1, h2⟩ := then_ok h
  exact hg a l q v p (hf l at_ a q ha h1) h2
theorem ok_bnd {α : Type} (v : α) : Bnd fun _ p => (.ok (v, p) : Rd α) := fun _ _ _ _ ha h => by
  simp only [Except.ok.injEq, Prod.mk.injEq] at h
  omega
theorem if_bnd {α : Type} {c : Prop} [Decidable c] {e : Int × Int} {v w : α} {p q : Nat} (h : (if c then .error e else .ok (v, p) : Rd α) = .ok (w, q)) : p = q := by
  split at h
  · cases h
  · simp only [Except.ok.injEq, Prod.mk.injEq] at h; exact h.2
theorem head_bnd (h : List Nat) : Bnd fun l at_ => headR l h at_ := then_bnd (take_bnd 4) fun b l at_ v p ha hh => by
  simp only at hh
  split at hh
  · simp only [Except.ok.injEq, Prod.mk.injEq] at hh; omega
  · cases hh
theorem byte_bnd : Bnd byteR := then_bnd (take_bnd 1) fun b => ok_bnd _
theorem num_bnd : Bnd numR := then_bnd (take_bnd 4) fun b => ok_bnd _
theorem str_bnd : Bnd strR := then_bnd byte_bnd fun n => then_bnd (take_bnd n) fun b => ok_bnd _
theorem most_bnd (m : Nat) (e : Int) : Bnd fun l at_ => mostR l m e at_ := by
  intro l at_ v p ha h
  obtain ⟨n, q, h1, h2⟩ := then_ok h
  have := if_bnd h2
  have := num_bnd l at_ n q ha h1
  omega
theorem upto_bnd (a b : Nat) : Bnd fun l at_ => uptoR l a b at_ := by
  intro l at_ v p ha h
  obtain ⟨n, q, h1, h2⟩ := then_ok h
  have := if_bnd h2
  have := byte_bnd l at_ n q ha h1
  omega
theorem sym_bnd : Bnd symR := then_bnd str_bnd fun _ => then_bnd (upto_bnd 0 3) fun _ => then_bnd num_bnd fun _ => ok_bnd _
theorem rel_bnd : Bnd relR := then_bnd (upto_bnd 1 3) fun _ => then_bnd num_bnd fun _ => then_bnd str_bnd fun _ => then_bnd str_bnd fun _ => then_bnd (most_bnd 65535 11) fun _ => ok_bnd _
theorem many_bnd {α : Type} {f : List Nat → Nat → Rd α} (hf : Bnd f) : ∀ (n : Nat), Bnd fun l at_ => manyR (f l) n at_
  | 0 => fun _ _ _ _ ha h => by simp only [manyR, Except.ok.injEq, Prod.mk.injEq] at h; omega
  | n + 1 => then_bnd hf fun _ => then_bnd (many_bnd hf n) fun _ => ok_bnd _
theorem obj_bnd {l : List Nat} {v : ObjV} {p : Nat} (h : objR l = .ok (v, p)) : p ≤ l.length := by
  have hb : Bnd fun l (at_ : Nat) => thenR (headR l hobj at_) fun _ p => thenR (strR l p) fun name p => thenR (mostR l 16384 15 p) fun n p => thenR (takeR l n p) fun code p =>
      thenR (mostR l 16384 15 p) fun n p => thenR (takeR l n p) fun data p => thenR (mostR l 256 15 p) fun n p => thenR (manyR (symR l) n p) fun syms p =>
      thenR (mostR l 256 15 p) fun n p => thenR (manyR (relR l) n p) fun rels p => (.ok ((⟨name, code, data, syms, rels⟩ : ObjV), p) : Rd ObjV) :=
    then_bnd (head_bnd hobj) fun _ => then_bnd str_bnd fun _ => then_bnd (most_bnd 16384 15) fun n => then_bnd (take_bnd n) fun _ => then_bnd (most_bnd 16384 15) fun n => then_bnd (take_bnd n) fun _ =>
      then_bnd (most_bnd 256 15) fun n => then_bnd (many_bnd sym_bnd n) fun _ => then_bnd (most_bnd 256 15) fun n => then_bnd (many_bnd rel_bnd n) fun _ => ok_bnd _
  exact hb l 0 v p (Nat.zero_le _) h
/-! ### One that is written is read -/
/-- What stands at a place: some bytes, then more. -/
def At (l : List Nat) (p : Nat) (b : List Nat) : Prop := ∃ a c, l = a ++ (b ++ c) ∧ a.length = p
theorem At.split {l : List Nat} {p : Nat} {b c : List Nat} (h : At l p (b ++ c)) : At l p b ∧ At l (p + b.length) c := by
  obtain ⟨a, d, rfl, rfl⟩ := h
  exact ⟨⟨a, c ++ d, by simp, rfl⟩, ⟨a ++ b, d, by simp, by simp⟩⟩
theorem At.take {l : List Nat} {p : Nat} {b : List Nat} (h : At l p b) : takeR l b.length p = .ok (b, p + b.length) := by
  obtain ⟨a, d, rfl, rfl⟩ := h
  unfold takeR
  rw [if_pos (by simp)]
  simp
theorem At.byte {l : List Nat} {p n : Nat} (h : At l p [n]) : byteR l p = .ok (n, p + 1) := by
  have e : takeR l 1 p = .ok ([n], p + 1) := h.take
  unfold byteR
  rw [then_eq e]
  rfl
theorem At.num {l : List Nat} {p n : Nat} (h : At l p (num4 n)) (hn : n < 4294967296) : numR l p = .ok (n, p + 4) := by
  have e : takeR l 4 p = .ok (num4 n, p + 4) := h.take
  unfold numR
  rw [then_eq e]
  simp only [num4, word4, Except.ok.injEq, Prod.mk.injEq, and_true]
  simp only [List.getD_cons_zero, List.getD_cons_succ]
  omega
theorem bytes_back (s : ByteArray) : (⟨((s.data.toList.map UInt8.toNat).map UInt8.ofNat).toArray⟩ : ByteArray) = s := by
  have e : (s.data.toList.map UInt8.toNat).map UInt8.ofNat = s.data.toList := by
    rw [List.map_map]
    conv => rhs; rw [← List.map_id s.data.toList]
    exact List.map_congr_left fun c _ => by simp
  rw [e]
theorem At.str {l : List Nat} {p : Nat} {s : ByteArray} (h : At l p (strB s)) : strR l p = .ok (s, p + (strB s).length) := by
  obtain ⟨h1, h2⟩ := At.split (b := [s.size]) h
  simp only [List.length_cons, List.length_nil, Nat.zero_add] at h2
  unfold strR
  rw [then_eq h1.byte]
  have h3 := h2.take
  have e : (s.data.toList.map UInt8.toNat).length = s.size := by simp
  rw [e] at h3
  rw [then_eq h3, bytes_back]
  have e2 : p + 1 + s.size = p + (strB s).length := by simp [strB]; omega
  rw [e2]
theorem At.most {l : List Nat} {p n m : Nat} {e : Int} (h : At l p (num4 n)) (hm : n ≤ m) (h32 : m < 4294967296) : mostR l m e p = .ok (n, p + 4) := by
  unfold mostR
  rw [then_eq (h.num (by omega)), if_neg (by omega)]
theorem At.upto {l : List Nat} {p n a b : Nat} (h : At l p [n]) (h1 : a ≤ n) (h2 : n ≤ b) : uptoR l a b p = .ok (n, p + 1) := by
  unfold uptoR
  rw [then_eq h.byte, if_neg (by omega)]
theorem num4_length (n : Nat) : (num4 n).length = 4 := rfl
theorem At.split4 {l : List Nat} {p n : Nat} {c : List Nat} (h : At l p (num4 n ++ c)) : At l p (num4 n) ∧ At l (p + 4) c := At.split h
theorem At.split1 {l : List Nat} {p n : Nat} {c : List Nat} (h : At l p (n :: c)) : At l p [n] ∧ At l (p + 1) c := At.split (b := [n]) h
/-- What may be written of a symbol, of a relocation. -/
def SymOk (s : SymV) : Prop := 0 ≤ s.off ∧ s.off < 4294967296
def RelOk (r : RelV) : Prop := 1 ≤ r.kind ∧ r.kind ≤ 3 ∧ 0 ≤ r.off ∧ r.off < 4294967296 ∧ 0 ≤ r.perm ∧ r.perm < 65536
theorem At.sym {l : List Nat} {p : Nat} {s : SymV} (hs : SymOk s) (h : At l p (symB s)) : symR l p = .ok (s, p + (symB s).length) := by
  obtain ⟨h1, h2⟩ := At.split h
  obtain ⟨h3, h4⟩ := At.split1 (c := num4 s.off.toNat) h2
  obtain ⟨o0, o1⟩ := hs
  have f3 : flagB s ≤ 3 := by unfold flagB; split <;> split <;> omega
  unfold symR
  rw [then_eq h1.str, then_eq (h3.upto (Nat.zero_le _) f3), then_eq (h4.num (by omega))]
  have e : p + (strB s.name).length + 1 + 4 = p + (symB s).length := by simp only [symB, List.length_append, List.length_cons, num4_length]; omega
  obtain ⟨nm, d, o, x⟩ := s
  simp only at o0 o1
  simp only [Except.ok.injEq, Prod.mk.injEq, SymV.mk.injEq, true_and]
  refine ⟨⟨?_, by omega, ?_⟩, e⟩
  · cases d <;> cases x <;> simp [flagB]
  · cases d <;> cases x <;> simp [flagB]
theorem At.rel {l : List Nat} {p : Nat} {r : RelV} (hr : RelOk r) (h : At l p (relB r)) : relR l p = .ok (r, p + (relB r).length) := by
  obtain ⟨k0, k1, o0, o1, p0, p1⟩ := hr
  obtain ⟨h1, h⟩ := At.split1 (c := num4 r.off.toNat ++ (strB r.comp ++ (strB r.name ++ num4 r.perm.toNat))) h
  obtain ⟨h2, h⟩ := At.split4 (c := strB r.comp ++ (strB r.name ++ num4 r.perm.toNat)) h
  obtain ⟨h3, h⟩ := At.split (b := strB r.comp) (c := strB r.name ++ num4 r.perm.toNat) h
  obtain ⟨h4, h5⟩ := At.split (b := strB r.name) (c := num4 r.perm.toNat) h
  unfold relR
  rw [then_eq (h1.upto (by omega) (by omega)), then_eq (h2.num (by omega)), then_eq h3.str, then_eq h4.str, then_eq (h5.most (by omega) (by decide))]
  have e : p + 1 + 4 + (strB r.comp).length + (strB r.name).length + 4 = p + (relB r).length := by simp only [relB, List.length_append, List.length_cons, List.length_nil, num4_length]; omega
  obtain ⟨k, o, c, n, m⟩ := r
  simp only at k0 k1 o0 o1 p0 p1
  simp only [Except.ok.injEq, Prod.mk.injEq, RelV.mk.injEq, true_and]
  exact ⟨⟨by omega, by omega, by omega⟩, e⟩
theorem many_read {α : Type} {f : Nat → Rd α} {g : α → List Nat} {l : List Nat} : ∀ (xs : List α) (p : Nat), (∀ x ∈ xs, ∀ p, At l p (g x) → f p = .ok (x, p + (g x).length)) → At l p (xs.flatMap g) → manyR f xs.length p = .ok (xs, p + (xs.flatMap g).length)
  | [], p, _, _ => rfl
  | x :: xs, p, hf, h => by
    rw [List.flatMap_cons] at h
    obtain ⟨h1, h2⟩ := At.split h
    have e1 := hf x (by simp) p h1
    have e2 := many_read xs (p + (g x).length) (fun y hy => hf y (by simp [hy])) h2
    simp only [List.length_cons, manyR]
    rw [then_eq e1, then_eq e2]
    simp only [List.flatMap_cons, List.length_append, Except.ok.injEq, Prod.mk.injEq, true_and]
    omega
/-- One that may be, and whose numbers are such. -/
structure ObjOk (o : ObjV) : Prop where
  code : o.code.length ≤ 16384
  data : o.data.length ≤ 16384
  nsyms : o.syms.length ≤ 256
  nrels : o.rels.length ≤ 256
  syms : ∀ s ∈ o.syms, SymOk s
  rels : ∀ r ∈ o.rels, RelOk r
theorem obj_read {o : ObjV} (ho : ObjOk o) : objR (encL o) = .ok (o, (encL o).length) := by
  have h : At (encL o) 0 (encL o) := ⟨[], [], by simp, rfl⟩
  obtain ⟨c0, c1, c2, c3, c4, c5⟩ := ho
  have h0 := h
  conv at h => rhs; unfold encL
  have hs1 := At.split h
  have hh := hs1.1
  have h := hs1.2
  rw [show 0 + hobj.length = 4 from rfl] at h
  have hs2 := At.split h
  have hn := hs2.1
  have hs3 := At.split4 hs2.2
  have hcl := hs3.1
  have hs4 := At.split hs3.2
  have hc := hs4.1
  have hs5 := At.split4 hs4.2
  have hdl := hs5.1
  have hs6 := At.split hs5.2
  have hd := hs6.1
  have hs7 := At.split4 hs6.2
  have hsl := hs7.1
  have hs8 := At.split hs7.2
  have hs := hs8.1
  have hs9 := At.split4 hs8.2
  have hrl := hs9.1
  have hr := hs9.2
  unfold objR
  have e0 : headR (encL o) hobj 0 = .ok ((), 4) := by
    have e : takeR (encL o) 4 0 = .ok (hobj, 4) := hh.take
    unfold headR
    rw [then_eq e, if_pos rfl]
  rw [then_eq e0, then_eq hn.str, then_eq (hcl.most c0 (by decide)), then_eq hc.take, then_eq (hdl.most c1 (by decide)), then_eq hd.take, then_eq (hsl.most c2 (by decide)),
    then_eq (many_read (g := symB) _ _ (fun s hs p hp => At.sym (c4 s hs) hp) hs), then_eq (hrl.most c3 (by decide)), then_eq (many_read (g := relB) _ _ (fun r hr p hp => At.rel (c5 r hr) hp) hr)]
  simp only [Except.ok.injEq, Prod.mk.injEq, true_and]
  conv => rhs; unfold encL
  simp only [List.length_append, num4_length]
  simp only [hobj, List.length_cons, List.length_nil]
  omega
/-- Cut anywhere it is none. -/
theorem obj_cut {o : ObjV} (ho : ObjOk o) {n : Nat} (hn : n < (encL o).length) : ∃ e, decL ((encL o).take n) = .error e := by
  unfold decL
  cases h : objR ((encL o).take n) with
  | error e => exact ⟨_, rfl⟩
  | ok a =>
    obtain ⟨v, p⟩ := a
    have h1 := obj_mono _ ((encL o).drop n) 0 v p h
    simp only [List.take_append_drop] at h1
    rw [obj_read ho] at h1
    simp only [Except.ok.injEq, Prod.mk.injEq] at h1
    have h2 := obj_bnd h
    rw [List.length_take] at h2
    omega
/-- Nor with a byte more. -/
theorem obj_more {o : ObjV} (ho : ObjOk o) (x : Nat) : ∃ e, decL (encL o ++ [x]) = .error e := by
  unfold decL
  have h1 := obj_mono _ [x] 0 _ _ (obj_read ho)
  simp only at h1
  rw [h1]
  simp only
  rw [if_pos (by simp)]
  exact ⟨_, rfl⟩
end Go.Proofs.YtbmjnfnekmeegaaGreatDoor

/- Objects, plain: one that may be is such; the small one of known. -/
namespace Go.Proofs.YtbmjnfnekmeegaaGreatDoor
set_option linter.unusedVariables false
set_option linter.unusedSimpArgs false
open Go.RowKit
theorem first_some {f : Nat → Int} : ∀ (n i k : Nat) (e : Int), firstE f n i = some (k, e) → e ≠ 0
  | 0, _, _, _, h => by cases h
  | n + 1, i, k, e, h => by
    unfold firstE at h
    split at h
    · exact first_some n (i + 1) k e h
    · rename_i hf
      simp only [Option.some.injEq, Prod.mk.injEq] at h
      rw [← h.2]; exact hf
theorem first_none {f : Nat → Int} : ∀ (n i : Nat), firstE f n i = none → ∀ j, i ≤ j → j < i + n → f j = 0
  | 0, _, _, _, _, _ => by omega
  | n + 1, i, h, j, h1, h2 => by
    unfold firstE at h
    split at h
    · rename_i hf
      by_cases e : j = i
      · subst e; exact hf
      · exact first_none n (i + 1) h j (by omega) (by omega)
    · cases h
theorem objW_ok {o : ObjV} (h : (objW o).2.2 = 0) (hs : ∀ s ∈ o.syms, SymOk s) (hr : ∀ r ∈ o.rels, 0 ≤ r.off ∧ r.off < 4294967296 ∧ 0 ≤ r.perm ∧ r.perm < 65536) : ObjOk o := by
  unfold objW at h
  by_cases h1 : goodB o.name = false
  · rw [if_pos h1] at h; cases h
  rw [if_neg h1] at h
  by_cases h2 : o.code.length > 16384
  · rw [if_pos h2] at h; cases h
  rw [if_neg h2] at h
  by_cases h3 : o.code.length % 4 ≠ 0
  · rw [if_pos h3] at h; cases h
  rw [if_neg h3] at h
  by_cases h4 : o.data.length > 16384
  · rw [if_pos h4] at h; cases h
  rw [if_neg h4] at h
  by_cases h5 : o.data.length % 16 ≠ 0
  · rw [if_pos h5] at h; cases h
  rw [if_neg h5] at h
  by_cases h6 : o.syms.length > 256
  · rw [if_pos h6] at h; cases h
  rw [if_neg h6] at h
  cases h7 : firstE (symE o) o.syms.length 0 with
  | some x => rw [h7] at h; exact absurd h (first_some _ _ _ _ h7)
  | none =>
    rw [h7] at h
    simp only at h
    by_cases h8 : o.rels.length > 256
    · rw [if_pos h8] at h; cases h
    rw [if_neg h8] at h
    cases h9 : firstE (relE o) o.rels.length 0 with
    | some x => rw [h9] at h; exact absurd h (first_some _ _ _ _ h9)
    | none =>
      refine ⟨by omega, by omega, by omega, by omega, hs, fun r hm => ?_⟩
      obtain ⟨j, hj, rfl⟩ := List.mem_iff_getElem.1 hm
      have hz := first_none _ _ h9 j (Nat.zero_le _) (by omega)
      unfold relE at hz
      rw [List.getElem?_eq_getElem hj] at hz
      simp only at hz
      obtain ⟨a, b, c, d⟩ := hr _ hm
      split at hz
      · cases hz
      · rename_i hk
        exact ⟨by omega, by omega, a, b, c, d⟩
/-- known's objects. -/
def kObj : ObjV := ⟨⟨#[97]⟩, [0, 0, 0, 67], List.replicate 16 0, [⟨⟨#[102]⟩, false, 0, true⟩], [⟨1, 0, ⟨#[]⟩, ⟨#[102]⟩, 5⟩]⟩
def kObj1 : ObjV := { kObj with name := ⟨#[49]⟩ }
theorem kW : objW kObj = okW := by kernel_rfl
theorem kW1 : objW kObj1 = (nameT, 0, 12) := by kernel_rfl
theorem kBack : decL (encL kObj) = .ok kObj := by kernel_rfl
theorem kCut : decL ((encL kObj).take 7) = .error (byteT, 7, 16) := by kernel_rfl
theorem kFind : findS kObj.syms ⟨#[102]⟩ = some ⟨⟨#[102]⟩, false, 0, true⟩ := by kernel_rfl
theorem kLen : (encL kObj).length = 61 := by kernel_rfl
theorem kGood : goodB ⟨#[97, 95, 49]⟩ = true ∧ goodB ⟨#[49]⟩ = false := ⟨by kernel_rfl, by kernel_rfl⟩
def wrVal (x : WrV) : Value := .agg #[.string x.1, .int .i64 x.2.1, .int .i64 x.2.2]
theorem first_go {f : Nat → Int} {n k : Nat} (h : k < n) (hz : f k = 0) : firstE f (n - k) k = firstE f (n - (k + 1)) (k + 1) := by
  rw [show n - k = (n - (k + 1)) + 1 by omega]
  conv => lhs; unfold firstE
  rw [if_pos hz]
theorem first_hit {f : Nat → Int} {n k : Nat} (h : k < n) (hz : f k ≠ 0) : firstE f (n - k) k = some (k, f k) := by
  rw [show n - k = (n - (k + 1)) + 1 by omega]
  conv => lhs; unfold firstE
  rw [if_neg hz]
end Go.Proofs.YtbmjnfnekmeegaaGreatDoor
