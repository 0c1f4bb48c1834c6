/- Lines of the assembler, plain: what P1401 says of any words; rows of words wherever a slice says. -/
import Derived.Test.YtcdepfdfemmfhaaDoorLexMath
import Derived.Test.YtcdepfdfemmfhaaDoorRowAt
namespace Go.Proofs.YtcdepfdfemmfhaaDoor
set_option linter.unusedVariables false
set_option linter.unusedSimpArgs false
open Go.RowKit
/-- Words lie where a slice says, wherever in its block. -/
def TokAt (w : World) (v : Value) (l : List Tok) : Prop := ∃ p cap, v = .slice p l.length cap ∧ l.length ≤ cap ∧ (l = [] ∨ ∃ b off, p = some ⟨b, off, none⟩ ∧ b < w.heap.size ∧ ∀ (i : Nat) (t : Tok), l[i]? = some t →
  w.cell? ⟨b, off + i * 4, none⟩ = some (.int .i64 t.kind) ∧ w.cell? ⟨b, off + i * 4 + 1, none⟩ = some (.string t.text) ∧ w.cell? ⟨b, off + i * 4 + 2, none⟩ = some (.int .i64 t.n) ∧ w.cell? ⟨b, off + i * 4 + 3, none⟩ = some (.int .i64 t.pl))
theorem TokAt.keep {w w' : World} {v : Value} {l : List Tok} (h : TokAt w v l) (k : Keep w w') : TokAt w' v l := by
  obtain ⟨p, cap, h1, h2, h3⟩ := h
  refine ⟨p, cap, h1, h2, ?_⟩
  rcases h3 with h | ⟨b, off, h4, h5, h6⟩
  · exact .inl h
  · exact .inr ⟨b, off, h4, Nat.lt_of_lt_of_le h5 k.size, fun i t ht => ⟨k.cellOf (h6 i t ht).1, k.cellOf (h6 i t ht).2.1, k.cellOf (h6 i t ht).2.2.1, k.cellOf (h6 i t ht).2.2.2⟩⟩
theorem TokAt.nil (w : World) : TokAt w (.slice none 0 0) [] := ⟨none, 0, rfl, Nat.le_refl _, .inl rfl⟩
theorem RowAt.toks {w : World} {p : Option Addr} {cap : Nat} {l : List Tok} (h : RowAt w p (tokRows l)) (hc : l.length ≤ cap) : TokAt w (.slice p l.length cap) l := by
  refine ⟨p, cap, rfl, hc, ?_⟩
  match l, h with
  | [], _ => exact .inl rfl
  | y :: l, h =>
    rcases h with h | ⟨g, vs, h1, h3, h4⟩
    · have := congrArg List.length h; rw [tokRows_length] at this; simp at this
    · refine .inr ⟨g, 0, h1, h3.lt, fun i t ht => ?_⟩
      have hi := (List.getElem?_eq_some_iff.1 ht).1
      have hl := tokRows_length (y :: l)
      have hx : ∀ j, j < 4 → w.cell? ⟨g, 0 + i * 4 + j, none⟩ = (tokRow t)[j]? := fun j hj => by
        rw [h3.cells, Nat.zero_add, h4 _ (by omega)]
        exact tokRows_row (y :: l) i j hj t ht
      exact ⟨hx 0 (by decide), hx 1 (by decide), hx 2 (by decide), hx 3 (by decide)⟩
theorem own_toks {w : World} {base : Nat} {e : TypeId} {v : Value} {l : List Tok} (h : w.ownsRow base e 4 v l.length (tokRows l)) : TokAt w v l := by
  obtain ⟨p, cap, rfl, hc, hr⟩ := own_at h
  exact hr.toks hc
/-- A part of a row of words. -/
theorem TokAt.part {w : World} {p : Option Addr} {cap : Nat} {l : List Tok} (h : TokAt w (.slice p l.length cap) l) (a n : Nat) (ha : a + n ≤ l.length) :
    ∀ q c, (n ≠ 0 → ∃ b off, p = some ⟨b, off, none⟩ ∧ q = some ⟨b, off + a * 4, none⟩) → n ≤ c → TokAt w (.slice q n c) ((l.drop a).take n) := by
  intro q c hq hc
  have hlen : ((l.drop a).take n).length = n := by simp; omega
  refine ⟨q, c, by rw [hlen], by rw [hlen]; exact hc, ?_⟩
  by_cases h0 : n = 0
  · left; subst h0; simp
  · obtain ⟨b, off, hp, hq⟩ := hq h0
    obtain ⟨p', cap', e, _, h3⟩ := h
    cases e
    rcases h3 with h3 | ⟨b', off', h4, h5, h6⟩
    · rw [h3] at ha; simp at ha; omega
    · rw [hp] at h4
      cases h4
      refine .inr ⟨b, off + a * 4, hq, h5, fun i t ht => ?_⟩
      have ht' : l[a + i]? = some t := by
        rw [List.getElem?_take] at ht
        split at ht
        · rwa [List.getElem?_drop] at ht
        · cases ht
      have := h6 (a + i) t ht'
      have e : off + (a + i) * 4 = off + a * 4 + i * 4 := by rw [Nat.add_mul]; omega
      rw [e] at this
      exact this
-- what P1401 says
def sComma : ByteArray := ⟨#[44]⟩
def sColon : ByteArray := ⟨#[58]⟩
def sLeft : ByteArray := ⟨#[40]⟩
def sRight : ByteArray := ⟨#[41]⟩
def tokIs (t : Tok) (s : ByteArray) : Bool := decide (t.kind = 3) && decide (t.text = s)
def isSg (l : List Tok) (i : Nat) (s : ByteArray) : Bool := match l[i]? with
  | none => false
  | some t => tokIs t s
/-- The name of a register. -/
def cName (i : Nat) : ByteArray := strL (if i < 10 then [99, UInt8.ofNat (48 + i)] else [99, 49, UInt8.ofNat (48 + (i - 10))])
def regFrom (s : ByteArray) : Nat → Nat → Option Nat
  | 0, _ => none
  | n + 1, i => if s = cName i then some i else regFrom s n (i + 1)
def regNo (s : ByteArray) : Option Nat := regFrom s 16 0
def regL (l : List Tok) : Option Nat := match l with
  | [t] => if t.kind = 1 then regNo t.text else none
  | _ => none
def memL (l : List Tok) : Option (List Tok × Nat) :=
  if 3 ≤ l.length ∧ isSg l (l.length - 1) sRight = true ∧ isSg l (l.length - 3) sLeft = true then
    match regL ((l.drop (l.length - 2)).take 1) with
    | none => none
    | some r => some (l.take (l.length - 3), r)
  else none
def openAfter (t : Tok) (o : Nat) : Nat := if tokIs t sLeft = true then o + 1 else if tokIs t sRight = true ∧ 0 < o then o - 1 else o
/-- Operands, between commas: an error is the place of an empty one. -/
def opsL : List Tok → Nat → List (List Tok) → List Tok → Nat → Except Nat (List (List Tok))
  | [], at_, out, one, _ => if one = [] then .error at_ else .ok (out ++ [one])
  | t :: r, at_, out, one, o =>
    if o = 0 ∧ tokIs t sComma = true then
      (if one = [] then .error at_ else opsL r (at_ + 1) (out ++ [one]) [] 0)
    else opsL r (at_ + 1) out (one ++ [t]) (openAfter t o)
structure PLn where
  label : ByteArray
  name : ByteArray
  dot : Bool
  args : List (List Tok)
def noB : ByteArray := ⟨#[]⟩
/-- Behind a label. -/
def restL (l : List Tok) (label : ByteArray) (at_ : Nat) : Except (Nat × Int) PLn := match l[at_]? with
  | none => .ok ⟨label, noB, false, []⟩
  | some t =>
    if t.kind ≠ 1 ∧ t.kind ≠ 4 then .error (at_, 11) else
    if at_ + 1 = l.length then .ok ⟨label, t.text, decide (t.kind = 4), []⟩ else
    match opsL (l.drop (at_ + 1)) (at_ + 1) [] [] 0 with
    | .error p => .error (p, 11)
    | .ok a => .ok ⟨label, t.text, decide (t.kind = 4), a⟩
def lineL (l : List Tok) : Except (Nat × Int) PLn := match l with
  | t :: u :: r =>
    if t.kind = 1 ∧ tokIs u sColon = true then
      (if (regL [t]).isSome = true then .error (0, 12) else restL l t.text 2)
    else restL l noB 0
  | _ => restL l noB 0
end Go.Proofs.YtcdepfdfemmfhaaDoor
