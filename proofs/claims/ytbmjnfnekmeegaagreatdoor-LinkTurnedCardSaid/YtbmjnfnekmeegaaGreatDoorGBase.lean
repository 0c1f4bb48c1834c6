/- CapDef, Bytes, Num, Small, Signed, Grow, Rel, RelP, But, PutAt, C6: Capabilities as plain numbers: what P201 and P202 say of each, as Lean functions; frames and boxes; no Go in sight. -/
import Derived.WalkKit
import Derived.Below
import Derived.Lib.Hide
import Derived.Test.YtbmjnfnekmeegaaGreatDoorChecked
import Derived.Orders
import Derived.StillTail
import Derived.Laws.AppendOwn
/- Capabilities as plain numbers: what P201 and P202 say of each, as Lean functions; frames and boxes; no Go in sight. -/
namespace Go.Proofs.YtbmjnfnekmeegaaGreatDoor
set_option linter.unusedVariables false
set_option linter.unusedSimpArgs false
open Go.RowKit

/-- What was there stays; what is new is the call's own. -/
def Keep (w w' : World) : Prop := Below w.heap.size w w'
theorem Keep.refl (w : World) : Keep w w := Below.refl _ _
theorem Keep.size {w w' : World} (h : Keep w w') : w.heap.size ≤ w'.heap.size := Below.size h
theorem Keep.trans {a b c : World} (h : Keep a b) (k : Keep b c) : Keep a c := Below.trans h (Below.mono k (Below.size h))
theorem Keep.alloc {a w : World} (h : Keep a w) (o : Obj) : Keep a (w.alloc o) := Below.alloc h (Below.size h) o
theorem Keep.drew {a w : World} (h : Keep a w) : Keep a w.drew := Below.drew h
theorem Keep.setCell {a w : World} (h : Keep a w) {p : Addr} (hp : a.heap.size ≤ p.block) (v : Value) : Keep a (w.setCell p v) := Below.setCell h hp v
theorem Keep.cellOf {W w : World} (h : Keep W w) {a : Addr} {v : Value} (hc : W.cell? a = some v) : w.cell? a = some v := by
  rw [Below.cell h (World.block_lt_of_cell? _ _ hc)]; exact hc
/-- Block b of w is a row of cells that hold vs, none of them frozen. -/
def Box (w : World) (b : Nat) (vs : Array Value) : Prop := ∃ t, w.heap[b]? = some (.cells vs t)
theorem Box.lt {w : World} {b : Nat} {vs : Array Value} (h : Box w b vs) : b < w.heap.size := by
  obtain ⟨t, h⟩ := h
  exact (Array.getElem?_eq_some_iff.1 h).1
theorem Box.new (w : World) (vs : Array Value) (t : TypeId) : Box (w.alloc (.cells vs t)) w.heap.size vs := ⟨t, by
  show (w.heap.push _)[w.heap.size]? = _
  rw [Array.getElem?_push, if_pos rfl]⟩
theorem Box.new1 (w : World) (o : Obj) (vs : Array Value) (t : TypeId) : Box ((w.alloc o).alloc (.cells vs t)) (w.heap.size + 1) vs := by
  have h := Box.new (w.alloc o) vs t
  have e : (w.alloc o).heap.size = w.heap.size + 1 := by simp
  rwa [e] at h
theorem Box.new2 (w : World) (o o2 : Obj) (vs : Array Value) (t : TypeId) : Box (((w.alloc o).alloc o2).alloc (.cells vs t)) (w.heap.size + 2) vs := by
  have h := Box.new ((w.alloc o).alloc o2) vs t
  have e : ((w.alloc o).alloc o2).heap.size = w.heap.size + 2 := by simp
  rwa [e] at h
theorem Box.new3 (w : World) (o o2 o3 : Obj) (vs : Array Value) (t : TypeId) : Box ((((w.alloc o).alloc o2).alloc o3).alloc (.cells vs t)) (w.heap.size + 3) vs := by
  have h := Box.new (((w.alloc o).alloc o2).alloc o3) vs t
  have e : (((w.alloc o).alloc o2).alloc o3).heap.size = w.heap.size + 3 := by simp
  rwa [e] at h
theorem Box.alloc {w : World} {b : Nat} {vs : Array Value} (h : Box w b vs) (o : Obj) : Box (w.alloc o) b vs := by
  have hl := h.lt
  obtain ⟨t, h⟩ := h
  exact ⟨t, by rw [Below.heap_alloc _ _ _ hl]; exact h⟩
theorem Box.drew {w : World} {b : Nat} {vs : Array Value} (h : Box w b vs) : Box w.drew b vs := h
theorem Box.keep {w w' : World} {b : Nat} {vs : Array Value} (h : Box w b vs) (k : Keep w w') : Box w' b vs := by
  have hl := h.lt
  obtain ⟨t, h⟩ := h
  exact ⟨t, by rw [Below.block k _ hl]; exact h⟩
theorem Box.other {w : World} {b : Nat} {vs : Array Value} (h : Box w b vs) {a : Addr} (ha : b ≠ a.block) (v : Value) : Box (w.setCell a v) b vs := by
  obtain ⟨t, h⟩ := h
  exact ⟨t, by rw [Below.heap_setCell _ _ _ _ ha]; exact h⟩
theorem Box.set {w : World} {b : Nat} {vs : Array Value} (h : Box w b vs) (i : Nat) (v : Value) : Box (w.setCell ⟨b, i, none⟩ v) b (vs.setIfInBounds i v) := by
  obtain ⟨t, h⟩ := h
  refine ⟨t, ?_⟩
  simp only [World.setCell, Array.getElem?_modify, if_pos rfl, h]
  rfl
theorem Box.cells {w : World} {b : Nat} {vs : Array Value} (h : Box w b vs) : ∀ i, w.cell? ⟨b, i, none⟩ = vs[i]? := by
  obtain ⟨t, h⟩ := h
  intro i
  simp [World.cell?, h]
theorem Box.thawed {w : World} {b : Nat} {vs : Array Value} (h : Box w b vs) : ∀ i, w.frozen? ⟨b, i, none⟩ = false := by
  obtain ⟨t, h⟩ := h
  intro i
  simp [World.frozen?, h]

def hasB (base top a n : Int) : Bool := decide (base ≤ a) && decide (a + n ≤ top)
theorem hasB_true {base top a n : Int} (h1 : base ≤ a) (h2 : a + n ≤ top) : hasB base top a n = true := by simp [hasB, h1, h2]
theorem hasB_false {base top a n : Int} (h : ¬ (base ≤ a ∧ a + n ≤ top)) : hasB base top a n = false := by
  simp [hasB]; omega
/-- What one asks of a key: a tag, the bytes, the permissions, an open one. -/
def meetsB (t : Bool) (b p a m y n q : Int) : Bool := t && hasB b p a n && (bits .and .u16 m q == q) && (y == 0)
def tagOpen (t : Bool) (y : Int) : Bool := t && (y == 0)
def tagBounds (t : Bool) (b p a y n : Int) : Bool := t && hasB b p a n && (y == 0)
def tagEnter (t : Bool) (m y : Int) : Bool := t && (bits .and .u16 m 4 == 4) && (y == 0)
def subB (b p m b1 p1 m1 : Int) : Bool := decide (b1 ≤ b) && decide (p ≤ p1) && (bits .andNot .u16 m m1 == 0)
def sealOk (y : Int) (tk : Bool) (bk pk ak mk yk : Int) : Bool := decide (2 ≤ ak) && decide (ak < 1024) && (y == 0) && meetsB tk bk pk ak mk yk 1 32
def sealTag (t : Bool) (y : Int) (tk : Bool) (bk pk ak mk yk : Int) : Bool := t && sealOk y tk bk pk ak mk yk
def sealTy (y : Int) (tk : Bool) (bk pk ak mk yk : Int) : Int := if sealOk y tk bk pk ak mk yk = true then ak else y
def openOk (y : Int) (tk : Bool) (bk pk ak mk yk : Int) : Bool := decide (2 ≤ y) && (y == ak) && meetsB tk bk pk ak mk yk 1 64
def openTag (t : Bool) (y : Int) (tk : Bool) (bk pk ak mk yk : Int) : Bool := t && openOk y tk bk pk ak mk yk
def openTy (y : Int) (tk : Bool) (bk pk ak mk yk : Int) : Int := if openOk y tk bk pk ak mk yk = true then 0 else y
end Go.Proofs.YtbmjnfnekmeegaaGreatDoor

/- Numbers as rows of bytes, the lowest first: plain; no Go in sight. -/
namespace Go.Proofs.YtbmjnfnekmeegaaGreatDoor
set_option linter.unusedVariables false
set_option linter.unusedSimpArgs false
open Go.RowKit

def b4 (v : Int) : List Int := [v % 256, v / 256 % 256, v / 65536 % 256, v / 16777216 % 256]
def b2 (v : Int) : List Int := [v % 256, v / 256 % 256]
/-- A capability's sixteen bytes. -/
def putL (b p a m y : Int) : List Int := b4 b ++ (b4 p ++ (b4 a ++ (b2 m ++ b2 y)))
theorem putL_length (b p a m y : Int) : (putL b p a m y).length = 16 := rfl
def IsByte (z : Int) : Prop := 0 ≤ z ∧ z ≤ 255
theorem b4_bytes (v : Int) : ∀ z ∈ b4 v, IsByte z := by
  intro z hz
  simp only [b4, List.mem_cons, List.not_mem_nil, or_false] at hz
  unfold IsByte
  omega
theorem b2_bytes (v : Int) : ∀ z ∈ b2 v, IsByte z := by
  intro z hz
  simp only [b2, List.mem_cons, List.not_mem_nil, or_false] at hz
  unfold IsByte
  omega
/-- Bytes as a number of 32 bits, the lowest first. -/
def leW : List Int → Int
  | [] => 0
  | z :: l => leW l * 256 % 4294967296 + z
theorem leW_in (l : List Int) (h : ∀ z ∈ l, IsByte z) : 0 ≤ leW l ∧ leW l ≤ 4294967295 := by
  induction l with
  | nil => decide
  | cons z l ih =>
    have hz := h z (by simp)
    have := ih fun x hx => h x (by simp [hx])
    unfold IsByte at hz
    unfold leW
    omega
theorem leW_b4 (v : Int) (h : 0 ≤ v ∧ v ≤ 4294967295) : leW (b4 v) = v := by simp only [b4, leW]; omega
theorem leW_b2 (v : Int) (h : 0 ≤ v ∧ v ≤ 65535) : leW (b2 v) = v := by simp only [b2, leW]; omega
theorem b4_leW (a b c d : Int) (ha : IsByte a) (hb : IsByte b) (hc : IsByte c) (hd : IsByte d) : b4 (leW [a, b, c, d]) = [a, b, c, d] := by
  unfold IsByte at ha hb hc hd
  have e : leW [a, b, c, d] = ((d * 256 + c) * 256 + b) * 256 + a := by simp only [leW]; omega
  rw [e]
  simp only [b4, List.cons.injEq, and_true]
  omega
theorem b2_leW (a b : Int) (ha : IsByte a) (hb : IsByte b) : b2 (leW [a, b]) = [a, b] := by
  unfold IsByte at ha hb
  have e : leW [a, b] = b * 256 + a := by simp only [leW]; omega
  rw [e]
  simp only [b2, List.cons.injEq, and_true]
  omega
theorem leW2_in (a b : Int) (ha : IsByte a) (hb : IsByte b) : 0 ≤ leW [a, b] ∧ leW [a, b] ≤ 65535 := by
  unfold IsByte at ha hb
  simp only [leW]; omega
/-- A byte beneath eight noughts. -/
theorem or_byte (x z : Int) (hx : 0 ≤ x ∧ x ≤ 4294967295) (hz : IsByte z) : bits .or .u32 (x * 256 % 4294967296) z = x * 256 % 4294967296 + z := by
  unfold IsByte at hz
  rw [u32_or _ z (by omega) (by omega) (by omega) (by omega)]
  obtain ⟨Z, rfl⟩ := Int.eq_ofNat_of_zero_le hz.1
  obtain ⟨X, rfl⟩ := Int.eq_ofNat_of_zero_le hx.1
  have e : ((X : Int) * 256 % 4294967296).toNat = 2 ^ 8 * (X % 16777216) := by omega
  rw [e, Int.toNat_natCast, ← Nat.two_pow_add_eq_or_of_lt (show Z < 2 ^ 8 by omega)]
  omega
end Go.Proofs.YtbmjnfnekmeegaaGreatDoor

/- Plain facts about numbers of 32 bits: no Go in sight. -/
namespace Go.Proofs.YtbmjnfnekmeegaaGreatDoor
set_option linter.unusedVariables false
set_option linter.unusedSimpArgs false
open Go.RowKit

theorem and31 (b : Int) (h0 : 0 ≤ b) (h1 : b < 4294967296) : bits .and .u32 b 31 = b % 32 := by
  rw [u32_and b 31 h0 h1 (by decide) (by decide)]
  obtain ⟨B, rfl⟩ := Int.eq_ofNat_of_zero_le h0
  rw [show (31 : Int).toNat = 2 ^ 5 - 1 from rfl, Int.toNat_natCast, Nat.and_two_pow_sub_one_eq_mod]
  omega
theorem xorLow (r : Nat) (h : r < 2 ^ 31) : r ^^^ 2 ^ 31 = 2 ^ 31 + r := by
  apply Nat.eq_of_testBit_eq
  intro i
  rw [Nat.testBit_xor, Nat.testBit_two_pow, show 2 ^ 31 + r = 2 ^ 31 * 1 + r by rw [Nat.mul_one], Nat.testBit_two_pow_mul_add 1 h i]
  by_cases hi : i < 31
  · rw [if_pos hi, decide_eq_false (by omega), Bool.xor_false]
  · rw [if_neg hi, Nat.testBit_lt_two_pow (Nat.lt_of_lt_of_le h (Nat.pow_le_pow_right (by decide) (by omega))), Bool.false_xor]
    obtain ⟨k, rfl⟩ : ∃ k, i = 31 + k := ⟨i - 31, by omega⟩
    rw [Nat.add_sub_cancel_left]
    cases k with
    | zero => simp
    | succ k => rw [Nat.testBit_succ]; simp
theorem xorTopNat (A : Nat) (hA : A < 4294967296) : A ^^^ 2147483648 = (A + 2147483648) % 4294967296 := by
  have e : (2147483648 : Nat) = 2 ^ 31 := by decide
  by_cases h : A < 2147483648
  · have h1 := xorLow A (by omega)
    rw [e, h1, ← e]
    omega
  · have h1 := xorLow (A - 2147483648) (by omega)
    have h2 : A = (A - 2147483648) ^^^ 2 ^ 31 := by rw [h1, ← e]; omega
    rw [e]
    conv => lhs; rw [h2]
    rw [Nat.xor_assoc, Nat.xor_self, Nat.xor_zero, ← e]
    omega
theorem xorTop (a : Int) (h0 : 0 ≤ a) (h1 : a < 4294967296) : bits .xor .u32 a 2147483648 = (a + 2147483648) % 4294967296 := by
  rw [u32_xor a 2147483648 h0 h1 (by decide) (by decide)]
  obtain ⟨A, rfl⟩ := Int.eq_ofNat_of_zero_le h0
  rw [Int.toNat_natCast, show (2147483648 : Int).toNat = 2147483648 from rfl, xorTopNat A (by omega)]
  omega
/-- The order of numbers with a sign is that of the raised ones without. -/
theorem raisedLt (a b : Int) (h0 : 0 ≤ a) (h1 : a < 4294967296) (h2 : 0 ≤ b) (h3 : b < 4294967296) :
    (a + 2147483648) % 4294967296 < (b + 2147483648) % 4294967296 ↔ wrap32 a < wrap32 b := by
  unfold wrap32
  omega
theorem raisedLe (a b : Int) (h0 : 0 ≤ a) (h1 : a < 4294967296) (h2 : 0 ≤ b) (h3 : b < 4294967296) :
    (a + 2147483648) % 4294967296 ≤ (b + 2147483648) % 4294967296 ↔ wrap32 a ≤ wrap32 b := by
  unfold wrap32
  omega
end Go.Proofs.YtbmjnfnekmeegaaGreatDoor

/- The small functions of package word: raised, bit, quotient, remainder; each by its contract. -/
namespace Go.Proofs.YtbmjnfnekmeegaaGreatDoor
set_option linter.unusedVariables false
set_option linter.unusedSimpArgs false
open Go.RowKit

def quoU (a b : Int) : Int := if b = 0 then 4294967295 else a / b
def remU (a b : Int) : Int := if b = 0 then a else a % b
end Go.Proofs.YtbmjnfnekmeegaaGreatDoor

/- word.Signed and the reference's Signed: both answer sgnVal. -/
namespace Go.Proofs.YtbmjnfnekmeegaaGreatDoor
set_option linter.unusedVariables false
set_option linter.unusedSimpArgs false
open Go.RowKit

/-- The lowest n bits of v (n cut to 1 to 32), the highest of them put to all above. -/
def sgnVal (v n : Int) : Int :=
  if n < 1 then wrap32 (v * 2147483648 % 4294967296) / 2147483648 % 4294967296
  else if 32 < n then wrap32 v % 4294967296
  else wrap32 (v * 2 ^ (32 - n).toNat % 4294967296) / 2 ^ (32 - n).toNat % 4294967296
end Go.Proofs.YtbmjnfnekmeegaaGreatDoor

/- A region that draws its order and whose operations each yield one value, whichever of the worlds it may meet it meets: it goes through in the order of the text. What the worlds keep is a predicate I of the prover's; calls that make memory are let. -/
namespace Go.Proofs.YtbmjnfnekmeegaaGreatDoor
set_option linter.unusedVariables false
set_option linter.unusedSimpArgs false
open Go Go.RowKit
section
variable {P : Program} {ops : Array Oper} {md : Region.Mode} {I : World → Prop}

/-- The operation's outcome is the value v, and a world that I holds of. -/
def Yes (P : Program) (I : World → Prop) (v : Value) : Result Next → Prop
  | .ok (.value u) W => u = v ∧ I W
  | .ok .skip W => v = undef ∧ I W
  | .ok (.enter f args) W => Calls P f args W fun e W' => e = .returned v ∧ I W'
  | _ => False
theorem Yes_value (u v : Value) (W : World) : Yes P I v (.ok (.value u) W) = (u = v ∧ I W) := rfl
theorem Yes_skip (v : Value) (W : World) : Yes P I v (.ok .skip W) = (v = undef ∧ I W) := rfl
theorem Yes_enter (v : Value) (f : FuncId) (args : Array Value) (W : World) : Yes P I v (.ok (.enter f args) W) = Calls P f args W fun e W' => e = .returned v ∧ I W' := rfl
theorem yes_enter {v : Value} {f : FuncId} {args : Array Value} {W : World} (h : Calls P f args W fun e W' => e = .returned v ∧ I W') : Yes P I v (.ok (.enter f args) W) := h
/-- Asked for: in every world of I it yields v; not asked for: nothing. -/
def Sure (P : Program) (ops : Array Oper) (I : World → Prop) (o : Oper) (v : Value) (a : Act) : Prop :=
  (Region.wanted o (yielded ops a.tmps) = true ∧ ∀ W, I W → Yes P I v ((execOp a.eval o).run P W)) ∨ (Region.wanted o (yielded ops a.tmps) = false ∧ v = undef)
theorem Sure.far {o : Oper} {v : Value} {a : Act} (hs : ∀ cs b, o.op ≠ .select cs b) {d : Option Tmp} {u : Value} (h : ∀ x, d = some x → x ∉ o.looksAt ops) :
    Sure P ops I o v (a.put d u) ↔ Sure P ops I o v a := by
  unfold Sure
  rw [execOp_put o hs a d u h, wanted_put o a d u h]
/-- One operation, by its number. -/
def one (P : Program) (ops : Array Oper) (I : World → Prop) (i : Nat) (K : Act → Prop) (a : Act) : Prop :=
  match ops[i]? with
  | none => K a
  | some o => ∃ v, Sure P ops I o v a ∧ K (a.put o.dst v)
theorem one_some {i : Nat} {o : Oper} {K : Act → Prop} {a : Act} (h : ops[i]? = some o) : one P ops I i K a = ∃ v, Sure P ops I o v a ∧ K (a.put o.dst v) := by
  simp only [one, h]
/-- Every order. -/
def every (P : Program) (md : Region.Mode) (ops : Array Oper) (I : World → Prop) (Q : Act → Prop) : Nat → Array Bool → Act → Prop
  | 0, listed, a => Region.ready md ops listed = [] ∧ Q a
  | fuel + 1, listed, a => (Region.ready md ops listed = [] → Q a) ∧ ∀ i ∈ Region.ready md ops listed, one P ops I i (every P md ops I Q fuel (listed.setIfInBounds i true)) a
/-- The order of the text. -/
def inText (P : Program) (ops : Array Oper) (I : World → Prop) (Q : Act → Prop) : List Oper → Act → Prop
  | [], a => Q a
  | o :: rest, a => ∃ v, Sure P ops I o v a ∧ inText P ops I Q rest (a.put o.dst v)

theorem oper_of_sure {o : Oper} {v : Value} {a : Act} {W : World} {K : Act → World → Prop} {Q : Exit → Act → World → Prop} (h : Yes P I v ((execOp a.eval o).run P W))
    (hK : ∀ W', I W' → K (a.put o.dst v) W') : o.wp P a W K Q := by
  unfold Oper.wp
  generalize (execOp a.eval o).run P W = r at h ⊢
  cases r with
  | halt x W' => exact h.elim
  | ok n W' =>
    cases n
    case value u => obtain ⟨rfl, hI⟩ := h; exact hK _ hI
    case skip => obtain ⟨rfl, hI⟩ := h; exact hK _ hI
    case enter f args =>
      simp only [Oper.upon]
      refine Calls.mono (show Calls P f args W' _ from h) ?_
      rintro e W'' ⟨rfl, hI⟩
      exact hK _ hI
    all_goals exact h.elim
theorem every_sound {Q : Act → Prop} {Q' : Exit → Act → World → Prop} (hQ : ∀ a W, Q a → I W → Q' .normal a W) :
    ∀ (fuel : Nat) (listed : Array Bool) (a : Act) (W : World), I W → every P md ops I Q fuel listed a → wpAny P md ops Q' fuel listed a W
  | 0, _, _, _, hI, h => ⟨h.1, hQ _ _ h.2 hI⟩
  | fuel + 1, listed, a, W, hI, h => by
    refine ⟨fun h0 => hQ _ _ (h.1 h0) hI, fun i hi => ?_⟩
    have h1 := h.2 i hi
    unfold one at h1
    unfold wpOp
    split at h1
    · rename_i ho
      simp only [ho]
      exact every_sound hQ fuel _ _ _ hI h1
    · rename_i o ho
      simp only [ho]
      obtain ⟨v, hs, hK⟩ := h1
      rcases hs with ⟨hw, hr⟩ | ⟨hw, rfl⟩
      · simp only [hw, if_true]
        exact .inl (oper_of_sure (hr W hI) fun W' hI' => every_sound hQ fuel _ _ _ hI' hK)
      · simp only [hw]
        exact every_sound hQ fuel _ _ _ hI hK
theorem one_mono {i : Nat} {a : Act} {K K' : Act → Prop} (h : ∀ a, K a → K' a) (hh : one P ops I i K a) : one P ops I i K' a := by
  unfold one at *
  split
  · rename_i ho; simp only [ho] at hh; exact h _ hh
  · rename_i o ho; simp only [ho] at hh; obtain ⟨v, hs, hk⟩ := hh; exact ⟨v, hs, h _ hk⟩
/-- Whichever of two operations apart goes first. -/
theorem one_swap {j : Nat} {oi oj : Oper} {v : Value} (hj : ops[j]? = some oj) (hap : oi.apart ops oj = true) (hsi : ∀ cs b, oi.op ≠ .select cs b) (hsj : ∀ cs b, oj.op ≠ .select cs b)
    {K : Act → Prop} {a : Act} (hy : Sure P ops I oi v a) (h : one P ops I j K (a.put oi.dst v)) : one P ops I j (fun a' => Sure P ops I oi v a' ∧ K (a'.put oi.dst v)) a := by
  obtain ⟨h1, h2, h3⟩ := Oper.apart_spec hap
  rw [one_some hj] at h ⊢
  obtain ⟨u, hu, hk⟩ := h
  exact ⟨u, (Sure.far hsj h1).1 hu, (Sure.far hsi h3).2 hy, by rw [← Act.put_comm a v u h2]; exact hk⟩
theorem every_first {Q : Act → Prop} {i : Nat} {oi : Oper} {v : Value} (hi : ops[i]? = some oi) (hsel : ∀ (j : Nat) (o : Oper) cs b, ops[j]? = some o → o.op ≠ .select cs b) :
    ∀ (fuel : Nat) (listed : Array Bool) (a : Act),
      (∀ j oj, ops[j]? = some oj → j ≠ i → listed.getD j true = false → (∀ e ∈ oj.after, Region.binds md e = true → e.on ≠ i) → oi.apart ops oj = true) →
      i ∈ Region.ready md ops listed → Sure P ops I oi v a → every P md ops I Q fuel (listed.setIfInBounds i true) (a.put oi.dst v) → every P md ops I Q (fuel + 1) listed a := by
  intro fuel
  induction fuel with
  | zero =>
    intro listed a _ hr hy H
    refine ⟨fun h => absurd hr (by rw [h]; exact List.not_mem_nil), fun j hj => ?_⟩
    by_cases hji : j = i
    · subst hji; rw [one_some hi]; exact ⟨v, hy, H⟩
    · have h0 := ready_mono hj hji
      rw [H.1] at h0
      exact absurd h0 List.not_mem_nil
  | succ fuel ih =>
    intro listed a hfree hr hy H
    refine ⟨fun h => absurd hr (by rw [h]; exact List.not_mem_nil), fun j hj => ?_⟩
    by_cases hji : j = i
    · subst hji; rw [one_some hi]; exact ⟨v, hy, H⟩
    · obtain ⟨hjun, oj, hoj, hall⟩ := mem_ready.1 hj
      have hnot : ∀ e ∈ oj.after, Region.binds md e = true → e.on ≠ i := by
        intro e he hb heq
        have ha := hall e he hb
        have h0 := (mem_ready.1 hr).1
        subst heq
        by_cases hlt : e.on < listed.size
        · simp [hlt] at h0 ha; rw [h0] at ha; cases ha
        · simp [hlt] at h0
      refine one_mono ?_ (one_swap hoj (hfree j oj hoj hji hjun hnot) (fun cs b => hsel i oi cs b hi) (fun cs b => hsel j oj cs b hoj) hy (H.2 j (ready_mono hj hji)))
      rintro a' ⟨hy', hK⟩
      refine ih (listed.setIfInBounds j true) a' (fun k ok hk hki hun hno => hfree k ok hk hki ?_ hno) (ready_mono hr (Ne.symm hji)) hy' (by rw [Array.setIfInBounds_comm _ _ hji]; exact hK)
      by_cases hjk : j = k
      · subst hjk; exact hjun
      · rwa [getD_set_ne true hjk] at hun
theorem every_text {Q : Act → Prop} (hs : Region.noSelect ops = true) : ∀ (l : List Oper) (k : Nat) (listed : Array Bool) (a : Act), (∀ j, l[j]? = ops[k + j]?) →
    Region.lexFrom md ops l.length k listed = true → inText P ops I Q l a → every P md ops I Q l.length listed a
  | [], _, _, _, _, hB, h => ⟨by simpa [Region.lexFrom] using hB, h⟩
  | o :: l, k, listed, a, hl, hB, h => by
    have h0 : ops[k]? = some o := by simpa using (hl 0).symm
    simp only [List.length_cons, Region.lexFrom, Bool.and_eq_true] at hB
    obtain ⟨⟨hr, hf⟩, hB'⟩ := hB
    obtain ⟨v, hy, hK⟩ := h
    refine every_first h0 (Region.noSelect_spec hs) l.length listed a (Region.free_spec h0 hf) (by simpa using hr) hy ?_
    refine every_text hs l (k + 1) _ _ (fun j => ?_) hB' hK
    have := hl (j + 1)
    simpa [Nat.add_assoc, Nat.add_comm 1 j] using this
/-- THE LAW. -/
theorem region_grows {id : Nat} {Q : Exit → Act → World → Prop} {a : Act} {w : World} {l : List Oper} (I : World → Prop) (hm : P.follows .mixedOrders = true) (hB : Region.lexB .any l.toArray = true)
    (hI : I w.drew) (h : inText P l.toArray I (fun a' => ∀ W, I W → Q .normal a' W) l a) : (Code.region id l.toArray true).wp P Q a w := by
  simp only [Region.lexB, Bool.and_eq_true] at hB
  refine wp_region_any hm (every_sound (I := I) (Q := fun a' => ∀ W, I W → Q .normal a' W) (fun a W h hI => h W hI) _ _ _ _ hI ?_)
  have := every_text (md := .any) (P := P) (I := I) (Q := fun a' => ∀ W, I W → Q .normal a' W) hB.1 l 0 (Array.replicate l.toArray.size false) a (by simp) (by simpa using hB.2) h
  simpa using this
theorem text_end {Q : Act → Prop} {a : Act} (h : Q a) : inText P ops I Q [] a := h
theorem text_step {Q : Act → Prop} {a : Act} {o : Oper} {rest : List Oper} {v : Value} (hw : Region.wanted o (yielded ops a.tmps) = true) (hr : ∀ W, I W → Yes P I v ((execOp a.eval o).run P W))
    (h : inText P ops I Q rest (a.put o.dst v)) : inText P ops I Q (o :: rest) a := ⟨v, .inl ⟨hw, hr⟩, h⟩
theorem text_pass {Q : Act → Prop} {a : Act} {o : Oper} {rest : List Oper} (hw : Region.wanted o (yielded ops a.tmps) = false)
    (h : inText P ops I Q rest (a.put o.dst undef)) : inText P ops I Q (o :: rest) a := ⟨undef, .inr ⟨hw, rfl⟩, h⟩

/-! ### A tail that goes last, in its order: a store into the result's cell, an append -/
def headG (P : Program) (md : Region.Mode) (ops : Array Oper) (I : World → Prop) (n : Nat) (L : Array Bool → Act → Prop) : Nat → Array Bool → Act → Prop
  | 0, listed, a => L listed a
  | f + 1, listed, a => Region.ready md ops listed ≠ [] ∧ ∀ i ∈ Region.ready md ops listed, i < n ∧ one P ops I i (headG P md ops I n L f (listed.setIfInBounds i true)) a
theorem wpOp_of_one {Q : Exit → Act → World → Prop} {i : Nat} {K : Act → Prop} {K' : Act → World → Prop} {a : Act} {W : World} (hI : I W) (h : one P ops I i K a) (hK : ∀ a' W', I W' → K a' → K' a' W') :
    wpOp P ops Q i K' a W := by
  unfold one at h
  unfold wpOp
  split at h
  · rename_i ho
    simp only [ho]
    exact hK _ _ hI h
  · rename_i o ho
    simp only [ho]
    obtain ⟨v, hs, hk⟩ := h
    rcases hs with ⟨hw, hr⟩ | ⟨hw, rfl⟩
    · simp only [hw, if_true]
      exact .inl (oper_of_sure (hr W hI) fun W' hI' => hK _ _ hI' hk)
    · simp only [hw]
      exact hK _ _ hI hk
theorem headG_sound {n g : Nat} {L : Array Bool → Act → Prop} {Q : Exit → Act → World → Prop} (hL : ∀ listed a W, I W → L listed a → wpAny P md ops Q g listed a W) :
    ∀ (f : Nat) (listed : Array Bool) (a : Act) (W : World), I W → headG P md ops I n L f listed a → wpAny P md ops Q (f + g) listed a W
  | 0, listed, a, W, hI, h => by rw [Nat.zero_add]; exact hL _ _ _ hI h
  | f + 1, listed, a, W, hI, h => by
    rw [show f + 1 + g = (f + g) + 1 by omega]
    exact ⟨fun h0 => absurd h0 h.1, fun i hi => wpOp_of_one hI (h.2 i hi).2 fun a' W' hI' h' => headG_sound hL f _ a' W' hI' h'⟩
theorem headG_first {n i : Nat} {oi : Oper} {v : Value} {L : Array Bool → Act → Prop} (hi : ops[i]? = some oi) (hsel : ∀ (j : Nat) (o : Oper) cs b, ops[j]? = some o → o.op ≠ .select cs b)
    (hs : Region.sinkB md ops n = true) (hc : Region.chainB md ops n = true) (hn : n < ops.size) (hin : i < n) (hdone : ∀ listed a, L listed a → ∀ j ∈ Region.ready md ops listed, n ≤ j) :
    ∀ (f : Nat) (listed : Array Bool) (a : Act), HeadInv md ops n listed →
      (∀ j oj, ops[j]? = some oj → j ≠ i → listed.getD j true = false → (∀ e ∈ oj.after, Region.binds md e = true → e.on ≠ i) → oi.apart ops oj = true) →
      i ∈ Region.ready md ops listed → Sure P ops I oi v a → headG P md ops I n L f (listed.setIfInBounds i true) (a.put oi.dst v) → headG P md ops I n L (f + 1) listed a := by
  intro f
  induction f with
  | zero =>
    intro listed a inv _ hr hy H
    refine ⟨List.ne_nil_of_mem hr, fun j hj => ?_⟩
    have hjn : j < n := Nat.lt_of_not_le fun h => tail_waits hs hc hn inv _ i rfl hin (mem_ready.1 hr).1 j h hj
    refine ⟨hjn, ?_⟩
    by_cases hji : j = i
    · subst hji; rw [one_some hi]; exact ⟨v, hy, H⟩
    · have := hdone _ _ H j (ready_mono hj hji)
      omega
  | succ f ih =>
    intro listed a inv hfree hr hy H
    have hun := (mem_ready.1 hr).1
    refine ⟨List.ne_nil_of_mem hr, fun j hj => ?_⟩
    have hjn : j < n := Nat.lt_of_not_le fun h => tail_waits hs hc hn inv _ i rfl hin hun j h hj
    refine ⟨hjn, ?_⟩
    by_cases hji : j = i
    · subst hji; rw [one_some hi]; exact ⟨v, hy, H⟩
    · obtain ⟨hjun, oj, hoj, hall⟩ := mem_ready.1 hj
      have hnot : ∀ e ∈ oj.after, Region.binds md e = true → e.on ≠ i := by
        intro e he hb heq
        have ha := hall e he hb
        rw [heq, getD_both hun] at ha
        cases ha
      refine one_mono ?_ (one_swap hoj (hfree j oj hoj hji hjun hnot) (fun cs b => hsel i oi cs b hi) (fun cs b => hsel j oj cs b hoj) hy (H.2 j (ready_mono hj hji)).2)
      rintro a' ⟨hy', hK⟩
      refine ih (listed.setIfInBounds j true) a' (inv.set hj hjn) (fun k ok hk hki hu hno => hfree k ok hk hki ?_ hno) (ready_mono hr (Ne.symm hji)) hy' (by rw [Array.setIfInBounds_comm _ _ hji]; exact hK)
      by_cases hjk : j = k
      · subst hjk; exact hjun
      · rwa [getD_set_ne true hjk] at hu
theorem headG_text {n g : Nat} {T : Act → Prop} (hsel : Region.noSelect ops = true) (hs : Region.sinkB md ops n = true) (hc : Region.chainB md ops n = true) (hn : n < ops.size) :
    ∀ (l : List Oper) (k : Nat) (listed : Array Bool) (a : Act), (∀ j, j < l.length → l[j]? = ops[k + j]?) → k + l.length = n → HeadInv md ops n listed →
    Region.lexHead md ops g l.length k listed = true → inText P ops I T l a → headG P md ops I n (fun listed' a' => Region.seqB md ops g n listed' = true ∧ T a') l.length listed a
  | [], k, listed, a, _, hk, _, hB, h => by
    have hkn : k = n := by simpa using hk
    subst hkn
    exact ⟨by simpa [Region.lexHead] using hB, h⟩
  | o :: l, k, listed, a, hl, hk, inv, hB, h => by
    have h0 : ops[k]? = some o := by simpa using (hl 0 (by simp)).symm
    simp only [List.length_cons, Region.lexHead, Bool.and_eq_true] at hB
    obtain ⟨⟨hr, hf⟩, hB'⟩ := hB
    simp only [List.length_cons] at hk
    have hkn : k < n := by omega
    have hr' : k ∈ Region.ready md ops listed := by simpa using hr
    obtain ⟨v, hy, hK⟩ := h
    refine headG_first h0 (Region.noSelect_spec hsel) hs hc hn hkn (fun listed' a' hL => seqB_ready hL.1) l.length listed a inv (Region.free_spec h0 hf) hr' hy ?_
    refine headG_text hsel hs hc hn l (k + 1) _ _ (fun j hj => ?_) (by omega) (inv.set hr' hkn) hB' hK
    have := hl (j + 1) (by simp; omega)
    simpa [Nat.add_assoc, Nat.add_comm 1 j] using this
/-- THE LAW, with a tail. -/
theorem region_grows_tail {id : Nat} {Q : Exit → Act → World → Prop} {a : Act} {w : World} {l : List Oper} (n : Nat) (I : World → Prop) (hm : P.follows .mixedOrders = true) (hB : Region.lexTailB .any l.toArray n = true)
    (hI : I w.drew) (h : inText P l.toArray I (fun a' => ∀ W, I W → wpList P l.toArray Q (l.drop n) a' W) (l.take n) a) : (Code.region id l.toArray true).wp P Q a w := by
  simp only [Region.lexTailB, Bool.and_eq_true, decide_eq_true_eq] at hB
  obtain ⟨⟨⟨⟨hsel, hn⟩, hs⟩, hc⟩, hlex⟩ := hB
  have hn' : n < l.length := by simpa using hn
  have htl : (l.take n).length = n := by simp; omega
  have hdl : (l.drop n).length = l.toArray.size - n := by simp
  have inv0 : HeadInv .any l.toArray n (Array.replicate l.toArray.size false) :=
    ⟨by simp, fun j oj _ hl => absurd hl (by rw [getD_replicate_false]; decide), fun t _ ht => getD_in (by simpa using ht) (getD_replicate_false _ _)⟩
  have H := headG_text (md := .any) (P := P) (I := I) (g := l.toArray.size - n) hsel hs hc hn (l.take n) 0 _ a
    (fun j hj => by rw [htl] at hj; simp [hj]) (by simpa using htl) inv0 (by rw [htl]; exact hlex) h
  refine wp_region_any hm ?_
  have R := headG_sound (md := .any) (Q := Q) (g := l.toArray.size - n) (fun listed a' W hI' hL => by
    have := wpAny_of_seq (md := .any) (Q' := Q) (l.drop n) n listed a' W (fun j => by simp [List.getElem?_drop]) (by rw [hdl]; exact hL.1) (hL.2 W hI')
    rwa [hdl] at this) _ _ _ _ hI H
  rw [htl, show n + (l.toArray.size - n) = l.toArray.size by omega] at R
  exact R
end
end Go.Proofs.YtbmjnfnekmeegaaGreatDoor

/- A region that draws its order, where some operations ('loose' ones, by number) have a value of which the world has its say, and may change what was there, by a relation R of the prover's. What the others yield they yield in every world that R leads to, and keep what was there: so they may go ahead of a loose one or behind it. -/
namespace Go.Proofs.YtbmjnfnekmeegaaGreatDoor.Rel
set_option linter.unusedVariables false
set_option linter.unusedSimpArgs false
open Go Go.RowKit
section
/-- What a loose operation may change: a way that goes on, and holds what is merely kept. -/
structure Way (R : World → World → Prop) : Prop where
  keep : ∀ {a b : World}, Keep a b → R a b
  trans : ∀ {a b c : World}, R a b → R b c → R a c
theorem Way.ofKeep : Way Keep := ⟨fun h => h, fun h k => h.trans k⟩
variable {P : Program} {ops : Array Oper} {md : Region.Mode} {Q : Act → World → Prop} {R : World → World → Prop}

/-- The operation gives some value and world that M holds of. -/
def Gives (P : Program) (M : Value → World → Prop) : Result Next → Prop
  | .ok (.value u) W => M u W
  | .ok .skip W => M undef W
  | .ok (.enter f args) W => Calls P f args W fun e W' => ∃ v, e = .returned v ∧ M v W'
  | _ => False
theorem Gives.mono {M M' : Value → World → Prop} {r : Result Next} (h : ∀ v W, M v W → M' v W) (hh : Gives P M r) : Gives P M' r := by
  cases r with
  | halt x W => exact hh.elim
  | ok n W =>
    cases n
    case value u => exact h _ _ hh
    case skip => exact h _ _ hh
    case enter f args => exact Calls.mono (show Calls P f args W _ from hh) fun e W' ⟨v, he, hm⟩ => ⟨v, he, h _ _ hm⟩
    all_goals exact hh.elim
theorem gives_value {M : Value → World → Prop} {u : Value} {W : World} (h : M u W) : Gives P M (.ok (.value u) W) := h
theorem gives_skip {M : Value → World → Prop} {W : World} (h : M undef W) : Gives P M (.ok .skip W) := h
theorem gives_enter {M : Value → World → Prop} {f : FuncId} {args : Array Value} {W : World} (h : Calls P f args W fun e W' => ∃ v, e = .returned v ∧ M v W') : Gives P M (.ok (.enter f args) W) := h
/-- Asked for: behind w it yields v wherever it is asked, and keeps what was there; not asked for: nothing. -/
def SureK (P : Program) (ops : Array Oper) (R : World → World → Prop) (w : World) (o : Oper) (v : Value) (a : Act) : Prop :=
  (Region.wanted o (yielded ops a.tmps) = true ∧ ∀ W, R w W → Yes P (Keep W) v ((execOp a.eval o).run P W)) ∨ (Region.wanted o (yielded ops a.tmps) = false ∧ v = undef)
theorem SureK.less (T : Way R) {w w' : World} {o : Oper} {v : Value} {a : Act} (h : R w w') (hs : SureK P ops R w o v a) : SureK P ops R w' o v a :=
  hs.imp (fun ⟨hw, hr⟩ => ⟨hw, fun W hk => hr W (T.trans h hk)⟩) id
theorem SureK.far {w : World} {o : Oper} {v : Value} {a : Act} (hs : ∀ cs b, o.op ≠ .select cs b) {d : Option Tmp} {u : Value} (h : ∀ x, d = some x → x ∉ o.looksAt ops) :
    SureK P ops R w o v (a.put d u) ↔ SureK P ops R w o v a := by
  unfold SureK
  rw [execOp_put o hs a d u h, wanted_put o a d u h]
/-- Asked for: wherever it is asked behind w it gives a value and a world, from which on K. -/
def LooseK (P : Program) (ops : Array Oper) (R : World → World → Prop) (w : World) (o : Oper) (K : World → Act → Prop) (a : Act) : Prop :=
  Region.wanted o (yielded ops a.tmps) = true ∧ ∀ W, Keep w W → Gives P (fun v W' => R W W' ∧ K W' (a.put o.dst v)) ((execOp a.eval o).run P W)
def stepK (P : Program) (ops : Array Oper) (R : World → World → Prop) (w : World) (i : Nat) (K : World → Act → Prop) (a : Act) : Prop :=
  match ops[i]? with
  | none => K w a
  | some o => (∃ v, SureK P ops R w o v a ∧ K w (a.put o.dst v)) ∨ LooseK P ops R w o K a
theorem stepK_some {w : World} {i : Nat} {o : Oper} {K : World → Act → Prop} {a : Act} (h : ops[i]? = some o) : stepK P ops R w i K a = ((∃ v, SureK P ops R w o v a ∧ K w (a.put o.dst v)) ∨ LooseK P ops R w o K a) := by
  simp only [stepK, h]
def everyK (P : Program) (md : Region.Mode) (ops : Array Oper) (R : World → World → Prop) (Q : Act → World → Prop) : Nat → Array Bool → World → Act → Prop
  | 0, listed, w, a => Region.ready md ops listed = [] ∧ ∀ W, Keep w W → Q a W
  | fuel + 1, listed, w, a => (Region.ready md ops listed = [] → ∀ W, Keep w W → Q a W) ∧ ∀ i ∈ Region.ready md ops listed, stepK P ops R w i (everyK P md ops R Q fuel (listed.setIfInBounds i true)) a
theorem oper_of_gives {o : Oper} {a : Act} {W : World} {M : Value → World → Prop} {K : Act → World → Prop} {Q' : Exit → Act → World → Prop} (h : Gives P M ((execOp a.eval o).run P W))
    (hK : ∀ v W', M v W' → K (a.put o.dst v) W') : o.wp P a W K Q' := by
  unfold Oper.wp
  generalize (execOp a.eval o).run P W = r at h ⊢
  cases r with
  | halt x W' => exact h.elim
  | ok n W' =>
    cases n
    case value u => exact hK _ _ h
    case skip => exact hK _ _ h
    case enter f args =>
      simp only [Oper.upon]
      refine Calls.mono (show Calls P f args W' _ from h) ?_
      rintro e W'' ⟨v, rfl, hM⟩
      exact hK _ _ hM
    all_goals exact h.elim
theorem everyK_sound (T : Way R) {Q' : Exit → Act → World → Prop} : ∀ (fuel : Nat) (listed : Array Bool) (w : World) (a : Act) (W : World), Keep w W → everyK P md ops R (fun a W => Q' .normal a W) fuel listed w a → wpAny P md ops Q' fuel listed a W
  | 0, _, _, _, _, hI, h => ⟨h.1, h.2 _ hI⟩
  | fuel + 1, listed, w, a, W, hI, h => by
    refine ⟨fun h0 => h.1 h0 _ hI, fun i hi => ?_⟩
    have h1 := h.2 i hi
    unfold stepK at h1
    unfold wpOp
    split at h1
    · rename_i ho
      simp only [ho]
      exact everyK_sound T fuel _ _ _ _ hI h1
    · rename_i o ho
      simp only [ho]
      rcases h1 with ⟨v, hs, hK⟩ | ⟨hw, hr⟩
      · rcases hs with ⟨hw, hr⟩ | ⟨hw, rfl⟩
        · simp only [hw, if_true]
          exact .inl (oper_of_sure (hr W (T.keep hI)) fun W' hI' => everyK_sound T fuel _ _ _ _ (hI.trans hI') hK)
        · simp only [hw]
          exact everyK_sound T fuel _ _ _ _ hI hK
      · simp only [hw, if_true]
        exact .inl (oper_of_gives (hr W hI) fun v W' hM => everyK_sound T fuel _ _ _ _ (Keep.refl _) hM.2)
theorem stepK_mono {w : World} {i : Nat} {a : Act} {K K' : World → Act → Prop} (h : ∀ w a, K w a → K' w a) (hh : stepK P ops R w i K a) : stepK P ops R w i K' a := by
  unfold stepK at *
  split
  · rename_i ho; simp only [ho] at hh; exact h _ _ hh
  · rename_i o ho
    simp only [ho] at hh
    rcases hh with ⟨v, hs, hk⟩ | ⟨hw, hr⟩
    · exact .inl ⟨v, hs, h _ _ hk⟩
    · exact .inr ⟨hw, fun W hI => (hr W hI).mono fun v W' ⟨h1, h2⟩ => ⟨h1, h _ _ h2⟩⟩
theorem stepK_swap (T : Way R) {w : World} {j : Nat} {oi oj : Oper} {v : Value} (hj : ops[j]? = some oj) (hap : oi.apart ops oj = true) (hsi : ∀ cs b, oi.op ≠ .select cs b) (hsj : ∀ cs b, oj.op ≠ .select cs b)
    {K : World → Act → Prop} {a : Act} (hy : SureK P ops R w oi v a) (h : stepK P ops R w j K (a.put oi.dst v)) : stepK P ops R w j (fun w' a' => SureK P ops R w' oi v a' ∧ K w' (a'.put oi.dst v)) a := by
  obtain ⟨h1, h2, h3⟩ := Oper.apart_spec hap
  rw [stepK_some hj] at h ⊢
  rcases h with ⟨u, hu, hk⟩ | ⟨hw, hr⟩
  · exact .inl ⟨u, (SureK.far hsj h1).1 hu, (SureK.far hsi h3).2 hy, by rw [← Act.put_comm a v u h2]; exact hk⟩
  · rw [wanted_put oj a oi.dst v h1] at hw
    rw [execOp_put oj hsj a oi.dst v h1] at hr
    refine .inr ⟨hw, fun W hI => (hr W hI).mono fun u W' ⟨hk, hK⟩ => ⟨hk, (SureK.far hsi h3).2 (hy.less T (T.trans (T.keep hI) hk)), ?_⟩⟩
    rw [← Act.put_comm a v u h2]
    exact hK
theorem everyK_first (T : Way R) {i : Nat} {oi : Oper} {v : Value} (hi : ops[i]? = some oi) (hsel : ∀ (j : Nat) (o : Oper) cs b, ops[j]? = some o → o.op ≠ .select cs b) :
    ∀ (fuel : Nat) (listed : Array Bool) (w : World) (a : Act),
      (∀ j oj, ops[j]? = some oj → j ≠ i → listed.getD j true = false → (∀ e ∈ oj.after, Region.binds md e = true → e.on ≠ i) → oi.apart ops oj = true) →
      i ∈ Region.ready md ops listed → SureK P ops R w oi v a → everyK P md ops R Q fuel (listed.setIfInBounds i true) w (a.put oi.dst v) → everyK P md ops R Q (fuel + 1) listed w a := by
  intro fuel
  induction fuel with
  | zero =>
    intro listed w a _ hr hy H
    refine ⟨fun h => absurd hr (by rw [h]; exact List.not_mem_nil), fun j hj => ?_⟩
    by_cases hji : j = i
    · subst hji; rw [stepK_some hi]; exact .inl ⟨v, hy, H⟩
    · have h0 := ready_mono hj hji
      rw [H.1] at h0
      exact absurd h0 List.not_mem_nil
  | succ fuel ih =>
    intro listed w a hfree hr hy H
    refine ⟨fun h => absurd hr (by rw [h]; exact List.not_mem_nil), fun j hj => ?_⟩
    by_cases hji : j = i
    · subst hji; rw [stepK_some hi]; exact .inl ⟨v, hy, H⟩
    · obtain ⟨hjun, oj, hoj, hall⟩ := mem_ready.1 hj
      have hnot : ∀ e ∈ oj.after, Region.binds md e = true → e.on ≠ i := by
        intro e he hb heq
        have ha := hall e he hb
        have h0 := (mem_ready.1 hr).1
        subst heq
        by_cases hlt : e.on < listed.size
        · simp [hlt] at h0 ha; rw [h0] at ha; cases ha
        · simp [hlt] at h0
      refine stepK_mono ?_ (stepK_swap T hoj (hfree j oj hoj hji hjun hnot) (fun cs b => hsel i oi cs b hi) (fun cs b => hsel j oj cs b hoj) hy (H.2 j (ready_mono hj hji)))
      rintro w' a' ⟨hy', hK⟩
      refine ih (listed.setIfInBounds j true) w' a' (fun k ok hk hki hun hno => hfree k ok hk hki ?_ hno) (ready_mono hr (Ne.symm hji)) hy' (by rw [Array.setIfInBounds_comm _ _ hji]; exact hK)
      by_cases hjk : j = k
      · subst hjk; exact hjun
      · rwa [getD_set_ne true hjk] at hun
/-- The order of the text; ns: those of which the world has its say. -/
def textK (P : Program) (ops : Array Oper) (R : World → World → Prop) (Q : Act → World → Prop) (ns : List Nat) : List Oper → Nat → World → Act → Prop
  | [], _, w, a => ∀ W, Keep w W → Q a W
  | o :: rest, k, w, a => if ns.contains k = true then LooseK P ops R w o (textK P ops R Q ns rest (k + 1)) a else ∃ v, SureK P ops R w o v a ∧ textK P ops R Q ns rest (k + 1) w (a.put o.dst v)
def lexK (md : Region.Mode) (ops : Array Oper) (ns : List Nat) : Nat → Nat → Array Bool → Bool
  | 0, _, listed => (Region.ready md ops listed).isEmpty
  | fuel + 1, k, listed => (if ns.contains k = true then decide (Region.ready md ops listed = [k]) else (Region.ready md ops listed).contains k && Region.free md ops listed k) && lexK md ops ns fuel (k + 1) (listed.setIfInBounds k true)
theorem everyK_text (T : Way R) {ns : List Nat} (hs : Region.noSelect ops = true) : ∀ (l : List Oper) (k : Nat) (listed : Array Bool) (w : World) (a : Act), (∀ j, l[j]? = ops[k + j]?) →
    lexK md ops ns l.length k listed = true → textK P ops R Q ns l k w a → everyK P md ops R Q l.length listed w a
  | [], _, _, _, _, _, hB, h => ⟨by simpa [lexK] using hB, h⟩
  | o :: l, k, listed, w, a, hl, hB, h => by
    have h0 : ops[k]? = some o := by simpa using (hl 0).symm
    have hnext : ∀ j, l[j]? = ops[k + 1 + j]? := fun j => by
      have := hl (j + 1)
      simpa [Nat.add_assoc, Nat.add_comm 1 j] using this
    simp only [List.length_cons, lexK, Bool.and_eq_true] at hB
    obtain ⟨hr, hB'⟩ := hB
    unfold textK at h
    by_cases hc : ns.contains k = true
    · rw [if_pos hc] at hr h
      have hr : Region.ready md ops listed = [k] := by simpa using hr
      refine ⟨fun h1 => (by rw [h1] at hr; cases hr), fun i hi => ?_⟩
      rw [hr] at hi
      have hik : i = k := by simpa using hi
      subst hik
      rw [stepK_some h0]
      exact .inr ⟨h.1, fun W hI => (h.2 W hI).mono fun v W' ⟨hk, hT⟩ => ⟨hk, everyK_text T hs l (i + 1) _ _ _ hnext hB' hT⟩⟩
    · rw [if_neg hc] at hr h
      simp only [Bool.and_eq_true] at hr
      obtain ⟨v, hy, hK⟩ := h
      exact everyK_first T h0 (Region.noSelect_spec hs) l.length listed w a (Region.free_spec h0 hr.2) (by simpa using hr.1) hy (everyK_text T hs l (k + 1) _ _ _ hnext hB' hK)
def lexKB (md : Region.Mode) (ops : Array Oper) (ns : List Nat) : Bool := Region.noSelect ops && lexK md ops ns ops.size 0 (Array.replicate ops.size false)
/-- THE LAW. -/
theorem region {id : Nat} {Q' : Exit → Act → World → Prop} {a : Act} {w w0 : World} {l : List Oper} (R : World → World → Prop) (T : Way R) (ns : List Nat) (hm : P.follows .mixedOrders = true) (hB : lexKB .any l.toArray ns = true)
    (hk : Keep w0 w) (h : textK P l.toArray R (fun a' W => Q' .normal a' W) ns l 0 w0 a) : (Code.region id l.toArray true).wp P Q' a w := by
  simp only [lexKB, Bool.and_eq_true] at hB
  refine wp_region_any hm ?_
  have := everyK_text T (md := .any) (P := P) (Q := fun a' W => Q' .normal a' W) (ns := ns) hB.1 l 0 (Array.replicate l.toArray.size false) w0 a (by simp) (by simpa using hB.2) h
  simpa using everyK_sound T (Q' := Q') _ _ _ _ w.drew hk.drew this
theorem textK_end {ns : List Nat} {k : Nat} {w : World} {a : Act} (h : ∀ W, Keep w W → Q a W) : textK P ops R Q ns [] k w a := h
theorem textK_step {ns : List Nat} {k : Nat} {w : World} {a : Act} {o : Oper} {rest : List Oper} {v : Value} (hn : ns.contains k = false) (hw : Region.wanted o (yielded ops a.tmps) = true)
    (hr : ∀ W, R w W → Yes P (Keep W) v ((execOp a.eval o).run P W)) (h : textK P ops R Q ns rest (k + 1) w (a.put o.dst v)) : textK P ops R Q ns (o :: rest) k w a := by
  unfold textK
  rw [if_neg (by rw [hn]; decide)]
  exact ⟨v, .inl ⟨hw, hr⟩, h⟩
theorem textK_pass {ns : List Nat} {k : Nat} {w : World} {a : Act} {o : Oper} {rest : List Oper} (hn : ns.contains k = false) (hw : Region.wanted o (yielded ops a.tmps) = false)
    (h : textK P ops R Q ns rest (k + 1) w (a.put o.dst undef)) : textK P ops R Q ns (o :: rest) k w a := by
  unfold textK
  rw [if_neg (by rw [hn]; decide)]
  exact ⟨undef, .inr ⟨hw, rfl⟩, h⟩
theorem textK_loose {ns : List Nat} {k : Nat} {w : World} {a : Act} {o : Oper} {rest : List Oper} (hn : ns.contains k = true) (hw : Region.wanted o (yielded ops a.tmps) = true)
    (hr : ∀ W, Keep w W → Gives P (fun v W' => R W W' ∧ textK P ops R Q ns rest (k + 1) W' (a.put o.dst v)) ((execOp a.eval o).run P W)) : textK P ops R Q ns (o :: rest) k w a := by
  unfold textK
  rw [if_pos hn]
  exact ⟨hw, hr⟩

/-! ### In an order of the prover's own -/
def textO (P : Program) (ops : Array Oper) (R : World → World → Prop) (Q : Act → World → Prop) (ns : List Nat) : List Nat → World → Act → Prop
  | [], w, a => ∀ W, Keep w W → Q a W
  | k :: rest, w, a => match ops[k]? with
    | none => False
    | some o => if ns.contains k = true then LooseK P ops R w o (textO P ops R Q ns rest) a else ∃ v, SureK P ops R w o v a ∧ textO P ops R Q ns rest w (a.put o.dst v)
def lexO (md : Region.Mode) (ops : Array Oper) (ns : List Nat) : List Nat → Array Bool → Bool
  | [], listed => (Region.ready md ops listed).isEmpty
  | k :: rest, listed => (if ns.contains k = true then decide (Region.ready md ops listed = [k]) else (Region.ready md ops listed).contains k && Region.free md ops listed k) && lexO md ops ns rest (listed.setIfInBounds k true)
theorem everyK_ord (T : Way R) {ns : List Nat} (hs : Region.noSelect ops = true) : ∀ (l : List Nat) (listed : Array Bool) (w : World) (a : Act),
    lexO md ops ns l listed = true → textO P ops R Q ns l w a → everyK P md ops R Q l.length listed w a
  | [], _, _, _, hB, h => ⟨by simpa [lexO] using hB, h⟩
  | k :: l, listed, w, a, hB, h => by
    simp only [lexO, Bool.and_eq_true] at hB
    obtain ⟨hr, hB'⟩ := hB
    unfold textO at h
    split at h
    · exact h.elim
    · rename_i o h0
      by_cases hc : ns.contains k = true
      · rw [if_pos hc] at hr h
        have hr : Region.ready md ops listed = [k] := by simpa using hr
        refine ⟨fun h1 => (by rw [h1] at hr; cases hr), fun i hi => ?_⟩
        rw [hr] at hi
        have hik : i = k := by simpa using hi
        subst hik
        rw [stepK_some h0]
        exact .inr ⟨h.1, fun W hI => (h.2 W hI).mono fun v W' ⟨hk, hT⟩ => ⟨hk, everyK_ord T hs l _ _ _ hB' hT⟩⟩
      · rw [if_neg hc] at hr h
        simp only [Bool.and_eq_true] at hr
        obtain ⟨v, hy, hK⟩ := h
        exact everyK_first T h0 (Region.noSelect_spec hs) l.length listed w a (Region.free_spec h0 hr.2) (by simpa using hr.1) hy (everyK_ord T hs l _ _ _ hB' hK)
def lexOB (md : Region.Mode) (ops : Array Oper) (ns ord : List Nat) : Bool := Region.noSelect ops && decide (ord.length = ops.size) && lexO md ops ns ord (Array.replicate ops.size false)
/-- THE LAW, IN AN ORDER OF THE PROVER'S OWN: a loose one stands where nothing else is ready. -/
theorem regionO {id : Nat} {Q' : Exit → Act → World → Prop} {a : Act} {w w0 : World} {l : List Oper} (R : World → World → Prop) (T : Way R) (ns ord : List Nat) (hm : P.follows .mixedOrders = true) (hB : lexOB .any l.toArray ns ord = true)
    (hk : Keep w0 w) (h : textO P l.toArray R (fun a' W => Q' .normal a' W) ns ord w0 a) : (Code.region id l.toArray true).wp P Q' a w := by
  simp only [lexOB, Bool.and_eq_true, decide_eq_true_eq] at hB
  refine wp_region_any hm ?_
  have := everyK_ord T (md := .any) (P := P) (Q := fun a' W => Q' .normal a' W) (ns := ns) hB.1.1 ord (Array.replicate l.toArray.size false) w0 a hB.2 h
  rw [hB.1.2] at this
  simpa using everyK_sound T (Q' := Q') _ _ _ _ w.drew hk.drew this
theorem ordK_end {ns : List Nat} {w : World} {a : Act} (h : ∀ W, Keep w W → Q a W) : textO P ops R Q ns [] w a := h
theorem ordK_step {ns : List Nat} {k : Nat} {w : World} {a : Act} {o : Oper} {rest : List Nat} {v : Value} (hn : ns.contains k = false) (ho : ops[k]? = some o) (hw : Region.wanted o (yielded ops a.tmps) = true)
    (hr : ∀ W, R w W → Yes P (Keep W) v ((execOp a.eval o).run P W)) (h : textO P ops R Q ns rest w (a.put o.dst v)) : textO P ops R Q ns (k :: rest) w a := by
  unfold textO
  simp only [ho]
  rw [if_neg (by rw [hn]; decide)]
  exact ⟨v, .inl ⟨hw, hr⟩, h⟩
theorem ordK_pass {ns : List Nat} {k : Nat} {w : World} {a : Act} {o : Oper} {rest : List Nat} (hn : ns.contains k = false) (ho : ops[k]? = some o) (hw : Region.wanted o (yielded ops a.tmps) = false)
    (h : textO P ops R Q ns rest w (a.put o.dst undef)) : textO P ops R Q ns (k :: rest) w a := by
  unfold textO
  simp only [ho]
  rw [if_neg (by rw [hn]; decide)]
  exact ⟨undef, .inr ⟨hw, rfl⟩, h⟩
theorem ordK_loose {ns : List Nat} {k : Nat} {w : World} {a : Act} {o : Oper} {rest : List Nat} (hn : ns.contains k = true) (ho : ops[k]? = some o) (hw : Region.wanted o (yielded ops a.tmps) = true)
    (hr : ∀ W, Keep w W → Gives P (fun v W' => R W W' ∧ textO P ops R Q ns rest W' (a.put o.dst v)) ((execOp a.eval o).run P W)) : textO P ops R Q ns (k :: rest) w a := by
  unfold textO
  simp only [ho]
  rw [if_pos hn]
  exact ⟨hw, hr⟩
end
end Go.Proofs.YtbmjnfnekmeegaaGreatDoor.Rel

/- A region that draws its order, of which two operations may stand either way round (a call that writes, and memory that is made): the sure ones first, then each order that is left. -/
namespace Go.Proofs.YtbmjnfnekmeegaaGreatDoor.Rel
set_option linter.unusedVariables false
set_option linter.unusedSimpArgs false
open Go Go.RowKit
section
variable {P : Program} {ops : Array Oper} {md : Region.Mode} {Q : Act → World → Prop} {R : World → World → Prop}
def textP (P : Program) (ops : Array Oper) (R : World → World → Prop) (ns : List Nat) (F : Array Bool → World → Act → Prop) : List Nat → Array Bool → World → Act → Prop
  | [], listed, w, a => F listed w a
  | k :: rest, listed, w, a => match ops[k]? with
    | none => False
    | some o => if ns.contains k = true then LooseK P ops R w o (textP P ops R ns F rest (listed.setIfInBounds k true)) a else ∃ v, SureK P ops R w o v a ∧ textP P ops R ns F rest (listed.setIfInBounds k true) w (a.put o.dst v)
def lexP (md : Region.Mode) (ops : Array Oper) (ns : List Nat) : List Nat → Array Bool → Bool
  | [], _ => true
  | k :: rest, listed => (if ns.contains k = true then decide (Region.ready md ops listed = [k]) else (Region.ready md ops listed).contains k && Region.free md ops listed k) && lexP md ops ns rest (listed.setIfInBounds k true)
theorem everyK_pre (T : Way R) {ns : List Nat} (hs : Region.noSelect ops = true) (fuel : Nat) : ∀ (l : List Nat) (listed : Array Bool) (w : World) (a : Act),
    lexP md ops ns l listed = true → textP P ops R ns (fun li w a => everyK P md ops R Q fuel li w a) l listed w a → everyK P md ops R Q (l.length + fuel) listed w a
  | [], listed, w, a, _, h => by simpa [textP] using h
  | k :: l, listed, w, a, hB, h => by
    have e : (k :: l).length + fuel = (l.length + fuel) + 1 := by simp only [List.length_cons]; omega
    rw [e]
    simp only [lexP, Bool.and_eq_true] at hB
    obtain ⟨hr, hB'⟩ := hB
    unfold textP at h
    split at h
    · exact h.elim
    · rename_i o h0
      by_cases hc : ns.contains k = true
      · rw [if_pos hc] at hr h
        have hr : Region.ready md ops listed = [k] := by simpa using hr
        refine ⟨fun h1 => (by rw [h1] at hr; cases hr), fun i hi => ?_⟩
        rw [hr] at hi
        have hik : i = k := by simpa using hi
        subst hik
        rw [stepK_some h0]
        exact .inr ⟨h.1, fun W hI => (h.2 W hI).mono fun v W' ⟨hk, hT⟩ => ⟨hk, everyK_pre T hs fuel l _ _ _ hB' hT⟩⟩
      · rw [if_neg hc] at hr h
        simp only [Bool.and_eq_true] at hr
        obtain ⟨v, hy, hK⟩ := h
        exact everyK_first T h0 (Region.noSelect_spec hs) (l.length + fuel) listed w a (Region.free_spec h0 hr.2) (by simpa using hr.1) hy (everyK_pre T hs fuel l _ _ _ hB' hK)
def lexPB (md : Region.Mode) (ops : Array Oper) (ns ord : List Nat) (fuel : Nat) : Bool := Region.noSelect ops && decide (ord.length + fuel = ops.size) && lexP md ops ns ord (Array.replicate ops.size false)
/-- THE LAW: ord first; of what is left each order is shown. -/
theorem regionP {id : Nat} {Q' : Exit → Act → World → Prop} {a : Act} {w w0 : World} {l : List Oper} (R : World → World → Prop) (T : Way R) (ns ord : List Nat) (fuel : Nat) (hm : P.follows .mixedOrders = true) (hB : lexPB .any l.toArray ns ord fuel = true)
    (hk : Keep w0 w) (h : textP P l.toArray R ns (fun li w a => everyK P .any l.toArray R (fun a' W => Q' .normal a' W) fuel li w a) ord (Array.replicate l.toArray.size false) w0 a) : (Code.region id l.toArray true).wp P Q' a w := by
  simp only [lexPB, Bool.and_eq_true, decide_eq_true_eq] at hB
  refine wp_region_any hm ?_
  have := everyK_pre T (md := .any) (P := P) (Q := fun a' W => Q' .normal a' W) (ns := ns) hB.1.1 fuel ord (Array.replicate l.toArray.size false) w0 a hB.2 h
  rw [hB.1.2] at this
  simpa using everyK_sound T (Q' := Q') _ _ _ _ w.drew hk.drew this
theorem pre_end {ns : List Nat} {F : Array Bool → World → Act → Prop} {listed : Array Bool} {w : World} {a : Act} (h : F listed w a) : textP P ops R ns F [] listed w a := h
theorem pre_step {ns : List Nat} {F : Array Bool → World → Act → Prop} {listed : Array Bool} {k : Nat} {w : World} {a : Act} {o : Oper} {rest : List Nat} {v : Value} (hn : ns.contains k = false) (ho : ops[k]? = some o) (hw : Region.wanted o (yielded ops a.tmps) = true)
    (hr : ∀ W, R w W → Yes P (Keep W) v ((execOp a.eval o).run P W)) (h : textP P ops R ns F rest (listed.setIfInBounds k true) w (a.put o.dst v)) : textP P ops R ns F (k :: rest) listed w a := by
  unfold textP
  simp only [ho]
  rw [if_neg (by rw [hn]; decide)]
  exact ⟨v, .inl ⟨hw, hr⟩, h⟩
theorem every_end {listed : Array Bool} {w : World} {a : Act} (hr : Region.ready md ops listed = []) (h : ∀ W, Keep w W → Q a W) : everyK P md ops R Q 0 listed w a := ⟨hr, h⟩
theorem every_one {fuel : Nat} {listed : Array Bool} {w : World} {a : Act} (k : Nat) {o : Oper} (hr : Region.ready md ops listed = [k]) (ho : ops[k]? = some o) (hw : Region.wanted o (yielded ops a.tmps) = true)
    (hg : ∀ W, Keep w W → Gives P (fun v W' => R W W' ∧ everyK P md ops R Q fuel (listed.setIfInBounds k true) W' (a.put o.dst v)) ((execOp a.eval o).run P W)) : everyK P md ops R Q (fuel + 1) listed w a := by
  refine ⟨fun h1 => (by rw [h1] at hr; cases hr), fun i hi => ?_⟩
  rw [hr] at hi
  have hik : i = k := by simpa using hi
  subst hik
  rw [stepK_some ho]
  exact .inr ⟨hw, hg⟩
theorem every_two {fuel : Nat} {listed : Array Bool} {w : World} {a : Act} (j k : Nat) {oj ok : Oper} (hr : Region.ready md ops listed = [j, k]) (hoj : ops[j]? = some oj) (hwj : Region.wanted oj (yielded ops a.tmps) = true) (hok : ops[k]? = some ok) (hwk : Region.wanted ok (yielded ops a.tmps) = true)
    (hgj : ∀ W, Keep w W → Gives P (fun v W' => R W W' ∧ everyK P md ops R Q fuel (listed.setIfInBounds j true) W' (a.put oj.dst v)) ((execOp a.eval oj).run P W))
    (hgk : ∀ W, Keep w W → Gives P (fun v W' => R W W' ∧ everyK P md ops R Q fuel (listed.setIfInBounds k true) W' (a.put ok.dst v)) ((execOp a.eval ok).run P W)) : everyK P md ops R Q (fuel + 1) listed w a := by
  refine ⟨fun h1 => (by rw [h1] at hr; cases hr), fun i hi => ?_⟩
  rw [hr] at hi
  have hik : i = j ∨ i = k := by simpa using hi
  rcases hik with rfl | rfl
  · rw [stepK_some hoj]
    exact .inr ⟨hwj, hgj⟩
  · rw [stepK_some hok]
    exact .inr ⟨hwk, hgk⟩
end
end Go.Proofs.YtbmjnfnekmeegaaGreatDoor.Rel

/- All stays but these blocks; blocks that grow. -/
namespace Go.Proofs.YtbmjnfnekmeegaaGreatDoor
set_option linter.unusedVariables false
set_option linter.unusedSimpArgs false
open Go.RowKit

/-- What was there stays, but for the blocks that S holds of. -/
structure KeepBut (S : Nat → Prop) (w w' : World) : Prop where
  os : w'.os = w.os
  tape : w'.tape = w.tape
  output : w'.output = w.output
  size : w.heap.size ≤ w'.heap.size
  block : ∀ k, k < w.heap.size → ¬ S k → w'.heap[k]? = w.heap[k]?
theorem Keep.but {w w' : World} (h : Keep w w') (S : Nat → Prop) : KeepBut S w w' := ⟨Below.os h, Below.tape h, Below.output h, h.size, fun k hk _ => Below.block h k hk⟩
theorem KeepBut.refl (S : Nat → Prop) (w : World) : KeepBut S w w := (Keep.refl w).but S
theorem KeepBut.trans {S : Nat → Prop} {a b c : World} (h : KeepBut S a b) (k : KeepBut S b c) : KeepBut S a c :=
  ⟨k.os.trans h.os, k.tape.trans h.tape, k.output.trans h.output, Nat.le_trans h.size k.size, fun i hi hs => (k.block i (Nat.lt_of_lt_of_le hi h.size) hs).trans (h.block i hi hs)⟩
theorem KeepBut.mono {S T : Nat → Prop} {w w' : World} (h : KeepBut S w w') (hst : ∀ k, k < w.heap.size → S k → T k) : KeepBut T w w' := ⟨h.os, h.tape, h.output, h.size, fun k hk ht => h.block k hk fun hs => ht (hst k hk hs)⟩
theorem KeepBut.keep {w w' : World} {S : Nat → Prop} (h : KeepBut S w w') (hs : ∀ k, S k → w.heap.size ≤ k) : Keep w w' := ⟨h.os, h.tape, h.output, h.size, fun k hk => h.block k hk fun hS => absurd (hs k hS) (by omega)⟩
theorem KeepBut.setCell {S : Nat → Prop} {a w : World} (h : KeepBut S a w) {p : Addr} (hp : S p.block ∨ a.heap.size ≤ p.block) (v : Value) : KeepBut S a (w.setCell p v) :=
  ⟨h.os, h.tape, h.output, by simpa [World.setCell] using h.size, fun k hk hs => by
    rw [Below.heap_setCell _ _ _ _ (by rintro rfl; rcases hp with hp | hp; exact hs hp; omega)]
    exact h.block k hk hs⟩
theorem KeepBut.alloc {S : Nat → Prop} {a w : World} (h : KeepBut S a w) (o : Obj) : KeepBut S a (w.alloc o) :=
  ⟨h.os, h.tape, h.output, Nat.le_trans h.size (by simp), fun k hk hs => by rw [Below.heap_alloc _ _ _ (Nat.lt_of_lt_of_le hk h.size)]; exact h.block k hk hs⟩
theorem KeepBut.drew {S : Nat → Prop} {a w : World} (h : KeepBut S a w) : KeepBut S a w.drew := ⟨h.os, h.tape, h.output, h.size, h.block⟩
theorem Box.but {S : Nat → Prop} {w w' : World} {b : Nat} {vs : Array Value} (h : Box w b vs) (k : KeepBut S w w') (hb : ¬ S b) : Box w' b vs := by
  have hl := h.lt
  obtain ⟨t, h⟩ := h
  exact ⟨t, by rw [k.block _ hl hb]; exact h⟩

theorem Keep.butNew {w a b : World} {O : Nat → Prop} (h : Keep w a) (k : KeepBut O a b) (hO : ∀ x, O x → w.heap.size ≤ x) : Keep w b := ((h.but O).trans k).keep hO
theorem grown_box {W w1 : World} {row : Option Nat} (hg : W.grownBy w1 row) {c : Nat} {vs : Array Value} (hb : Box W c vs) (hne : some c ≠ row) : Box w1 c vs := by
  have hl := hb.lt
  obtain ⟨t, h⟩ := hb
  exact ⟨t, by rw [hg.block c hl hne]; exact h⟩
theorem grown_keep {w W w1 : World} {row : Option Nat} (k : Keep w W) (hg : W.grownBy w1 row) (hr : ∀ c, row = some c → w.heap.size ≤ c) : Keep w w1 := Below.grown k hg (Below.size k) hr
theorem butWay (T : Nat → Prop) : Rel.Way (KeepBut T) := ⟨fun k => k.but _, fun h k => h.trans k⟩
theorem Keep.setAt {a w : World} {b i : Nat} (hp : a.heap.size ≤ b) (h : Keep a w) (v : Value) : Keep a (w.setCell ⟨b, i, none⟩ v) := h.setCell hp v
theorem KeepBut.setAt {S : Nat → Prop} {a w : World} {b i : Nat} (hp : S b ∨ a.heap.size ≤ b) (h : KeepBut S a w) (v : Value) : KeepBut S a (w.setCell ⟨b, i, none⟩ v) := h.setCell hp v
/-- Three cells of a struct are written with what they hold already, or anew. -/
theorem Box.set3 {W : World} {c : Nat} {u0 u1 u2 : Value} (h : Box W c #[u0, u1, u2]) (v0 v1 v2 : Value) : Box (((W.setCell ⟨c, 0, none⟩ (v0)).setCell ⟨c, 1, none⟩ (v1)).setCell ⟨c, 2, none⟩ (v2)) c #[v0, v1, v2] := by
  simpa using ((h.set 0 v0).set 1 v1).set 2 v2
theorem Box.other3 {W : World} {c d : Nat} {us : Array Value} (h : Box W d us) (hn : d ≠ c) (v0 v1 v2 : Value) : Box (((W.setCell ⟨c, 0, none⟩ (v0)).setCell ⟨c, 1, none⟩ (v1)).setCell ⟨c, 2, none⟩ (v2)) d us :=
  ((h.other (a := ⟨c, 0, none⟩) hn v0).other (a := ⟨c, 1, none⟩) hn v1).other (a := ⟨c, 2, none⟩) hn v2
theorem Keep.set3 {w W : World} {c : Nat} (h : Keep w W) (hc : w.heap.size ≤ c) (v0 v1 v2 : Value) : Keep w (((W.setCell ⟨c, 0, none⟩ (v0)).setCell ⟨c, 1, none⟩ (v1)).setCell ⟨c, 2, none⟩ (v2)) :=
  Keep.setAt hc (Keep.setAt hc (Keep.setAt hc h v0) v1) v2

/-- An error as the reference tells it: part, place, number. -/
def wrongV (part : ByteArray) (at_ err : Int) : Value := .agg #[.string part, .int .i64 at_, .int .i64 err]
def okV : Value := wrongV ⟨#[]⟩ 0 0
end Go.Proofs.YtbmjnfnekmeegaaGreatDoor

/- Bytes put into a row, tags taken off, where tags stand; plain. -/
namespace Go.Proofs.YtbmjnfnekmeegaaGreatDoor
set_option linter.unusedVariables false
set_option linter.unusedSimpArgs false
open Go.RowKit
def In64 (x : Int) : Prop := -9223372036854775808 ≤ x ∧ x ≤ 9223372036854775807
def putAt : List Int → Nat → List Int → List Int
  | bs, _, [] => bs
  | bs, a, x :: xs => putAt (bs.set a x) (a + 1) xs
def offAt : List Bool → Nat → Nat → List Bool
  | ts, _, 0 => ts
  | ts, a, n + 1 => offAt (ts.set (a / 16) false) (a + 1) n
theorem putAt_length (xs : List Int) : ∀ (bs : List Int) (a : Nat), (putAt bs a xs).length = bs.length := by
  induction xs with
  | nil => intro bs a; rfl
  | cons x xs ih => intro bs a; simp [putAt, ih]
theorem putAt_append (xs ys : List Int) : ∀ (bs : List Int) (a : Nat), putAt bs a (xs ++ ys) = putAt (putAt bs a xs) (a + xs.length) ys := by
  induction xs with
  | nil => intro bs a; rfl
  | cons x xs ih => intro bs a; simp only [List.cons_append, putAt, ih, List.length_cons]; rw [show a + (xs.length + 1) = a + 1 + xs.length by omega]
theorem putAt_step (xs : List Int) (bs : List Int) (a k : Nat) (h : k < xs.length) : putAt bs a (xs.take (k + 1)) = (putAt bs a (xs.take k)).set (a + k) (xs.getD k 0) := by
  rw [List.take_succ_eq_append_getElem h, putAt_append]
  simp only [putAt, List.length_take, Nat.min_eq_left (Nat.le_of_lt h), List.getD_eq_getElem?_getD, List.getElem?_eq_getElem h, Option.getD_some]
theorem offAt_length (n : Nat) : ∀ (ts : List Bool) (a : Nat), (offAt ts a n).length = ts.length := by
  induction n with
  | zero => intro ts a; rfl
  | succ n ih => intro ts a; simp [offAt, ih]
theorem offAt_step (n : Nat) : ∀ (ts : List Bool) (a : Nat), offAt ts a (n + 1) = (offAt ts a n).set ((a + n) / 16) false := by
  induction n with
  | zero => intro ts a; rfl
  | succ n ih => intro ts a; rw [offAt, ih, offAt, show a + 1 + n = a + (n + 1) by omega]
theorem putAt_byte (xs : List Int) (hx : ∀ z ∈ xs, IsByte z) : ∀ (bs : List Int) (a : Nat), (∀ z ∈ bs, IsByte z) → ∀ z ∈ putAt bs a xs, IsByte z := by
  induction xs with
  | nil => intro bs a h; exact h
  | cons x xs ih =>
    intro bs a h
    refine ih (fun z hz => hx z (by simp [hz])) _ _ fun z hz => ?_
    rcases List.mem_or_eq_of_mem_set hz with h' | rfl
    · exact h z h'
    · exact hx _ (by simp)
def part (zs : List Int) (i n : Nat) : List Int := (zs.drop i).take n
/-- Sixteen bytes and a tag, as a capability. -/
def capV (t : Bool) (zs : List Int) : Value := .agg #[.bool t, .int .u32 (leW (part zs 0 4)), .int .u32 (leW (part zs 4 4)), .int .u32 (leW (part zs 8 4)), .int .u16 (leW (part zs 12 2)), .int .u16 (leW (part zs 14 2))]
def sixteen (bs : List Int) (a : Nat) : List Int := (bs.drop a).take 16
/-- Of the first k granules. -/
def tagsAt (ts : List Bool) : Nat → List Int
  | 0 => []
  | k + 1 => if ts.getD k false = true then tagsAt ts k ++ [16 * (k : Int)] else tagsAt ts k
theorem tagsAt_length (ts : List Bool) (k : Nat) : (tagsAt ts k).length ≤ k := by
  induction k with
  | zero => simp [tagsAt]
  | succ k ih => unfold tagsAt; split <;> (try simp) <;> omega
end Go.Proofs.YtbmjnfnekmeegaaGreatDoor

/- A capability, plain. -/
namespace Go.Proofs.YtbmjnfnekmeegaaGreatDoor
set_option linter.unusedVariables false
set_option linter.unusedSimpArgs false
open Go.RowKit
/-- A capability, plain. -/
structure C6 where
  t : Bool
  b : Int
  p : Int
  a : Int
  m : Int
  y : Int
def C6.v (c : C6) : Value := .agg #[.bool c.t, .int .u32 c.b, .int .u32 c.p, .int .u32 c.a, .int .u16 c.m, .int .u16 c.y]
/-- Each field is a number of its kind. -/
structure C6.Ok (c : C6) : Prop where
  b : 0 ≤ c.b ∧ c.b ≤ 4294967295
  p : 0 ≤ c.p ∧ c.p ≤ 4294967295
  a : 0 ≤ c.a ∧ c.a ≤ 4294967295
  m : 0 ≤ c.m ∧ c.m ≤ 65535
  y : 0 ≤ c.y ∧ c.y ≤ 65535
end Go.Proofs.YtbmjnfnekmeegaaGreatDoor
