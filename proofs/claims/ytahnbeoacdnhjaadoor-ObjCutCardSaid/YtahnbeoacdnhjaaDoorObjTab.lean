/- Objects, plain: what P1501 says of any object, of any bytes. -/
import Derived.Test.YtahnbeoacdnhjaaDoorLexTab
namespace Go.Proofs.YtahnbeoacdnhjaaDoor
set_option linter.unusedVariables false
set_option linter.unusedSimpArgs false
open Go.RowKit
structure SymV where
  name : ByteArray
  data : Bool
  off : Int
  exp : Bool
structure RelV where
  kind : Int
  off : Int
  comp : ByteArray
  name : ByteArray
  perm : Int
structure ObjV where
  name : ByteArray
  code : List Nat
  data : List Nat
  syms : List SymV
  rels : List RelV
/-- Part, place, error; of none the error is 0. -/
abbrev WrV := ByteArray × Int × Int
def okW : WrV := (⟨#[]⟩, 0, 0)
def nameT : ByteArray := ⟨#[110, 97, 109, 101]⟩
def codeT : ByteArray := ⟨#[99, 111, 100, 101]⟩
def dataT : ByteArray := ⟨#[100, 97, 116, 97]⟩
def symsT : ByteArray := ⟨#[115, 121, 109, 115]⟩
def symT : ByteArray := ⟨#[115, 121, 109]⟩
def relsT : ByteArray := ⟨#[114, 101, 108, 115]⟩
def relT : ByteArray := ⟨#[114, 101, 108]⟩
def byteT : ByteArray := ⟨#[98, 121, 116, 101]⟩
/-- A Name's letters and digits. -/
def goodC (c : UInt8) : Bool := lxLetter c.toNat || lxDigit c.toNat
def goodL (l : List UInt8) : Bool := match l with
  | [] => false
  | c :: r => !lxDigit c.toNat && decide (r.length < 16) && (c :: r).all goodC
def goodB (s : ByteArray) : Bool := goodL s.data.toList
/-- By bytes: is the first below the second? -/
def bytesLt (a b : ByteArray) : Bool := Op.bytesLess a.toList b.toList
def findS (l : List SymV) (n : ByteArray) : Option SymV := match l with
  | [] => none
  | s :: r => if s.name = n then some s else findS r n
def secL (o : ObjV) (d : Bool) : Nat := if d = true then o.data.length else o.code.length
def symE (o : ObjV) (i : Nat) : Int := match o.syms[i]? with
  | none => 0
  | some s =>
    if goodB s.name = false then 12 else
    if (match i with
      | 0 => false
      | j + 1 => match o.syms[j]? with
        | none => false
        | some p => !bytesLt p.name s.name) = true then 13 else
    if s.off > secL o s.data then 6 else
    if (s.exp && s.data) = true then 17 else
    if (s.exp && decide (s.off % 4 ≠ 0)) = true then 5 else
    if (s.exp && decide (s.off = secL o s.data)) = true then 6 else 0
/-- The permissions that a section lets one have. -/
def mostP (d : Bool) : Int := if d = true then 27 else 13
def relE (o : ObjV) (i : Nat) : Int := match o.rels[i]? with
  | none => 0
  | some r =>
    if r.kind < 1 ∨ 3 < r.kind then 17 else
    if (match i with
      | 0 => false
      | j + 1 => match o.rels[j]? with
        | none => false
        | some p => decide (r.off ≤ p.off)) = true then 13 else
    if r.off % 16 ≠ 0 then 5 else
    if r.off + 16 > o.data.length then 6 else
    if r.kind = 1 then
      match findS o.syms r.name with
      | none => 12
      | some s => if r.comp ≠ ⟨#[]⟩ then 17 else if bits .andNot .u16 r.perm (mostP s.data) ≠ 0 then 3 else 0
    else if r.kind = 2 then (if (!goodB r.comp || !goodB r.name) = true then 12 else if r.perm ≠ 0 then 17 else 0)
    else (if goodB r.name = false then 12 else if r.comp ≠ ⟨#[]⟩ ∨ r.perm ≠ 0 then 17 else 0)
/-- The first place of n from i on that has an error. -/
def firstE (f : Nat → Int) : Nat → Nat → Option (Nat × Int)
  | 0, _ => none
  | n + 1, i => if f i = 0 then firstE f n (i + 1) else some (i, f i)
def objW (o : ObjV) : WrV :=
  if goodB o.name = false then (nameT, 0, 12) else
  if o.code.length > 16384 then (codeT, o.code.length, 15) else
  if o.code.length % 4 ≠ 0 then (codeT, o.code.length, 5) else
  if o.data.length > 16384 then (dataT, o.data.length, 15) else
  if o.data.length % 16 ≠ 0 then (dataT, o.data.length, 5) else
  if o.syms.length > 256 then (symsT, o.syms.length, 15) else
  match firstE (symE o) o.syms.length 0 with
  | some (i, e) => (symT, i, e)
  | none =>
    if o.rels.length > 256 then (relsT, o.rels.length, 15) else
    match firstE (relE o) o.rels.length 0 with
    | some (i, e) => (relT, i, e)
    | none => okW
/-! ### In bytes -/
def strB (s : ByteArray) : List Nat := s.size :: s.data.toList.map UInt8.toNat
def num4 (n : Nat) : List Nat := [n % 256, n / 256 % 256, n / 65536 % 256, n / 16777216 % 256]
def flagB (s : SymV) : Nat := (if s.data = true then 1 else 0) + (if s.exp = true then 2 else 0)
def symB (s : SymV) : List Nat := strB s.name ++ flagB s :: num4 s.off.toNat
def relB (r : RelV) : List Nat := r.kind.toNat :: (num4 r.off.toNat ++ (strB r.comp ++ (strB r.name ++ num4 r.perm.toNat)))
def hobj : List Nat := [72, 79, 66, 74]
def encL (o : ObjV) : List Nat :=
  hobj ++ (strB o.name ++ (num4 o.code.length ++ (o.code ++ (num4 o.data.length ++ (o.data ++ (num4 o.syms.length ++ (o.syms.flatMap symB ++ (num4 o.rels.length ++ o.rels.flatMap relB))))))))
/-! ### And back: what is read from a place of some bytes on -/
abbrev Rd (α : Type) := Except (Int × Int) (α × Nat)
def takeR (l : List Nat) (n at_ : Nat) : Rd (List Nat) := if at_ + n ≤ l.length then .ok ((l.drop at_).take n, at_ + n) else .error (l.length, 16)
def thenR {α β : Type} (x : Rd α) (f : α → Nat → Rd β) : Rd β := match x with
  | .error e => .error e
  | .ok (a, p) => f a p
def headR (l : List Nat) (h : List Nat) (at_ : Nat) : Rd Unit := thenR (takeR l 4 at_) fun b p => if b = h then .ok ((), p) else .error (0, 11)
def byteR (l : List Nat) (at_ : Nat) : Rd Nat := thenR (takeR l 1 at_) fun b p => .ok (b.getD 0 0, p)
def word4 (b : List Nat) : Nat := b.getD 0 0 + b.getD 1 0 * 256 + b.getD 2 0 * 65536 + b.getD 3 0 * 16777216
def numR (l : List Nat) (at_ : Nat) : Rd Nat := thenR (takeR l 4 at_) fun b p => .ok (word4 b, p)
def strR (l : List Nat) (at_ : Nat) : Rd ByteArray := thenR (byteR l at_) fun n p => thenR (takeR l n p) fun b q => .ok (⟨(b.map UInt8.ofNat).toArray⟩, q)
def mostR (l : List Nat) (most : Nat) (e : Int) (at_ : Nat) : Rd Nat := thenR (numR l at_) fun n p => if n > most then .error (at_, e) else .ok (n, p)
def uptoR (l : List Nat) (least most : Nat) (at_ : Nat) : Rd Nat := thenR (byteR l at_) fun n p => if n < least ∨ most < n then .error (at_, 11) else .ok (n, p)
def symR (l : List Nat) (at_ : Nat) : Rd SymV := thenR (strR l at_) fun s p => thenR (uptoR l 0 3 p) fun f p => thenR (numR l p) fun o p => .ok (⟨s, decide (f % 2 = 1), o, decide (f / 2 % 2 = 1)⟩, p)
def relR (l : List Nat) (at_ : Nat) : Rd RelV := thenR (uptoR l 1 3 at_) fun k p => thenR (numR l p) fun o p => thenR (strR l p) fun c p => thenR (strR l p) fun n p => thenR (mostR l 65535 11 p) fun m p => .ok (⟨k, o, c, n, m⟩, p)
/-- So many of them. -/
def manyR {α : Type} (f : Nat → Rd α) : Nat → Nat → Rd (List α)
  | 0, at_ => .ok ([], at_)
  | n + 1, at_ => thenR (f at_) fun x p => thenR (manyR f n p) fun r q => .ok (x :: r, q)
def objR (l : List Nat) : Rd ObjV :=
  thenR (headR l hobj 0) fun _ p => thenR (strR l p) fun name p => thenR (mostR l 16384 15 p) fun n p => thenR (takeR l n p) fun code p =>
  thenR (mostR l 16384 15 p) fun n p => thenR (takeR l n p) fun data p => thenR (mostR l 256 15 p) fun n p => thenR (manyR (symR l) n p) fun syms p =>
  thenR (mostR l 256 15 p) fun n p => thenR (manyR (relR l) n p) fun rels p => .ok (⟨name, code, data, syms, rels⟩, p)
/-- What Decode says: an object, or the first that is wrong. -/
def decL (l : List Nat) : Except WrV ObjV := match objR l with
  | .error (at_, e) => .error (byteT, at_, e)
  | .ok (o, p) => if p < l.length then .error (byteT, p, 11) else if (objW o).2.2 = 0 then .ok o else .error (objW o)
end Go.Proofs.YtahnbeoacdnhjaaDoor
