/- Manifests, plain: what P1701 says of any manifest, of any text. -/
import Derived.Test.YteddflbidafebaaGreatDoorGPlainO
namespace Go.Proofs.YteddflbidafebaaGreatDoor
set_option linter.unusedVariables false
set_option linter.unusedSimpArgs false
open Go.RowKit
structure CompV where
  name : ByteArray
  stack : Int
structure ImpV where
  comp : ByteArray
  from_ : ByteArray
  name : ByteArray
structure GrnV where
  comp : ByteArray
  share : ByteArray
  perm : Int
/-- A share is told as a comp is: a name, a size. -/
structure ManV where
  comps : List CompV
  imps : List ImpV
  shrs : List CompV
  grns : List GrnV
  start : ImpV
def bsL (l : List UInt8) : ByteArray := ⟨l.toArray⟩
def compsT : ByteArray := bsL [99, 111, 109, 112, 115]
def compT : ByteArray := bsL [99, 111, 109, 112]
def importsT : ByteArray := bsL [105, 109, 112, 111, 114, 116, 115]
def importT : ByteArray := bsL [105, 109, 112, 111, 114, 116]
def msharesT : ByteArray := bsL [115, 104, 97, 114, 101, 115]
def shareT : ByteArray := bsL [115, 104, 97, 114, 101]
def grantsT : ByteArray := bsL [103, 114, 97, 110, 116, 115]
def grantT : ByteArray := bsL [103, 114, 97, 110, 116]
def mstartT : ByteArray := bsL [115, 116, 97, 114, 116]
def mlineT : ByteArray := bsL [108, 105, 110, 101]
def hasC (l : List CompV) (n : ByteArray) : Bool := l.any fun c => decide (c.name = n)
/-- A name, whether it was ahead, a size. -/
def sizedE (n : ByteArray) (ahead : Bool) (z : Int) : Int :=
  if goodB n = false then 12 else if ahead = true then 13 else if z % 16 ≠ 0 then 5 else if z = 0 ∨ 4096 < z then 14 else 0
def sizedAt (l : List CompV) (i : Nat) : Int := match l[i]? with
  | none => 0
  | some c => sizedE c.name (hasC (l.take i) c.name) c.stack
def impE (m : ManV) (i : Nat) : Int := match m.imps[i]? with
  | none => 0
  | some x =>
    if (!hasC m.comps x.comp || !hasC m.comps x.from_ || !goodB x.name) = true then 12 else
    if x.from_ = x.comp then 17 else
    if ((m.imps.take i).any fun y => decide (y.comp = x.comp ∧ y.from_ = x.from_ ∧ y.name = x.name)) = true then 13 else 0
def grnE (m : ManV) (i : Nat) : Int := match m.grns[i]? with
  | none => 0
  | some x =>
    if (!hasC m.comps x.comp || !hasC m.shrs x.share) = true then 12 else
    if x.perm = 0 ∨ 3 < x.perm then 3 else
    if ((m.grns.take i).any fun y => decide (y.comp = x.comp ∧ y.share = x.share)) = true then 13 else 0
def manW (m : ManV) : WrV :=
  if m.comps.length = 0 then (compsT, 0, 16) else
  if m.comps.length > 8 then (compsT, m.comps.length, 15) else
  match firstE (sizedAt m.comps) m.comps.length 0 with
  | some (i, e) => (compT, i, e)
  | none =>
    if m.imps.length > 64 then (importsT, m.imps.length, 15) else
    match firstE (impE m) m.imps.length 0 with
    | some (i, e) => (importT, i, e)
    | none =>
      if m.shrs.length > 8 then (msharesT, m.shrs.length, 15) else
      match firstE (sizedAt m.shrs) m.shrs.length 0 with
      | some (i, e) => (shareT, i, e)
      | none =>
        if m.grns.length > 64 then (grantsT, m.grns.length, 15) else
        match firstE (grnE m) m.grns.length 0 with
        | some (i, e) => (grantT, i, e)
        | none =>
          if (!hasC m.comps m.start.from_ || !goodB m.start.name) = true then (mstartT, 0, 12) else
          if m.start.comp ≠ ⟨#[]⟩ then (mstartT, 0, 17) else okW
/-- Where a comp is; -1: nowhere. -/
def idxL (l : List CompV) (n : ByteArray) (i : Nat) : Int := match l with
  | [] => -1
  | c :: r => if c.name = n then i else idxL r n (i + 1)
/-! ### In words -/
/-- What stands between bytes of one kind. -/
def splitB (c : UInt8) : List UInt8 → List (List UInt8)
  | [] => [[]]
  | x :: r => if x = c then [] :: splitB c r else match splitB c r with
    | [] => [[x]]
    | p :: q => (x :: p) :: q
/-- A decimal of 32 bits, or what is wrong with it. -/
def numD (l : List UInt8) : Except Int Nat :=
  if l = [] ∨ (l.head? = some 48 ∧ 1 < l.length) ∨ (l.all fun c => lxDigit c.toNat) = false then .error 11 else
  if 4294967296 ≤ l.foldl (fun n c => 10 * n + (c.toNat - 48)) 0 then .error 14 else .ok (l.foldl (fun n c => 10 * n + (c.toNat - 48)) 0)
def permL (l : List UInt8) : Option Int := if l = [114] then some 1 else if l = [119] then some 2 else if l = [114, 119] then some 3 else none
/-- A line's words, into what has been read; how far it is then (0 nothing, 1 comps .. 5 start). A word of no bytes is a word: Check tells that it is no name (REPORT, STATEMENT: stage 17). -/
def mlineP (w : List (List UInt8)) (m : ManV) (ph : Nat) : Except Int (ManV × Nat) :=
  match w with
  | [k, a, b] =>
    if bsL k = compT ∧ ph ≤ 1 then
      match numD b with
      | .error e => .error e
      | .ok n => .ok ({ m with comps := m.comps ++ [⟨bsL a, n⟩] }, 1)
    else if bsL k = shareT ∧ ph ≤ 3 then
      match numD b with
      | .error e => .error e
      | .ok n => .ok ({ m with shrs := m.shrs ++ [⟨bsL a, n⟩] }, 3)
    else if bsL k = mstartT ∧ ph ≤ 4 then .ok ({ m with start := ⟨⟨#[]⟩, bsL a, bsL b⟩ }, 5)
    else .error 11
  | [k, a, b, c] =>
    if bsL k = importT ∧ ph ≤ 2 then .ok ({ m with imps := m.imps ++ [⟨bsL a, bsL b, bsL c⟩] }, 2)
    else if bsL k = grantT ∧ ph ≤ 4 then
      match permL c with
      | some p => .ok ({ m with grns := m.grns ++ [⟨bsL a, bsL b, p⟩] }, 4)
      | none => .error 11
    else .error 11
  | _ => .error 11
def noMan : ManV := ⟨[], [], [], [], ⟨⟨#[]⟩, ⟨#[]⟩, ⟨#[]⟩⟩⟩
/-- Line by line: what stands behind the last end is no line. -/
def mlinesP : List (List UInt8) → Nat → ManV → Nat → Except WrV ManV
  | [], n, _, _ => .error (mlineT, n, 11)
  | [l], n, m, ph => if l ≠ [] ∨ ph ≠ 5 then .error (mlineT, n, 11) else .ok m
  | l :: l2 :: r, n, m, ph => match mlineP (splitB 32 l) m ph with
    | .error e => .error (mlineT, n, e)
    | .ok (m', ph') => mlinesP (l2 :: r) (n + 1) m' ph'
def manL (s : List UInt8) : Except WrV ManV := match mlinesP (splitB 10 s) 0 noMan 0 with
  | .error x => .error x
  | .ok m => if (manW m).2.2 = 0 then .ok m else .error (manW m)
/-- What Parse says: of none the error is 0. -/
def manPW (s : ByteArray) : WrV := match manL s.data.toList with
  | .ok _ => okW
  | .error x => x
/-- The digits of a number of 32 bits. -/
def decF : Nat → Nat → List UInt8
  | 0, _ => []
  | f + 1, n => if n < 10 then [UInt8.ofNat (48 + n)] else decF f (n / 10) ++ [UInt8.ofNat (48 + n % 10)]
def digsL (n : Nat) : List UInt8 := decF 10 n
def permT (p : Int) : List UInt8 := if p = 1 then [114] else if p = 2 then [119] else [114, 119]
def manT (m : ManV) : List UInt8 :=
  (m.comps.flatMap fun c => compT.data.toList ++ 32 :: (c.name.data.toList ++ 32 :: (digsL c.stack.toNat ++ [10]))) ++
  ((m.imps.flatMap fun x => importT.data.toList ++ 32 :: (x.comp.data.toList ++ 32 :: (x.from_.data.toList ++ 32 :: (x.name.data.toList ++ [10])))) ++
  ((m.shrs.flatMap fun c => shareT.data.toList ++ 32 :: (c.name.data.toList ++ 32 :: (digsL c.stack.toNat ++ [10]))) ++
  ((m.grns.flatMap fun x => grantT.data.toList ++ 32 :: (x.comp.data.toList ++ 32 :: (x.share.data.toList ++ 32 :: (permT x.perm ++ [10])))) ++
  (mstartT.data.toList ++ 32 :: (m.start.from_.data.toList ++ 32 :: (m.start.name.data.toList ++ [10]))))))
end Go.Proofs.YteddflbidafebaaGreatDoor
