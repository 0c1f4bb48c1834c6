/- The program's reader of objects, plain: it keeps the first error and reads on. -/
import Derived.Test.YtahnbeoacdnhjaaDoorObjTab
namespace Go.Proofs.YtahnbeoacdnhjaaDoor
set_option linter.unusedVariables false
set_option linter.unusedSimpArgs false
open Go.RowKit
/-- Where a reading stands: at a place, or with the first error. -/
abbrev RSt := Except (Int × Int) Nat
def RSt.run {α : Type} (S : RSt) (f : Nat → Rd α) : Rd α := match S with
  | .error e => .error e
  | .ok p => f p
/-- What has been read, and where that leaves it. -/
def Got {α : Type} (x : Rd α) (a : α) (S : RSt) : Prop := match x with
  | .ok (b, p) => a = b ∧ S = .ok p
  | .error e => S = .error e
theorem Got.bad {α : Type} {e : Int × Int} {a : α} : Got (.error e : Rd α) a (.error e) := rfl
theorem Got.fine {α : Type} {p : Nat} {a : α} : Got (.ok (a, p) : Rd α) a (.ok p) := ⟨rfl, rfl⟩
theorem Got.next {α β : Type} {S S' : RSt} {f : Nat → Rd α} {a : α} (g : α → Nat → Rd β) (h : Got (S.run f) a S') : S.run (fun p => thenR (f p) g) = S'.run (g a) := by
  cases S with
  | error e => simp only [RSt.run, Got] at h ⊢; rw [h]
  | ok p =>
    simp only [RSt.run] at h ⊢
    unfold thenR
    cases hf : f p with
    | error e => rw [hf] at h; simp only [Got] at h; rw [h]
    | ok x =>
      obtain ⟨b, q⟩ := x
      rw [hf] at h
      obtain ⟨rfl, rfl⟩ := h
      rfl
theorem Got.last {α : Type} {S : RSt} (v : α) : Got (S.run fun p => .ok (v, p)) v S := by
  cases S with
  | error e => rfl
  | ok p => exact ⟨rfl, rfl⟩
/-- So many of them, of which k have been read. -/
def ManyAt {α : Type} (X : Rd (List α)) (f : Nat → Rd α) (n : Nat) (os : List α) (S : RSt) : Prop := X = S.run fun p => thenR (manyR f (n - os.length) p) fun r q => .ok (os ++ r, q)
theorem ManyAt.start {α : Type} {f : Nat → Rd α} {n : Nat} {S : RSt} : ManyAt (S.run (manyR f n)) f n [] S := by
  unfold ManyAt
  cases S with
  | error e => rfl
  | ok p =>
    simp only [RSt.run, List.length_nil, Nat.sub_zero, List.nil_append]
    unfold thenR
    cases manyR f n p with
    | error e => rfl
    | ok x => rfl
theorem ManyAt.more {α : Type} {X : Rd (List α)} {f : Nat → Rd α} {n : Nat} {os : List α} {S S' : RSt} {a : α} (h : ManyAt X f n os S) (hn : os.length < n) (g : Got (S.run f) a S') : ManyAt X f n (os ++ [a]) S' := by
  unfold ManyAt at h ⊢
  have e : n - os.length = (n - (os ++ [a]).length) + 1 := by simp; omega
  rw [h, e]
  have hm : ∀ (m p : Nat), (thenR (manyR f (m + 1) p) fun r q => (.ok (os ++ r, q) : Rd (List α))) = thenR (f p) fun x p => thenR (manyR f m p) fun r q => .ok (os ++ x :: r, q) := fun m p => by
    show thenR (thenR (f p) fun x p => thenR (manyR f m p) fun r q => .ok (x :: r, q)) _ = _
    unfold thenR
    cases f p with
    | error e => rfl
    | ok x =>
      obtain ⟨x, q⟩ := x
      dsimp only
      cases manyR f m q with
      | error e => rfl
      | ok y => rfl
  have hx : (S.run fun p => thenR (manyR f (n - (os ++ [a]).length + 1) p) fun r q => (.ok (os ++ r, q) : Rd (List α))) = S.run fun p => thenR (f p) fun x p => thenR (manyR f (n - (os ++ [a]).length) p) fun r q => .ok (os ++ x :: r, q) := by
    congr 1
    funext p
    exact hm _ p
  rw [hx, Got.next _ g]
  simp
theorem ManyAt.done {α : Type} {X : Rd (List α)} {f : Nat → Rd α} {n : Nat} {os : List α} {S : RSt} (h : ManyAt X f n os S) (hn : os.length = n) : Got X os S := by
  unfold ManyAt at h
  rw [h, hn, Nat.sub_self]
  cases S with
  | error e => rfl
  | ok p => exact ⟨by simp, rfl⟩
/-- What stands behind an object. -/
def endR (l : List Nat) (p : Nat) : Rd Unit := if p < l.length then .error (p, 11) else .ok ((), p)
def readR (l : List Nat) : Rd ObjV := thenR (objR l) fun o p => thenR (endR l p) fun _ q => .ok (o, q)
theorem objR_run (l : List Nat) : objR l = RSt.run (.ok 0) fun p => thenR (headR l hobj p) fun _ p => thenR (strR l p) fun name p => thenR (mostR l 16384 15 p) fun n p => thenR (takeR l n p) fun code p =>
  thenR (mostR l 16384 15 p) fun n p => thenR (takeR l n p) fun data p => thenR (mostR l 256 15 p) fun n p => thenR (manyR (symR l) n p) fun syms p =>
  thenR (mostR l 256 15 p) fun n p => thenR (manyR (relR l) n p) fun rels p => .ok (⟨name, code, data, syms, rels⟩, p) := rfl
theorem decL_read (l : List Nat) : decL l = match readR l with
    | .error (a, e) => .error (byteT, a, e)
    | .ok (o, _) => if (objW o).2.2 = 0 then .ok o else .error (objW o) := by
  unfold decL readR thenR endR
  cases objR l with
  | error e => rfl
  | ok x =>
    obtain ⟨o, p⟩ := x
    dsimp only
    by_cases h : p < l.length
    · rw [if_pos h, if_pos h]
    · rw [if_neg h, if_neg h]
def secR (l : List Nat) (p : Nat) : Rd (List Nat) := thenR (mostR l 16384 15 p) fun n p => takeR l n p
theorem thenR_assoc {α β γ : Type} (x : Rd α) (f : α → Nat → Rd β) (g : β → Nat → Rd γ) : thenR (thenR x f) g = thenR x fun a p => thenR (f a p) g := by
  cases x with
  | error e => rfl
  | ok y => rfl
/-- The whole reading, as the program goes. -/
def readC (l : List Nat) : Nat → Rd ObjV := fun p => thenR (headR l hobj p) fun _ p => thenR (strR l p) fun name p => thenR (secR l p) fun code p => thenR (secR l p) fun data p =>
  thenR (mostR l 256 15 p) fun n p => thenR (manyR (symR l) n p) fun syms p => thenR (mostR l 256 15 p) fun n p => thenR (manyR (relR l) n p) fun rels p => thenR (endR l p) fun _ p => .ok (⟨name, code, data, syms, rels⟩, p)
theorem readR_C (l : List Nat) : readR l = RSt.run (.ok 0) (readC l) := by
  show readR l = readC l 0
  unfold readR objR readC secR
  simp only [thenR_assoc]
  rfl
theorem readC_got {l : List Nat} {nm : ByteArray} {code data : List Nat} {n n2 : Nat} {os : List SymV} {rs : List RelV} {S2 S3 S4 S5 S7 S8 S9 S10 S11 : RSt} (G2 : Got (RSt.run (.ok 0) (headR l hobj)) () S2) (G3 : Got (S2.run (strR l)) nm S3) (G4 : Got (S3.run (secR l)) code S4) (G5 : Got (S4.run (secR l)) data S5)
    (G7 : Got (S5.run (mostR l 256 15)) n S7) (G8 : Got (S7.run (manyR (symR l) n)) os S8) (G9 : Got (S8.run (mostR l 256 15)) n2 S9) (G10 : Got (S9.run (manyR (relR l) n2)) rs S10) (G11 : Got (S10.run (endR l)) () S11) : Got (readR l) ⟨nm, code, data, os, rs⟩ S11 := by
  rw [readR_C]
  unfold readC
  rw [Got.next _ G2, Got.next _ G3, Got.next _ G4, Got.next _ G5, Got.next _ G7, Got.next _ G8, Got.next _ G9, Got.next _ G10, Got.next _ G11]
  exact Got.last _
end Go.Proofs.YtahnbeoacdnhjaaDoor
