/- IsO, PutC, EqC, ObjRun, RdrC: errors.Is of another Errno; what fault answers; an error that is told, and its memory. -/
import Derived.Test.YtbmjnfnekmeegaaGreatDoorGErr
import Derived.Test.YtbmjnfnekmeegaaGreatDoorObjNz
import Derived.Test.YtbmjnfnekmeegaaGreatDoorOwn8
import Derived.Test.YtbmjnfnekmeegaaGreatDoorGObjF
import Derived.Test.YtbmjnfnekmeegaaGreatDoorGBase
import Derived.Test.YtbmjnfnekmeegaaGreatDoorGRows
import Derived.Laws.StructEq
import Derived.Test.YtbmjnfnekmeegaaGreatDoorGPlainO
import Derived.IntWalk
/- errors.Is of another Errno; what fault answers; an error that is told, and its memory. -/
namespace Go.Proofs.YtbmjnfnekmeegaaGreatDoor
set_option linter.unusedVariables false
set_option linter.unusedSimpArgs false
open Go.RowKit Go.Extern.Stop Go.Stop Go.Extern
theorem noIsErrnoO (v : Value) (xT : TypeId) (w : World) : (Instr.typeAssert (.iface 139 v) xT 225 true).run Tryz.prog w = .ok (.tuple #[.nilIface, .bool false]) w := run_typeAssert_lacksB Tryz.underlying225 (by kernel_rfl) (by kernel_rfl) v xT w
theorem noUnwrapErrnoO (v : Value) (xT : TypeId) (w : World) : (Instr.typeAssert (.iface 139 v) xT 208 true).run Tryz.prog w = .ok (.tuple #[.nilIface, .bool false]) w := run_typeAssert_lacksB Tryz.underlying208 (by kernel_rfl) (by kernel_rfl) v xT w
theorem noUnwrapsErrnoO (v : Value) (xT : TypeId) (w : World) : (Instr.typeAssert (.iface 139 v) xT 209 true).run Tryz.prog w = .ok (.tuple #[.nilIface, .bool false]) w := run_typeAssert_lacksB Tryz.underlying209 (by kernel_rfl) (by kernel_rfl) v xT w
set_option maxHeartbeats 2000000 in
/-- errors.Is of a Fault that wraps an Errno, asked for another one: no. -/
theorem is_otherO (q : Nat) (part : ByteArray) (at_ n m : Int) (hnm : ¬ n = m) (w : World) (hB : Box w q #[.string part, .int .i64 at_, .iface 139 (.int .i64 n)]) :
    Calls Tryz.prog 55 #[.iface 98 (.pointer (some ⟨q, 0, none⟩)), .iface 139 (.int .i64 m)] w fun e w' => e = .returned (.bool false) ∧ Keep w w' := by
  have c0 := hB.cells
  have h8 := callTypeOf
  have h32 := callComparable
  have mR := isMethodComparable
  have hd : (n == m) = false := by simpa using hnm
  have heq := fun W => Lib.run_eql_iface_int (P := Tryz.prog) (k := .i64) W n m Tryz.underlying42 isComp Tryz.underlying139
  rw [hd] at heq
  have nI := noIsFault
  have hU := hasUnwrapFault
  have mU := methodUnwrapFault
  have nE := faultNotErrno
  have nI2 := noIsErrnoO
  have nU2 := noUnwrapErrnoO
  have nV2 := noUnwrapsErrnoO
  go_enter Tryz.func55, Tryz.ntmps55
  go_wp2
  refine wp_loop_rounds 2 ?_
  rw [rounds_succ]
  go_wp2
  rw [rounds_succ]
  go_wp2
  go_ret
  refine ⟨rfl, ?_⟩
  repeat (first | exact Keep.refl _ | with_reducible refine Keep.alloc ?_ _ | with_reducible refine Keep.drew ?_ | with_reducible refine Keep.setCell ?_ (by simp) _)
/-- What fault answers of an Errno. -/
def FauR (part : ByteArray) (at_ n : Int) (w : World) (v : Value) : Prop := (n = 0 ∧ v = .nilIface) ∨ ∃ q, n ≠ 0 ∧ v = faultP q ∧ Box w q #[.string part, .int .i64 at_, .iface 139 (.int .i64 n)]
/-- An error that is told, and its memory. -/
theorem OErr.box {w : World} {u : Value} {x : WrV} (h : OErr w u x) (hx : x.2.2 ≠ 0) : ∃ q, u = faultP q ∧ Box w q #[.string x.1, .int .i64 x.2.1, .iface 139 (.int .i64 x.2.2)] := by
  rcases h with ⟨h, _⟩ | ⟨q, p, a, n, hn, he, h, hB⟩
  · exfalso
    apply hx
    unfold wrVal okV wrongV at h
    simp at h
    exact h.2.2
  · unfold wrVal wrongV at he
    simp at he
    obtain ⟨rfl, rfl, rfl⟩ := he
    exact ⟨q, h, hB⟩
end Go.Proofs.YtbmjnfnekmeegaaGreatDoor

/- What a writer of bytes leaves, wherever it is called. -/
namespace Go.Proofs.YtbmjnfnekmeegaaGreatDoor
set_option linter.unusedVariables false
set_option linter.unusedSimpArgs false
open Go Go.RowKit
theorem str_cells (s : ByteArray) : byteCells s = (s.data.toList.map UInt8.toNat).map byteV := by
  unfold byteCells
  rw [List.map_map]
  rfl
/-- What a loose step of a writer leaves. -/
structure PutAt (W0 : World) (B : Nat) (r0 : Option Nat) (v : Value) (xs : List Nat) (W : World) : Prop where
  own : Own8 W B v xs
  grown : W0.grownBy W r0
  to : OwnTo W0 r0 v.ownBlock
theorem PutAt.keep {W0 : World} {B : Nat} {r0 : Option Nat} {v : Value} {xs : List Nat} {W W' : World} (h : PutAt W0 B r0 v xs W) (k : Keep W W') : PutAt W0 B r0 v xs W' :=
  ⟨owns_keep h.own k, grow_trans h.grown h.to (keep_grow k _), h.to⟩
theorem PutAt.next {W0 : World} {B : Nat} {r0 : Option Nat} {v v' : Value} {xs ys : List Nat} {W W' : World} (h : PutAt W0 B r0 v xs W) (o : Own8 W' B v' ys) (g : W.grownBy W' v.ownBlock) (b : OwnTo W v.ownBlock v'.ownBlock) : PutAt W0 B r0 v' ys W' :=
  ⟨o, grow_trans h.grown h.to g, h.to.trans h.grown.size b⟩
theorem PutAt.but {W0 : World} {B : Nat} {r0 : Option Nat} {v : Value} {xs : List Nat} {W W' : World} (h : PutAt W0 B r0 v xs W) (g : W.grownBy W' v.ownBlock) : KeepBut (fun z => r0 = some z ∨ W0.heap.size ≤ z) W W' :=
  grown_but g _ (fun z hz => by
    rcases h.to with e | ⟨y, e, hy⟩
    · left; rw [← e]; exact hz
    · right
      rw [e] at hz
      simp only [Option.some.injEq] at hz
      omega)
/-- A box that was there stays. -/
theorem PutAt.box {W0 : World} {B : Nat} {r0 : Option Nat} {v : Value} {xs : List Nat} {W : World} (h : PutAt W0 B r0 v xs W) {b : Nat} {vs : Array Value} (hb : Box W0 b vs) (hn : r0 ≠ some b) : Box W b vs :=
  grown_box h.grown hb (fun e => hn e.symm)
theorem append_own {xs : List Nat} {w : World} {B : Nat} {v : Value} {y : Nat} {n : Nat} {l : List Value} (h : w.ownsRow B 5 1 v (n + 1) (l ++ [.int .u8 (y : Int)])) (hn : n = xs.length) (hl : l = xs.map byteV) : Own8 w B v (xs ++ [y]) := by
  subst hn hl
  unfold Own8
  simpa [byteV] using h
/-- Where the writing of an object stands. -/
def EncAt (W1 W : World) (v : Value) (xs : List Nat) : Prop := Own8 W W1.heap.size v xs ∧ Keep W1 W
theorem EncAt.put {W1 W W' : World} {v : Value} {xs ys : List Nat} {e : Ending} (h : EncAt W1 W v xs) (p : PutR W W1.heap.size v ys e W') : ∃ v', e = .returned v' ∧ EncAt W1 W' v' ys := by
  obtain ⟨v', rfl, h1, h2, _⟩ := p
  exact ⟨v', rfl, h1, grow_keep0 h.2 h2 (fun g hg => (h.1.lt g hg).1)⟩
theorem EncAt.keep {W1 W W' : World} {v : Value} {xs : List Nat} (h : EncAt W1 W v xs) (k : Keep W W') : EncAt W1 W' v xs := ⟨owns_keep h.1 k, h.2.trans k⟩
theorem EncAt.slice {W1 W : World} {v : Value} {xs : List Nat} (h : EncAt W1 W v xs) (hl : xs.length ≤ 1000000) : ∃ p cap, v = .slice p xs.length cap ∧ SlAt W v xs.length (xs.map byteV) := by
  obtain ⟨p, cap, rfl, h1, h2, h3⟩ := owns_cells h.1 (by unfold maxLen; omega)
  refine ⟨p, cap, rfl, p, cap, rfl, h1, h2, ?_⟩
  rcases h3 with h3 | ⟨b, rfl, _, hb, hc⟩
  · exact .inl h3
  · exact .inr ⟨b, 0, rfl, hb, hc⟩
theorem len_take_flat {α : Type} (f : α → List Nat) (l : List α) (k : Nat) : ((l.take k).flatMap f).length ≤ (l.flatMap f).length := by
  have e : (l.flatMap f).length = ((l.take k).flatMap f).length + ((l.drop k).flatMap f).length := by
    rw [← List.length_append, ← List.flatMap_append, List.take_append_drop]
  omega
theorem take_flatN {α : Type} (f : α → List Nat) (l : List α) (k : Nat) (t : α) (h : l[k]? = some t) : (l.take (k + 1)).flatMap f = (l.take k).flatMap f ++ f t := by
  obtain ⟨hk, rfl⟩ := List.getElem?_eq_some_iff.1 h
  rw [List.take_succ_eq_append_getElem hk, List.flatMap_append]
  simp
theorem OErr.keep {w w' : World} {u : Value} {x : WrV} (h : OErr w u x) (k : Keep w w') : OErr w' u x := ErrV.keep h k
end Go.Proofs.YtbmjnfnekmeegaaGreatDoor

/- Rows that are compared, of any width. -/
namespace Go.Proofs.YtbmjnfnekmeegaaGreatDoor
set_option linter.unusedVariables false
set_option linter.unusedSimpArgs false
open Go.RowKit
/-- Whether two are alike is answered. -/
def EqR {α : Type} (a b : α) (w : World) (e : Ending) (w' : World) : Prop := ∃ x : Bool, e = .returned (.bool x) ∧ (x = true ↔ a = b) ∧ Keep w w'
theorem EqR.yes {α : Type} {a b : α} {w w' : World} (h : a = b) (k : Keep w w') : EqR a b w (.returned (.bool true)) w' := ⟨true, rfl, ⟨fun _ => h, fun _ => rfl⟩, k⟩
theorem EqR.no {α : Type} {a b : α} {w w' : World} (h : a ≠ b) (k : Keep w w') : EqR a b w (.returned (.bool false)) w' := ⟨false, rfl, ⟨(fun x => nomatch x), (fun x => absurd x h)⟩, k⟩
/-- Things of m cells each, where a slice says them. -/
theorem SlAt.rowsEq {α : Type} {f : α → List Value} {m : Nat} (hf : ∀ x, (f x).length = m) (hm : 0 < m) {w : World} {v : Value} {l : List α} (h : SlAt w v l.length (l.flatMap f)) :
    ∃ p cap, v = .slice p l.length cap ∧ l.length ≤ cap ∧ (l = [] ∨ ∃ b off, p = some ⟨b, off, none⟩ ∧ b < w.heap.size ∧ ∀ (i : Nat) (t : α), l[i]? = some t → ∀ j, j < m → w.cell? ⟨b, off + (i * m + j), none⟩ = (f t)[j]?) := by
  obtain ⟨p, cap, h1, h2, _, h3⟩ := h
  refine ⟨p, cap, h1, h2, ?_⟩
  by_cases h0 : l = []
  · exact .inl h0
  · rcases h3 with h3 | ⟨b, off, h3, h4, h5⟩
    · exfalso
      have := rows_length hf l
      rw [h3] at this
      simp only [List.length_nil] at this
      have hl : 0 < l.length := List.length_pos_iff.2 h0
      have := Nat.mul_pos hl hm
      omega
    · refine .inr ⟨b, off, h3, h4, fun i t ht j hj => ?_⟩
      have e := rows_row hf l i j hj t ht
      have hjl : j < (f t).length := by rw [hf]; exact hj
      rw [List.getElem?_eq_getElem hjl] at e ⊢
      exact h5 _ _ e
/-- A byte's cell. -/
def byteRow (x : Nat) : List Value := [byteV x]
theorem byteRow_length (x : Nat) : (byteRow x).length = 1 := rfl
theorem map_row (l : List Nat) : l.map byteV = l.flatMap byteRow := by
  induction l with
  | nil => rfl
  | cons x l ih => rw [List.map_cons, List.flatMap_cons, ih]; rfl
theorem list_eq_of {α : Type} {a b : List α} (hl : a.length = b.length) (h : ∀ (j : Nat) (x y : α), a[j]? = some x → b[j]? = some y → x = y) : a = b :=
  List.ext_getElem hl fun j h1 h2 => h j _ _ (List.getElem?_eq_getElem h1) (List.getElem?_eq_getElem h2)
theorem u8_iff (x y : Nat) : ((x : Int) == (y : Int)) = true ↔ x = y := by rw [beq_iff_eq]; omega
end Go.Proofs.YtbmjnfnekmeegaaGreatDoor

/- The program's reader of objects, plain: it keeps the first error and reads on. -/
namespace Go.Proofs.YtbmjnfnekmeegaaGreatDoor
set_option linter.unusedVariables false
set_option linter.unusedSimpArgs false
open Go.RowKit
/-- Where a reading stands: at a place, or with the first error. -/
abbrev RSt := Except (Int × Int) Nat
def RSt.run {α : Type} (S : RSt) (f : Nat → Rd α) : Rd α := match S with
  | .error e => .error e
  | .ok p => f p
/-- What has been read, and where that leaves it. -/
def Got {α : Type} (x : Rd α) (a : α) (S : RSt) : Prop := match x with
  | .ok (b, p) => a = b ∧ S = .ok p
  | .error e => S = .error e
theorem Got.bad {α : Type} {e : Int × Int} {a : α} : Got (.error e : Rd α) a (.error e) := rfl
theorem Got.fine {α : Type} {p : Nat} {a : α} : Got (.ok (a, p) : Rd α) a (.ok p) := ⟨rfl, rfl⟩
theorem Got.next {α β : Type} {S S' : RSt} {f : Nat → Rd α} {a : α} (g : α → Nat → Rd β) (h : Got (S.run f) a S') : S.run (fun p => thenR (f p) g) = S'.run (g a) := by
  cases S with
  | error e => simp only [RSt.run, Got] at h ⊢; rw [h]
  | ok p =>
    simp only [RSt.run] at h ⊢
    unfold thenR
    cases hf : f p with
    | error e => rw [hf] at h; simp only [Got] at h; rw [h]
    | ok x =>
      obtain ⟨b, q⟩ := x
      rw [hf] at h
      obtain ⟨rfl, rfl⟩ := h
      rfl
theorem Got.last {α : Type} {S : RSt} (v : α) : Got (S.run fun p => .ok (v, p)) v S := by
  cases S with
  | error e => rfl
  | ok p => exact ⟨rfl, rfl⟩
/-- So many of them, of which k have been read. -/
def ManyAt {α : Type} (X : Rd (List α)) (f : Nat → Rd α) (n : Nat) (os : List α) (S : RSt) : Prop := X = S.run fun p => thenR (manyR f (n - os.length) p) fun r q => .ok (os ++ r, q)
theorem ManyAt.start {α : Type} {f : Nat → Rd α} {n : Nat} {S : RSt} : ManyAt (S.run (manyR f n)) f n [] S := by
  unfold ManyAt
  cases S with
  | error e => rfl
  | ok p =>
    simp only [RSt.run, List.length_nil, Nat.sub_zero, List.nil_append]
    unfold thenR
    cases manyR f n p with
    | error e => rfl
    | ok x => rfl
theorem ManyAt.more {α : Type} {X : Rd (List α)} {f : Nat → Rd α} {n : Nat} {os : List α} {S S' : RSt} {a : α} (h : ManyAt X f n os S) (hn : os.length < n) (g : Got (S.run f) a S') : ManyAt X f n (os ++ [a]) S' := by
  unfold ManyAt at h ⊢
  have e : n - os.length = (n - (os ++ [a]).length) + 1 := by simp; omega
  rw [h, e]
  have hm : ∀ (m p : Nat), (thenR (manyR f (m + 1) p) fun r q => (.ok (os ++ r, q) : Rd (List α))) = thenR (f p) fun x p => thenR (manyR f m p) fun r q => .ok (os ++ x :: r, q) := fun m p => by
    show thenR (thenR (f p) fun x p => thenR (manyR f m p) fun r q => .ok (x :: r, q)) _ = _
    unfold thenR
    cases f p with
    | error e => rfl
    | ok x =>
      obtain ⟨x, q⟩ := x
      dsimp only
      cases manyR f m q with
      | error e => rfl
      | ok y => rfl
  have hx : (S.run fun p => thenR (manyR f (n - (os ++ [a]).length + 1) p) fun r q => (.ok (os ++ r, q) : Rd (List α))) = S.run fun p => thenR (f p) fun x p => thenR (manyR f (n - (os ++ [a]).length) p) fun r q => .ok (os ++ x :: r, q) := by
    congr 1
    funext p
    exact hm _ p
  rw [hx, Got.next _ g]
  simp
theorem ManyAt.done {α : Type} {X : Rd (List α)} {f : Nat → Rd α} {n : Nat} {os : List α} {S : RSt} (h : ManyAt X f n os S) (hn : os.length = n) : Got X os S := by
  unfold ManyAt at h
  rw [h, hn, Nat.sub_self]
  cases S with
  | error e => rfl
  | ok p => exact ⟨by simp, rfl⟩
/-- What stands behind an object. -/
def endR (l : List Nat) (p : Nat) : Rd Unit := if p < l.length then .error (p, 11) else .ok ((), p)
def readR (l : List Nat) : Rd ObjV := thenR (objR l) fun o p => thenR (endR l p) fun _ q => .ok (o, q)
theorem objR_run (l : List Nat) : objR l = RSt.run (.ok 0) fun p => thenR (headR l hobj p) fun _ p => thenR (strR l p) fun name p => thenR (mostR l 16384 15 p) fun n p => thenR (takeR l n p) fun code p =>
  thenR (mostR l 16384 15 p) fun n p => thenR (takeR l n p) fun data p => thenR (mostR l 256 15 p) fun n p => thenR (manyR (symR l) n p) fun syms p =>
  thenR (mostR l 256 15 p) fun n p => thenR (manyR (relR l) n p) fun rels p => .ok (⟨name, code, data, syms, rels⟩, p) := rfl
theorem decL_read (l : List Nat) : decL l = match readR l with
    | .error (a, e) => .error (byteT, a, e)
    | .ok (o, _) => if (objW o).2.2 = 0 then .ok o else .error (objW o) := by
  unfold decL readR thenR endR
  cases objR l with
  | error e => rfl
  | ok x =>
    obtain ⟨o, p⟩ := x
    dsimp only
    by_cases h : p < l.length
    · rw [if_pos h, if_pos h]
    · rw [if_neg h, if_neg h]
def secR (l : List Nat) (p : Nat) : Rd (List Nat) := thenR (mostR l 16384 15 p) fun n p => takeR l n p
theorem thenR_assoc {α β γ : Type} (x : Rd α) (f : α → Nat → Rd β) (g : β → Nat → Rd γ) : thenR (thenR x f) g = thenR x fun a p => thenR (f a p) g := by
  cases x with
  | error e => rfl
  | ok y => rfl
/-- The whole reading, as the program goes. -/
def readC (l : List Nat) : Nat → Rd ObjV := fun p => thenR (headR l hobj p) fun _ p => thenR (strR l p) fun name p => thenR (secR l p) fun code p => thenR (secR l p) fun data p =>
  thenR (mostR l 256 15 p) fun n p => thenR (manyR (symR l) n p) fun syms p => thenR (mostR l 256 15 p) fun n p => thenR (manyR (relR l) n p) fun rels p => thenR (endR l p) fun _ p => .ok (⟨name, code, data, syms, rels⟩, p)
theorem readR_C (l : List Nat) : readR l = RSt.run (.ok 0) (readC l) := by
  show readR l = readC l 0
  unfold readR objR readC secR
  simp only [thenR_assoc]
  rfl
theorem readC_got {l : List Nat} {nm : ByteArray} {code data : List Nat} {n n2 : Nat} {os : List SymV} {rs : List RelV} {S2 S3 S4 S5 S7 S8 S9 S10 S11 : RSt} (G2 : Got (RSt.run (.ok 0) (headR l hobj)) () S2) (G3 : Got (S2.run (strR l)) nm S3) (G4 : Got (S3.run (secR l)) code S4) (G5 : Got (S4.run (secR l)) data S5)
    (G7 : Got (S5.run (mostR l 256 15)) n S7) (G8 : Got (S7.run (manyR (symR l) n)) os S8) (G9 : Got (S8.run (mostR l 256 15)) n2 S9) (G10 : Got (S9.run (manyR (relR l) n2)) rs S10) (G11 : Got (S10.run (endR l)) () S11) : Got (readR l) ⟨nm, code, data, os, rs⟩ S11 := by
  rw [readR_C]
  unfold readC
  rw [Got.next _ G2, Got.next _ G3, Got.next _ G4, Got.next _ G5, Got.next _ G7, Got.next _ G8, Got.next _ G9, Got.next _ G10, Got.next _ G11]
  exact Got.last _
end Go.Proofs.YtbmjnfnekmeegaaGreatDoor

/- A reader of bytes, whatever it reads: where it lies, what it holds, what a reading leaves. -/
namespace Go.Proofs.YtbmjnfnekmeegaaGreatDoor
set_option linter.unusedVariables false
set_option linter.unusedSimpArgs false
open Go Go.RowKit
/-- The bytes that are read: they lie ahead of the reader. -/
structure RCtx (w0 : World) (r : Nat) (vb : Value) (l : List Nat) : Prop where
  lies : SlAt w0 vb l.length (l.map byteV)
  new : w0.heap.size ≤ r
  bytes : ∀ x ∈ l, x < 256
  few : l.length ≤ 100000
/-- The reader at a place, or with the first error. -/
def RdSt (w : World) (r : Nat) (vb : Value) (l : List Nat) (S : RSt) : Prop := match S with
  | .ok p => p ≤ l.length ∧ Box w r #[vb, .int .i64 (p : Int), .nilIface]
  | .error (a, c) => ∃ q p : Nat, p ≤ l.length ∧ q ≠ r ∧ c ≠ 0 ∧ Box w r #[vb, .int .i64 (p : Int), faultP q] ∧ Box w q #[.string byteT, .int .i64 a, .iface 139 (.int .i64 c)]
theorem RdSt.keep {w w' : World} {r : Nat} {vb : Value} {l : List Nat} {S : RSt} (h : RdSt w r vb l S) (k : Keep w w') : RdSt w' r vb l S := by
  cases S with
  | ok p => exact ⟨h.1, h.2.keep k⟩
  | error e =>
    obtain ⟨q, p, h1, h2, h3, h4, h5⟩ := h
    exact ⟨q, p, h1, h2, h3, h4.keep k, h5.keep k⟩
theorem RdSt.lt {w : World} {r : Nat} {vb : Value} {l : List Nat} {S : RSt} (h : RdSt w r vb l S) : r < w.heap.size := by
  cases S with
  | ok p => exact h.2.lt
  | error e =>
    obtain ⟨q, p, h1, h2, h3, h4, h5⟩ := h
    exact h4.lt
/-- What a reading leaves. -/
def RdPost {α : Type} (r : Nat) (vb : Value) (l : List Nat) (X : Rd α) (V : World → α → Value → Prop) (w : World) (e : Ending) (w' : World) : Prop :=
  ∃ (v : Value) (a : α) (S : RSt), e = .returned v ∧ V w' a v ∧ RdSt w' r vb l S ∧ Got X a S ∧ KeepBut (fun z => z = r) w w'
theorem RSt.run_bad {α : Type} (e : Int × Int) (f : Nat → Rd α) : RSt.run (.error e) f = .error e := rfl
theorem RSt.run_ok {α : Type} (p : Nat) (f : Nat → Rd α) : RSt.run (.ok p) f = f p := rfl
def RSt.refuse (S : RSt) (a c : Int) : RSt := match S with
  | .ok _ => .error (a, c)
  | .error e => .error e
/-- A part of what lies in a row of bytes. -/
theorem SlAt.sliced {w : World} {p : Option Addr} {n cap : Nat} {l : List Nat} (h : SlAt w (.slice p n cap) n (l.map byteV)) (hl : l.length = n) (k m : Nat) (hkm : k + m ≤ n) : SlAt w (sliced p k (k + m) cap 1) m (((l.drop k).take m).map byteV) := by
  obtain ⟨p', cap', e, h1, h2, h3⟩ := h
  simp only [Value.slice.injEq, true_and] at e
  obtain ⟨rfl, rfl⟩ := e
  refine ⟨if cap = k then p else p.map (·.add (k * 1)), cap - k, ?_, by omega, by omega, ?_⟩
  · show Value.slice _ _ _ = Value.slice _ _ _
    rw [show k + m - k = m by omega]
  · rcases h3 with h3 | ⟨b, off, rfl, h4, h5⟩
    · left
      have : l = [] := List.map_eq_nil_iff.1 h3
      subst this
      simp
    · by_cases hm : m = 0
      · left; subst hm; simp
      · refine .inr ⟨b, off + k, ?_, h4, fun i x hx => ?_⟩
        · rw [if_neg (by omega), Nat.mul_one]
          simp only [Option.map_some, Option.some.injEq]
          unfold Addr.add
          split <;> simp_all
        · rw [List.getElem?_map, Option.map_eq_some_iff] at hx
          obtain ⟨y, hy, rfl⟩ := hx
          rw [List.getElem?_take] at hy
          split at hy
          · rw [List.getElem?_drop] at hy
            have := h5 (k + i) (byteV y) (by rw [List.getElem?_map, hy]; rfl)
            rwa [← Nat.add_assoc] at this
          · cases hy
/-- What take answers. -/
def TakeV (w0 : World) (n : Nat) (_w : World) (bs : List Nat) (v : Value) : Prop := SlAt w0 v bs.length (bs.map byteV) ∧ (∀ x ∈ bs, x < 256) ∧ (bs = [] ∨ bs.length = n)
theorem TakeV.none (w0 : World) (n : Nat) (w : World) : TakeV w0 n w [] (.slice none 0 0) := ⟨⟨_, 0, rfl, Nat.le_refl _, Nat.zero_le _, .inl rfl⟩, fun _ h => (nomatch h), .inl rfl⟩
theorem sizeU8 (w : World) : (sizeOf 5).run Tryz.prog w = .ok 1 w := by kernel_rfl
theorem elemU8 : Tryz.prog.elem 38 = 5 := by kernel_rfl
set_option maxRecDepth 100000 in
theorem slice_u8 (a : Option Addr) (n cap k m : Nat) (h2 : k + m ≤ cap) (w : World) : (Instr.slice 38 (.slice a n cap) (some (.int .i64 (k : Int))) (some (.int .i64 ((k : Int) + (m : Int)))) none).run Tryz.prog w = .ok (sliced a k (k + m) cap 1) w := by
  rw [run_slice_lh w 38 a n cap Tryz.underlying38 .i64 .i64 (k : Int) ((k : Int) + (m : Int)) (by omega) (by omega) (by omega), elemU8, sizeU8]
  simp only [Result.andThen_ok]
  congr 2
theorem or_natO (X Z p : Nat) (h : X < 2 ^ p) : X ||| Z * 2 ^ p = X + Z * 2 ^ p := by
  have h2 := Nat.two_pow_add_eq_or_of_lt h Z
  rw [Nat.mul_comm Z, Nat.or_comm, ← h2, Nat.add_comm]
theorem or_atO (X Z p Q : Nat) (hq : Q = 2 ^ p) (h1 : 256 * Q ≤ 4294967296) (hx : X < Q) (hz : Z < 256) : bits .or .u32 (X : Int) ((Z : Int) * (Q : Int)) = ((X + Z * Q : Nat) : Int) := by
  have hm : Z * Q ≤ 255 * Q := Nat.mul_le_mul_right _ (by omega)
  have h3 := or_natO X Z p (by rw [← hq]; exact hx)
  rw [← hq] at h3
  rw [← Int.natCast_mul, u32_or _ _ (by omega) (by omega) (by omega) (by omega)]
  simp only [Int.toNat_natCast, h3]
theorem or_zero (a : Nat) (ha : a < 256) : bits .or .u32 0 (a : Int) = (a : Int) := by
  have := or_atO 0 a 0 1 rfl (by decide) (by decide) ha
  simpa using this
theorem or_four (a b c d : Nat) (ha : a < 256) (hb : b < 256) (hc : c < 256) (hd : d < 256) : bits .or .u32 (bits .or .u32 (bits .or .u32 (bits .or .u32 0 (a : Int)) ((b : Int) * 256)) ((c : Int) * 65536)) ((d : Int) * 16777216) = ((a + b * 256 + c * 65536 + d * 16777216 : Nat) : Int) := by
  rw [or_zero a ha]
  have h1 := or_atO a b 8 256 rfl (by decide) (by omega) hb
  have h2 := or_atO (a + b * 256) c 16 65536 rfl (by decide) (by omega) hc
  have h3 := or_atO (a + b * 256 + c * 65536) d 24 16777216 rfl (by decide) (by omega) hd
  rw [show ((256 : Nat) : Int) = 256 from rfl] at h1
  rw [show ((65536 : Nat) : Int) = 65536 from rfl] at h2
  rw [show ((16777216 : Nat) : Int) = 16777216 from rfl] at h3
  rw [h1, h2, h3]
/-- The number that some bytes are. -/
def numB (n : Nat) (b : List Nat) : Nat := if n = 1 then b.getD 0 0 else word4 b
def numRN (l : List Nat) (n p : Nat) : Rd Nat := thenR (takeR l n p) fun b q => .ok (numB n b, q)
theorem numRN_one (l : List Nat) : numRN l 1 = byteR l := rfl
theorem numRN_four (l : List Nat) : numRN l 4 = numR l := rfl
/-- What number answers. -/
def NumV (n : Nat) (_w : World) (a : Nat) (v : Value) : Prop := v = .int .u32 (a : Int) ∧ a < 4294967296 ∧ (n = 1 → a < 256)
def withR (l : List Nat) (n least most : Nat) (c : Int) (p : Nat) : Rd Nat := thenR (numRN l n p) fun a q => if a < least ∨ most < a then .error ((p : Int), c) else .ok (a, q)
theorem withR_most (l : List Nat) (m : Nat) (c : Int) : withR l 4 0 m c = mostR l m c := by
  funext p
  unfold withR mostR
  rw [numRN_four]
  congr 1
  funext a q
  simp
theorem withR_upto (l : List Nat) (a b : Nat) : withR l 1 a b 11 = uptoR l a b := rfl
theorem withR_out {l : List Nat} {n least most : Nat} {c at_ : Int} {S S' : RSt} {a : Nat} (h : Got (S.run (numRN l n)) a S') (hat : ∀ p : Nat, S = .ok p → at_ = p) (ha : a < least ∨ most < a) : Got (S.run (withR l n least most c)) 0 (S'.refuse at_ c) := by
  cases S with
  | error e =>
    simp only [RSt.run, Got] at h ⊢
    rw [h]
    rfl
  | ok p =>
    have e := Got.next (S := .ok p) (f := numRN l n) (fun a q => (if a < least ∨ most < a then .error ((p : Int), c) else .ok (a, q) : Rd Nat)) h
    have e2 : (RSt.run (.ok p) (withR l n least most c)) = _ := e
    rw [e2]
    cases S' with
    | error e => rfl
    | ok q =>
      rw [RSt.run_ok, if_pos ha, hat p rfl]
      rfl
theorem withR_in {l : List Nat} {n least most : Nat} {c : Int} {S S' : RSt} {a : Nat} (h : Got (S.run (numRN l n)) a S') (ha : ¬ (a < least ∨ most < a)) : Got (S.run (withR l n least most c)) a S' := by
  cases S with
  | error e => exact h
  | ok p =>
    have e := Got.next (S := .ok p) (f := numRN l n) (fun a q => (if a < least ∨ most < a then .error ((p : Int), c) else .ok (a, q) : Rd Nat)) h
    have e2 : (RSt.run (.ok p) (withR l n least most c)) = _ := e
    rw [e2]
    cases S' with
    | error e => rfl
    | ok q =>
      rw [RSt.run_ok, if_neg ha]
      exact ⟨rfl, rfl⟩
/-- The reader's cells, whatever its state. -/
theorem RdSt.box {w : World} {r : Nat} {vb : Value} {l : List Nat} {S : RSt} (h : RdSt w r vb l S) : ∃ (p : Nat) (u : Value), Box w r #[vb, .int .i64 (p : Int), u] ∧ ∀ p' : Nat, S = .ok p' → (p : Int) = p' := by
  cases S with
  | ok p => exact ⟨p, _, h.2, fun p' e => by cases e; rfl⟩
  | error e =>
    obtain ⟨q, p, h1, h2, h3, h4, h5⟩ := h
    exact ⟨p, _, h4, fun p' e => by cases e⟩
/-- What within answers. -/
def WithV (most : Nat) (_w : World) (a : Nat) (v : Value) : Prop := v = .int .u32 (a : Int) ∧ a ≤ most
/-- What text answers. -/
def TextV (_w : World) (s : ByteArray) (v : Value) : Prop := v = .string s ∧ s.size ≤ 255
/-- What a reading that answers nothing leaves. -/
def RdPost0 (r : Nat) (vb : Value) (l : List Nat) (X : Rd Unit) (w : World) (e : Ending) (w' : World) : Prop := ∃ S : RSt, e = .returned (.tuple #[]) ∧ RdSt w' r vb l S ∧ Got X () S ∧ KeepBut (fun z => z = r) w w'
/-- A result's block is none of the reader's. -/
theorem RdSt.set {w : World} {r : Nat} {vb : Value} {l : List Nat} {S : RSt} (h : RdSt w r vb l S) {g : Nat} {vs : Array Value} (hB : Box w g vs) (hs : vs.size ≠ 3) (i : Nat) (v : Value) : RdSt (w.setCell ⟨g, i, none⟩ v) r vb l S := by
  have ne : ∀ {b : Nat} {us : Array Value}, Box w b us → us.size = 3 → b ≠ g := fun hb hu e => by
    subst e
    obtain ⟨t1, h1⟩ := hB
    obtain ⟨t2, h2⟩ := hb
    rw [h1] at h2
    cases h2
    exact hs hu
  cases S with
  | ok p => exact ⟨h.1, h.2.other (ne h.2 rfl) v⟩
  | error e =>
    obtain ⟨q, p, h1, h2, h3, h4, h5⟩ := h
    exact ⟨q, p, h1, h2, h3, h4.other (ne h4 rfl) v, h5.other (ne h5 rfl) v⟩
theorem RdSt.grown {w w' : World} {r : Nat} {vb : Value} {l : List Nat} {S : RSt} {row : Option Nat} (h : RdSt w r vb l S) (g : w.grownBy w' row) (hn : ∀ (b : Nat) (us : Array Value), Box w b us → us.size = 3 → row ≠ some b) : RdSt w' r vb l S := by
  cases S with
  | ok p => exact ⟨h.1, grown_box g h.2 (hn _ _ h.2 rfl).symm⟩
  | error e =>
    obtain ⟨q, p, h1, h2, h3, h4, h5⟩ := h
    exact ⟨q, p, h1, h2, h3, grown_box g h4 (hn _ _ h4 rfl).symm, grown_box g h5 (hn _ _ h5 rfl).symm⟩
theorem owns_grown' {w w' : World} {base : Nat} {e : TypeId} {size : Nat} {v : Value} {n : Nat} {xs : List Value} {row : Option Nat} (h : w.ownsRow base e size v n xs) (g : w.grownBy w' row) (hn : ∀ k, v.ownBlock = some k → row ≠ some k) : w'.ownsRow base e size v n xs :=
  owns_but h (grown_but g (fun z => row = some z) (fun _ hg => hg)) (fun k hk => hn k hk)
theorem own_no3 {w : World} {base : Nat} {e : TypeId} {size : Nat} {v : Value} {n : Nat} {xs : List Value} (h : w.ownsRow base e size v n xs) (h3 : ∀ c : Nat, c * size ≠ 3) (b : Nat) (us : Array Value) (hB : Box w b us) (hu : us.size = 3) : v.ownBlock ≠ some b := by
  intro e
  obtain ⟨_, ⟨rfl, _⟩ | ⟨g, cap, cur, rfl, _, hg, _, _, hc, _⟩⟩ := h
  · cases e
  · simp only [Value.ownBlock, Option.some.injEq] at e
    subst e
    obtain ⟨t, hB⟩ := hB
    rw [hg] at hB
    cases hB
    exact h3 cap (hc ▸ hu)
theorem own_slAt {w : World} {base : Nat} {e : TypeId} {size : Nat} {v : Value} {n : Nat} {xs : List Value} (h : w.ownsRow base e size v n xs) (hm : n ≤ maxLen) : SlAt w v n xs := by
  obtain ⟨p, cap, rfl, h1, h2, h3⟩ := owns_cells h hm
  refine ⟨p, cap, rfl, h1, h2, ?_⟩
  rcases h3 with h3 | ⟨b, rfl, _, hb, hc⟩
  · exact .inl h3
  · exact .inr ⟨b, 0, rfl, hb, hc⟩
theorem RdSt.butBox {w w' : World} {r : Nat} {vb : Value} {l : List Nat} {S : RSt} (h : RdSt w r vb l S) {g : Nat} {vs : Array Value} (hB : Box w g vs) (hs : vs.size ≠ 3) (k : KeepBut (fun z => z = g) w w') : RdSt w' r vb l S := by
  have ne : ∀ {b : Nat} {us : Array Value}, Box w b us → us.size = 3 → ¬ b = g := fun hb hu e => by
    subst e
    obtain ⟨t1, h1⟩ := hB
    obtain ⟨t2, h2⟩ := hb
    rw [h1] at h2
    cases h2
    exact hs hu
  cases S with
  | ok p => exact ⟨h.1, h.2.but k (ne h.2 rfl)⟩
  | error e =>
    obtain ⟨q, p, h1, h2, h3, h4, h5⟩ := h
    exact ⟨q, p, h1, h2, h3, h4.but k (ne h4 rfl), h5.but k (ne h5 rfl)⟩
theorem wrap_u32n (n : Nat) (h : n ≤ 4294967295) : IntKind.u32.wrap (n : Int) = (n : Int) := by rw [IntKind.wrap_u32]; omega
theorem OErr.butBox {w w' : World} {u : Value} {x : WrV} (h : OErr w u x) {g : Nat} {vs : Array Value} (hB : Box w g vs) (hs : vs.size ≠ 3) (k : KeepBut (fun z => z = g) w w') : OErr w' u x := by
  rcases h with h | ⟨q, part, at_, n, h1, h2, h3, h4⟩
  · exact .inl h
  · refine .inr ⟨q, part, at_, n, h1, h2, h3, h4.but k (fun e => ?_)⟩
    subst e
    obtain ⟨t1, e1⟩ := hB
    obtain ⟨t2, e2⟩ := h4
    rw [e1] at e2
    cases e2
    exact hs rfl
end Go.Proofs.YtbmjnfnekmeegaaGreatDoor
