/- Capabilities as plain numbers: what P201 and P202 say of each, as Lean functions; frames and boxes; no Go in sight. -/
import Derived.WalkKit
import Derived.Below
import Derived.Lib.Hide
namespace Go.Proofs.YtnnelghngekbpaaDoor
set_option linter.unusedVariables false
set_option linter.unusedSimpArgs false
open Go.RowKit

/-- What was there stays; what is new is the call's own. -/
def Keep (w w' : World) : Prop := Below w.heap.size w w'
theorem Keep.refl (w : World) : Keep w w := Below.refl _ _
theorem Keep.size {w w' : World} (h : Keep w w') : w.heap.size ≤ w'.heap.size := Below.size h
theorem Keep.trans {a b c : World} (h : Keep a b) (k : Keep b c) : Keep a c := Below.trans h (Below.mono k (Below.size h))
theorem Keep.alloc {a w : World} (h : Keep a w) (o : Obj) : Keep a (w.alloc o) := Below.alloc h (Below.size h) o
theorem Keep.drew {a w : World} (h : Keep a w) : Keep a w.drew := Below.drew h
theorem Keep.setCell {a w : World} (h : Keep a w) {p : Addr} (hp : a.heap.size ≤ p.block) (v : Value) : Keep a (w.setCell p v) := Below.setCell h hp v
theorem Keep.cellOf {W w : World} (h : Keep W w) {a : Addr} {v : Value} (hc : W.cell? a = some v) : w.cell? a = some v := by
  rw [Below.cell h (World.block_lt_of_cell? _ _ hc)]; exact hc
/-- Block b of w is a row of cells that hold vs, none of them frozen. -/
def Box (w : World) (b : Nat) (vs : Array Value) : Prop := ∃ t, w.heap[b]? = some (.cells vs t)
theorem Box.lt {w : World} {b : Nat} {vs : Array Value} (h : Box w b vs) : b < w.heap.size := by
  obtain ⟨t, h⟩ := h
  exact (Array.getElem?_eq_some_iff.1 h).1
theorem Box.new (w : World) (vs : Array Value) (t : TypeId) : Box (w.alloc (.cells vs t)) w.heap.size vs := ⟨t, by
  show (w.heap.push _)[w.heap.size]? = _
  rw [Array.getElem?_push, if_pos rfl]⟩
theorem Box.new1 (w : World) (o : Obj) (vs : Array Value) (t : TypeId) : Box ((w.alloc o).alloc (.cells vs t)) (w.heap.size + 1) vs := by
  have h := Box.new (w.alloc o) vs t
  have e : (w.alloc o).heap.size = w.heap.size + 1 := by simp
  rwa [e] at h
theorem Box.new2 (w : World) (o o2 : Obj) (vs : Array Value) (t : TypeId) : Box (((w.alloc o).alloc o2).alloc (.cells vs t)) (w.heap.size + 2) vs := by
  have h := Box.new ((w.alloc o).alloc o2) vs t
  have e : ((w.alloc o).alloc o2).heap.size = w.heap.size + 2 := by simp
  rwa [e] at h
theorem Box.new3 (w : World) (o o2 o3 : Obj) (vs : Array Value) (t : TypeId) : Box ((((w.alloc o).alloc o2).alloc o3).alloc (.cells vs t)) (w.heap.size + 3) vs := by
  have h := Box.new (((w.alloc o).alloc o2).alloc o3) vs t
  have e : (((w.alloc o).alloc o2).alloc o3).heap.size = w.heap.size + 3 := by simp
  rwa [e] at h
theorem Box.alloc {w : World} {b : Nat} {vs : Array Value} (h : Box w b vs) (o : Obj) : Box (w.alloc o) b vs := by
  have hl := h.lt
  obtain ⟨t, h⟩ := h
  exact ⟨t, by rw [Below.heap_alloc _ _ _ hl]; exact h⟩
theorem Box.drew {w : World} {b : Nat} {vs : Array Value} (h : Box w b vs) : Box w.drew b vs := h
theorem Box.keep {w w' : World} {b : Nat} {vs : Array Value} (h : Box w b vs) (k : Keep w w') : Box w' b vs := by
  have hl := h.lt
  obtain ⟨t, h⟩ := h
  exact ⟨t, by rw [Below.block k _ hl]; exact h⟩
theorem Box.other {w : World} {b : Nat} {vs : Array Value} (h : Box w b vs) {a : Addr} (ha : b ≠ a.block) (v : Value) : Box (w.setCell a v) b vs := by
  obtain ⟨t, h⟩ := h
  exact ⟨t, by rw [Below.heap_setCell _ _ _ _ ha]; exact h⟩
theorem Box.set {w : World} {b : Nat} {vs : Array Value} (h : Box w b vs) (i : Nat) (v : Value) : Box (w.setCell ⟨b, i, none⟩ v) b (vs.setIfInBounds i v) := by
  obtain ⟨t, h⟩ := h
  refine ⟨t, ?_⟩
  simp only [World.setCell, Array.getElem?_modify, if_pos rfl, h]
  rfl
theorem Box.cells {w : World} {b : Nat} {vs : Array Value} (h : Box w b vs) : ∀ i, w.cell? ⟨b, i, none⟩ = vs[i]? := by
  obtain ⟨t, h⟩ := h
  intro i
  simp [World.cell?, h]
theorem Box.thawed {w : World} {b : Nat} {vs : Array Value} (h : Box w b vs) : ∀ i, w.frozen? ⟨b, i, none⟩ = false := by
  obtain ⟨t, h⟩ := h
  intro i
  simp [World.frozen?, h]

def hasB (base top a n : Int) : Bool := decide (base ≤ a) && decide (a + n ≤ top)
theorem hasB_true {base top a n : Int} (h1 : base ≤ a) (h2 : a + n ≤ top) : hasB base top a n = true := by simp [hasB, h1, h2]
theorem hasB_false {base top a n : Int} (h : ¬ (base ≤ a ∧ a + n ≤ top)) : hasB base top a n = false := by
  simp [hasB]; omega
/-- What one asks of a key: a tag, the bytes, the permissions, no seal. -/
def meetsB (t : Bool) (b p a m y n q : Int) : Bool := t && hasB b p a n && (bits .and .u16 m q == q) && (y == 0)
def tagOpen (t : Bool) (y : Int) : Bool := t && (y == 0)
def tagBounds (t : Bool) (b p a y n : Int) : Bool := t && hasB b p a n && (y == 0)
def tagEnter (t : Bool) (m y : Int) : Bool := t && (bits .and .u16 m 4 == 4) && (y == 0)
def subB (b p m b1 p1 m1 : Int) : Bool := decide (b1 ≤ b) && decide (p ≤ p1) && (bits .andNot .u16 m m1 == 0)
def sealOk (y : Int) (tk : Bool) (bk pk ak mk yk : Int) : Bool := decide (2 ≤ ak) && decide (ak < 1024) && (y == 0) && meetsB tk bk pk ak mk yk 1 32
def sealTag (t : Bool) (y : Int) (tk : Bool) (bk pk ak mk yk : Int) : Bool := t && sealOk y tk bk pk ak mk yk
def sealTy (y : Int) (tk : Bool) (bk pk ak mk yk : Int) : Int := if sealOk y tk bk pk ak mk yk = true then ak else y
def openOk (y : Int) (tk : Bool) (bk pk ak mk yk : Int) : Bool := decide (2 ≤ y) && (y == ak) && meetsB tk bk pk ak mk yk 1 64
def openTag (t : Bool) (y : Int) (tk : Bool) (bk pk ak mk yk : Int) : Bool := t && openOk y tk bk pk ak mk yk
def openTy (y : Int) (tk : Bool) (bk pk ak mk yk : Int) : Int := if openOk y tk bk pk ak mk yk = true then 0 else y
end Go.Proofs.YtnnelghngekbpaaDoor
