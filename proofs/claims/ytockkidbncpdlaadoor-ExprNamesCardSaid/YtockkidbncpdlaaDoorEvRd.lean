/- The reference's Reader: where it lies, what it holds; fail, bound, levels. -/
import Derived.Test.YtockkidbncpdlaaDoorLexAll
import Derived.Test.YtockkidbncpdlaaDoorEvTab
namespace Go.Proofs.YtockkidbncpdlaaDoor
set_option linter.unusedVariables false
set_option linter.unusedSimpArgs false
open Go.RowKit
/-- A Reader: its block, the words, the names. -/
structure Rdr where
  b : Nat
  p : Option Addr
  cap : Nat
  q : Option Addr
  capN : Nat
  toks : List Tok
  names : List (ByteArray × Int)
def Rdr.cells (r : Rdr) (a : Int) (part : ByteArray) (pl e : Int) : Array Value := #[.slice r.p r.toks.length r.cap, .int .i64 a, .slice r.q r.names.length r.capN, .string part, .int .i64 pl, .int .i64 e]
def tokenS : ByteArray := ⟨#[116, 111, 107, 101, 110]⟩
def nameRows (l : List (ByteArray × Int)) : List Value := l.flatMap fun x => [.string x.1, .int .i64 x.2]
/-- A row of cells lies where a slice says, in a block that is not b. -/
def RowIn (w : World) (b : Nat) (p : Option Addr) (xs : List Value) : Prop := xs = [] ∨ ∃ g vs, p = some ⟨g, 0, none⟩ ∧ g ≠ b ∧ Box w g vs ∧ ∀ i : Nat, i < xs.length → vs[i]? = xs[i]?
theorem RowIn.but {w w' : World} {b : Nat} {p : Option Addr} {xs : List Value} (h : RowIn w b p xs) (k : KeepBut (fun z => z = b) w w') : RowIn w' b p xs := by
  rcases h with h | ⟨g, vs, h1, h2, h3, h4⟩
  · exact .inl h
  · exact .inr ⟨g, vs, h1, h2, h3.but k h2, h4⟩
theorem RowIn.keep {w w' : World} {b : Nat} {p : Option Addr} {xs : List Value} (h : RowIn w b p xs) (k : Keep w w') : RowIn w' b p xs := h.but (k.but _)
structure Rdr.In (r : Rdr) (w : World) : Prop where
  toks : RowIn w r.b r.p (tokRows r.toks)
  names : RowIn w r.b r.q (nameRows r.names)
  few : r.toks.length ≤ 1000000
  fewN : r.names.length ≤ 1000000
  cap : r.toks.length ≤ r.cap
  capN : r.names.length ≤ r.capN
  small : ∀ t ∈ r.toks, t.kind = 2 → -1099511627776 ≤ t.n ∧ t.n ≤ 1099511627776
theorem Rdr.In.but {r : Rdr} {w w' : World} (h : r.In w) (k : KeepBut (fun z => z = r.b) w w') : r.In w' := ⟨h.toks.but k, h.names.but k, h.few, h.fewN, h.cap, h.capN, h.small⟩
theorem Rdr.In.keep {r : Rdr} {w w' : World} (h : r.In w) (k : Keep w w') : r.In w' := h.but (k.but _)
def Rdr.Ok (r : Rdr) (w : World) (a : Int) : Prop := Box w r.b (r.cells a ⟨#[]⟩ 0 0)
def Rdr.Bad (r : Rdr) (w : World) (pl e : Int) : Prop := e ≠ 0 ∧ ∃ a, Box w r.b (r.cells a tokenS pl e)
/-- The cells of the word at a place. -/
theorem Rdr.In.tok {r : Rdr} {w : World} (h : r.In w) {i : Nat} {t : Tok} (ht : r.toks[i]? = some t) : ∃ g, r.p = some ⟨g, 0, none⟩ ∧ g ≠ r.b ∧ w.cell? ⟨g, i * 4, none⟩ = some (.int .i64 t.kind) ∧ w.cell? ⟨g, i * 4 + 1, none⟩ = some (.string t.text) ∧ w.cell? ⟨g, i * 4 + 2, none⟩ = some (.int .i64 t.n) ∧ w.cell? ⟨g, i * 4 + 3, none⟩ = some (.int .i64 t.pl) := by
  have hi := (List.getElem?_eq_some_iff.1 ht).1
  have hl := tokRows_length r.toks
  rcases h.toks with h | ⟨g, vs, h1, h2, h3, h4⟩
  · rw [h] at hl; simp at hl; omega
  · refine ⟨g, h1, h2, ?_, ?_, ?_, ?_⟩
    · have := tokRows_row r.toks i 0 (by decide) t ht
      rw [h3.cells, h4 _ (by omega)]; exact this
    · have := tokRows_row r.toks i 1 (by decide) t ht
      rw [h3.cells, h4 _ (by omega)]; exact this
    · have := tokRows_row r.toks i 2 (by decide) t ht
      rw [h3.cells, h4 _ (by omega)]; exact this
    · have := tokRows_row r.toks i 3 (by decide) t ht
      rw [h3.cells, h4 _ (by omega)]; exact this
theorem nameRows_length (l : List (ByteArray × Int)) : (nameRows l).length = l.length * 2 := by
  induction l with
  | nil => rfl
  | cons t l ih => simp only [nameRows, List.flatMap_cons, List.length_append, List.length_cons] at ih ⊢; rw [ih]; simp; omega
theorem nameRows_row (l : List (ByteArray × Int)) (i j : Nat) (hj : j < 2) : ∀ t, l[i]? = some t → (nameRows l)[i * 2 + j]? = ([.string t.1, .int .i64 t.2] : List Value)[j]? := by
  induction l generalizing i with
  | nil => intro t h; simp at h
  | cons a l ih =>
    intro t h
    cases i with
    | zero =>
      simp only [List.getElem?_cons_zero, Option.some.injEq] at h
      subst h
      simp only [nameRows, List.flatMap_cons]
      rw [List.getElem?_append_left (by simp; omega)]
      simp
    | succ i =>
      simp only [List.getElem?_cons_succ] at h
      have := ih i t h
      simp only [nameRows, List.flatMap_cons] at this ⊢
      rw [List.getElem?_append_right (by simp; omega), ← this]
      congr 1
      simp; omega
theorem Rdr.In.name {r : Rdr} {w : World} (h : r.In w) {i : Nat} {t : ByteArray × Int} (ht : r.names[i]? = some t) : ∃ g, r.q = some ⟨g, 0, none⟩ ∧ g ≠ r.b ∧ w.cell? ⟨g, i * 2, none⟩ = some (.string t.1) ∧ w.cell? ⟨g, i * 2 + 1, none⟩ = some (.int .i64 t.2) := by
  have hi := (List.getElem?_eq_some_iff.1 ht).1
  have hl := nameRows_length r.names
  rcases h.names with h | ⟨g, vs, h1, h2, h3, h4⟩
  · rw [h] at hl; simp at hl; omega
  · refine ⟨g, h1, h2, ?_, ?_⟩
    · have := nameRows_row r.names i 0 (by decide) t ht
      rw [h3.cells, h4 _ (by omega)]; exact this
    · have := nameRows_row r.names i 1 (by decide) t ht
      rw [h3.cells, h4 _ (by omega)]; exact this
/-- The signs of all levels, as they lie. -/
def LvIn (w : World) (v : Value) : Prop := ∃ g h, v = .slice (some ⟨g, 0, none⟩) 6 6 ∧ h + 6 = g ∧ ∀ k, k < 6 → w.cell? ⟨g, k, none⟩ = some (.slice (some ⟨h + k, 0, none⟩) (lvS k).length (lvS k).length) ∧ Box w (h + k) ((lvS k).map Value.string).toArray
theorem LvIn.but {w w' : World} {v : Value} {b : Nat} (h : LvIn w v) (k : KeepBut (fun z => z = b) w w') (hb : ∀ g, v = .slice (some ⟨g, 0, none⟩) 6 6 → b + 6 < g) : LvIn w' v := by
  obtain ⟨g, h, rfl, h1, h2⟩ := h
  have hb := hb g rfl
  refine ⟨g, h, rfl, h1, fun j hj => ?_⟩
  obtain ⟨c, d⟩ := h2 j hj
  refine ⟨?_, d.but k (by omega)⟩
  have hl := World.block_lt_of_cell? _ _ c
  have hk := k.block g hl (by omega)
  simp only [World.cell?] at c ⊢
  rw [hk]; exact c
theorem Box.newAt (w : World) (b : Nat) (vs : Array Value) (t : TypeId) (h : w.heap.size = b) : Box (w.alloc (.cells vs t)) b vs := by
  subst h; exact Box.new _ _ _
end Go.Proofs.YtockkidbncpdlaaDoor
