/- hasplaw12.To, hasplaw13.OfNames: words, names, copied. -/
import Derived.Test.YtockkidbncpdlaaDoorEvAll
import Derived.Test.YtockkidbncpdlaaDoorApp
namespace Go.Proofs.YtockkidbncpdlaaDoor
set_option linter.unusedVariables false
set_option linter.unusedSimpArgs false
open Go.RowKit
theorem infoPTok : (Tryd.prog.info? 47).map (fun i => (i.zero, i.size, i.bytes)) = some (some (.agg #[.int .i64 0, .string ⟨#[]⟩, .int .i64 0, .int .i64 0]), 4, 40) := by kernel_rfl
theorem RowAt.tok {w : World} {p : Option Addr} {toks : List Tok} (h : RowAt w p (tokRows toks)) {i : Nat} {t : Tok} (ht : toks[i]? = some t) : ∃ g vs, p = some ⟨g, 0, none⟩ ∧ g < w.heap.size ∧ Box w g vs ∧ vs[i * 4]? = some (.int .i64 t.kind) ∧ vs[i * 4 + 1]? = some (.string t.text) ∧ vs[i * 4 + 2]? = some (.int .i64 t.n) ∧ vs[i * 4 + 3]? = some (.int .i64 t.pl) := by
  have hi := (List.getElem?_eq_some_iff.1 ht).1
  have hl := tokRows_length toks
  rcases h with h | ⟨g, vs, h1, h3, h4⟩
  · rw [h] at hl; simp at hl; omega
  · refine ⟨g, vs, h1, h3.lt, h3, ?_, ?_, ?_, ?_⟩
    · rw [h4 _ (by omega)]; exact tokRows_row toks i 0 (by decide) t ht
    · rw [h4 _ (by omega)]; exact tokRows_row toks i 1 (by decide) t ht
    · rw [h4 _ (by omega)]; exact tokRows_row toks i 2 (by decide) t ht
    · rw [h4 _ (by omega)]; exact tokRows_row toks i 3 (by decide) t ht
theorem RowAt.name {w : World} {p : Option Addr} {l : List (ByteArray × Int)} (h : RowAt w p (nameRows l)) {i : Nat} {t : ByteArray × Int} (ht : l[i]? = some t) : ∃ g vs, p = some ⟨g, 0, none⟩ ∧ g < w.heap.size ∧ Box w g vs ∧ vs[i * 2]? = some (.string t.1) ∧ vs[i * 2 + 1]? = some (.int .i64 t.2) := by
  have hi := (List.getElem?_eq_some_iff.1 ht).1
  have hl := nameRows_length l
  rcases h with h | ⟨g, vs, h1, h3, h4⟩
  · rw [h] at hl; simp at hl; omega
  · refine ⟨g, vs, h1, h3.lt, h3, ?_, ?_⟩
    · rw [h4 _ (by omega)]; exact nameRows_row l i 0 (by decide) t ht
    · rw [h4 _ (by omega)]; exact nameRows_row l i 1 (by decide) t ht
/-- A row of names lies where a slice says, wherever in its block. -/
def NamesAt (w : World) (q : Option Addr) (l : List (ByteArray × Int)) : Prop := l = [] ∨ ∃ b off, q = some ⟨b, off, none⟩ ∧ b < w.heap.size ∧ ∀ (i : Nat) (x : ByteArray × Int), l[i]? = some x → w.cell? ⟨b, off + i * 2, none⟩ = some (.string x.1) ∧ w.cell? ⟨b, off + i * 2 + 1, none⟩ = some (.int .i64 x.2)
theorem NamesAt.keep {w w' : World} {q : Option Addr} {l : List (ByteArray × Int)} (h : NamesAt w q l) (k : Keep w w') : NamesAt w' q l := by
  rcases h with h | ⟨b, off, h1, h2, h3⟩
  · exact .inl h
  · exact .inr ⟨b, off, h1, Nat.lt_of_lt_of_le h2 k.size, fun i x hx => ⟨k.cellOf (h3 i x hx).1, k.cellOf (h3 i x hx).2⟩⟩
theorem RowAt.names {w : World} {p : Option Addr} {l : List (ByteArray × Int)} (h : RowAt w p (nameRows l)) : NamesAt w p l := by
  match l, h with
  | [], _ => exact .inl rfl
  | y :: l, h =>
    have h0 := RowAt.name h (i := 0) (t := y) rfl
    obtain ⟨g, vs, hp, hg, _⟩ := h0
    refine .inr ⟨g, 0, hp, hg, fun i x hx => ?_⟩
    obtain ⟨g', vs', hp', _, hb', v0, v1⟩ := RowAt.name h hx
    rw [hp] at hp'
    obtain rfl : g = g' := by have := Option.some.inj hp'; exact congrArg Addr.block this
    rw [hb'.cells, hb'.cells, Nat.zero_add]
    exact ⟨v0, v1⟩
theorem cell_but {S : Nat → Prop} {w w' : World} (k : KeepBut S w w') {b : Nat} (hb : b < w.heap.size) (hS : ¬ S b) {o : Nat} {v : Value} (h : w.cell? ⟨b, o, none⟩ = some v) : w'.cell? ⟨b, o, none⟩ = some v := by
  rw [← h]
  simp only [World.cell?, k.block b hb hS]
theorem take_row (l : List Tok) (k : Nat) (t : Tok) (h : l[k]? = some t) : tokRows (l.take (k + 1)) = tokRows (l.take k) ++ tokRow t := by
  obtain ⟨hk, rfl⟩ := List.getElem?_eq_some_iff.1 h
  rw [List.take_succ_eq_append_getElem hk, tokRows_append]
  simp [tokRows]
def nameRow (x : ByteArray × Int) : List Value := [.string x.1, .int .i64 x.2]
theorem take_name (l : List (ByteArray × Int)) (k : Nat) (t : ByteArray × Int) (h : l[k]? = some t) : nameRows (l.take (k + 1)) = nameRows (l.take k) ++ nameRow t := by
  obtain ⟨hk, rfl⟩ := List.getElem?_eq_some_iff.1 h
  rw [List.take_succ_eq_append_getElem hk]
  unfold nameRows nameRow
  rw [List.flatMap_append]
  rfl
theorem nameRow_one (t : ByteArray × Int) : ∀ u ∈ nameRow t, u.oneCell' = true := by
  intro u hu
  simp only [nameRow, List.mem_cons, List.not_mem_nil, or_false] at hu
  rcases hu with rfl | rfl <;> rfl
end Go.Proofs.YtockkidbncpdlaaDoor
