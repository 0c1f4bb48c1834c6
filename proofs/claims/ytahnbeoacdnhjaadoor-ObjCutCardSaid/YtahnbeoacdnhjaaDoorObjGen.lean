/- Rows that are owned, as cells; what a loop that fills a field keeps; a part of a row; a field of what is wrong. -/
import Derived.Test.YtahnbeoacdnhjaaDoorObjAt
import Derived.Test.YtahnbeoacdnhjaaDoorApp
import Derived.WalkKit
import Derived.ProofKit
namespace Go.Proofs.YtahnbeoacdnhjaaDoor
set_option linter.unusedVariables false
set_option linter.unusedSimpArgs false
open Go Go.RowKit
theorem oinfo_parts {e : TypeId} {z : Value} {n m : Nat} (h : (Tryd.prog.info? e).map (fun i => (i.zero, i.size, i.bytes)) = some (some z, n, m)) : ∃ i, Tryd.prog.info? e = some i ∧ i.zero = some z ∧ i.size = n ∧ i.bytes = m := by
  obtain ⟨i, hi, h2⟩ := Option.map_eq_some_iff.1 h
  simp only [Prod.mk.injEq] at h2
  exact ⟨i, hi, h2.1, h2.2.1, h2.2.2⟩
theorem take_flat {α : Type} (f : α → List Value) (l : List α) (k : Nat) (t : α) (h : l[k]? = some t) : (l.take (k + 1)).flatMap f = (l.take k).flatMap f ++ f t := by
  obtain ⟨hk, rfl⟩ := List.getElem?_eq_some_iff.1 h
  rw [List.take_succ_eq_append_getElem hk, List.flatMap_append]
  simp
/-- What is owned, as cells where a slice says; its block lies from the base on. -/
theorem owns_cells {w : World} {base : Nat} {e : TypeId} {size : Nat} {v : Value} {n : Nat} {xs : List Value} (h : w.ownsRow base e size v n xs) (hm : n ≤ maxLen) : ∃ p cap, v = .slice p n cap ∧ n ≤ cap ∧ cap ≤ maxLen ∧ (xs = [] ∨ ∃ b, p = some ⟨b, 0, none⟩ ∧ base ≤ b ∧ b < w.heap.size ∧ ∀ (i : Nat) (x : Value), xs[i]? = some x → w.cell? ⟨b, 0 + i, none⟩ = some x) := by
  obtain ⟨hl, ⟨rfl, rfl⟩ | ⟨g, cap, cur, rfl, hb, hg, hn, hc, hs, ht⟩⟩ := h
  · exact ⟨none, 0, rfl, Nat.le_refl _, Nat.zero_le _, .inl (List.length_eq_zero_iff.1 (by omega))⟩
  · have B : Box w g cur := ⟨e, hg⟩
    refine ⟨some ⟨g, 0, none⟩, cap, rfl, hn, hc, .inr ⟨g, rfl, hb, B.lt, fun i x hx => ?_⟩⟩
    have hi := (List.getElem?_eq_some_iff.1 hx).1
    rw [Nat.zero_add, B.cells, ← hx, ← ht, List.getElem?_take, if_pos (by omega)]
    simp
theorem ocell_but {S : Nat → Prop} {w w' : World} (k : KeepBut S w w') {b : Nat} (hb : b < w.heap.size) (hS : ¬ S b) {o : Nat} {v : Value} (h : w.cell? ⟨b, o, none⟩ = some v) : w'.cell? ⟨b, o, none⟩ = some v := by
  rw [← h]
  simp only [World.cell?, k.block b hb hS]
theorem keepBut_new {x : Nat} {w w1 w2 : World} (h : KeepBut (fun z => z = x) w w1) (k : KeepBut (fun z => w.heap.size ≤ z) w1 w2) : KeepBut (fun z => z = x) w w2 := by
  have a := h.mono (T := fun z => z = x ∨ w.heap.size ≤ z) (fun k _ hs => .inl hs)
  have b := k.mono (T := fun z => z = x ∨ w.heap.size ≤ z) (fun k _ hs => .inr hs)
  exact (a.trans b).mono (fun k hk hs => hs.resolve_right (by omega))
theorem SlAt.take {w : World} {p : Option Addr} {n cap : Nat} {xs : List Value} (h : SlAt w (.slice p n cap) n xs) {m : Nat} (hm : m ≤ n) : SlAt w (.slice p m cap) m (xs.take m) := by
  obtain ⟨p', cap', e, h1, h2, h3⟩ := h
  simp only [Value.slice.injEq, true_and] at e
  obtain ⟨rfl, rfl⟩ := e
  refine ⟨_, _, rfl, by omega, h2, ?_⟩
  rcases h3 with h3 | ⟨b, off, h3, h4, h5⟩
  · left; rw [h3]; simp
  · refine .inr ⟨b, off, h3, h4, fun i x hx => h5 i x ?_⟩
    rw [List.getElem?_take] at hx
    split at hx
    · exact hx
    · cases hx
theorem own_none (W : World) (base : Nat) (e : TypeId) (size : Nat) (g : Nat) (hg : W.heap.size = g) (hb : base ≤ W.heap.size) : (W.alloc (.cells #[] e)).ownsRow base e size (.slice (some ⟨g, 0, none⟩) 0 0) 0 [] := by
  subst hg
  exact ⟨by simp, .inr ⟨W.heap.size, 0, #[], rfl, hb, heap_alloc_new _ _, Nat.le_refl _, by decide, by simp, by simp⟩⟩
theorem infoU8 : (Tryd.prog.info? 5).map (fun i => (i.zero, i.size, i.bytes)) = some (some (.int .u8 0), 1, 1) := by kernel_rfl
theorem wfld2 (p : ByteArray) (a e : Int) (w : World) : (Instr.field 31 (.agg #[.string p, .int .i64 a, .int .i64 e]) 2).run Tryd.prog w = .ok (.int .i64 e) w := by kernel_rfl
theorem obox_at (w : World) (b : Nat) (vs : Array Value) (t : TypeId) (h : w.heap.size = b) : Box (w.alloc (.cells vs t)) b vs := by
  subst h; exact Box.new _ _ _
theorem box_cells {w : World} {g : Nat} {vs : Array Value} {xs : List Value} (B : Box w g vs) (e : vs.toList = xs) : CellsAt w (some ⟨g, 0, none⟩) xs :=
  .inr ⟨g, 0, rfl, B.lt, fun i x hx => by rw [Nat.zero_add, B.cells, ← Array.getElem?_toList, e]; exact hx⟩
end Go.Proofs.YtahnbeoacdnhjaaDoor
