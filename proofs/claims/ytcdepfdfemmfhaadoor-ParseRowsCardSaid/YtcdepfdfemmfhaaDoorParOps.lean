/- The reference's operands: words between commas. -/
import Derived.Test.YtcdepfdfemmfhaaDoorParMem
import Derived.Test.YtcdepfdfemmfhaaDoorLexAll
import Derived.Test.YtcdepfdfemmfhaaDoorGBase
import Derived.Maps.AppendAt
namespace Go.Proofs.YtcdepfdfemmfhaaDoor
set_option linter.unusedVariables false
set_option linter.unusedSimpArgs false
open Go.RowKit
theorem cellB {S : Nat → Prop} {w w' : World} (k : KeepBut S w w') {b : Nat} (hb : b < w.heap.size) (hS : ¬ S b) {o : Nat} {v : Value} (h : w.cell? ⟨b, o, none⟩ = some v) : w'.cell? ⟨b, o, none⟩ = some v := by
  rw [← h]
  simp only [World.cell?, k.block b hb hS]
/-- append of nothing. -/
theorem run_append_void {P : Program} (W : World) (t ty e : TypeId) (i : TypeInfo) (z : Value) (ht : P.underlying t = some (.slice e)) (hi : P.info? e = some i) (hz : i.zero = some z) (g n c k : Nat) (hn : n ≤ c) :
    (Builtin.append_ #[t, t] ty #[.slice (some ⟨g, 0, none⟩) n c, .slice none 0 k]).run P W = .ok (.slice (some ⟨g, 0, none⟩) n c) W := by
  simp [Builtin.append_, run_underlying ht, sizeOf, typeInfo, hi, hz, Builtin.lenOf, hn, run_firstCells_none, storeCells]
theorem gives_append_void {P : Program} {M : Value → World → Prop} {o : Oper} {a : Act} (W : World) (s x : Operand) (t : TypeId) (ho : o.op = .call { callee := .builtin .append, args := #[s, x], argTypes := #[t, t] })
    (e : TypeId) (i : TypeInfo) (z : Value) (ht : P.underlying t = some (.slice e)) (hi : P.info? e = some i) (hz : i.zero = some z) (g n c k : Nat) (hs : a.eval s = .slice (some ⟨g, 0, none⟩) n c) (hx : a.eval x = .slice none 0 k) (hn : n ≤ c)
    (h : M (.slice (some ⟨g, 0, none⟩) n c) W) : Rel.Gives P M ((execOp a.eval o).run P W) := by
  have hr := run_append_void (P := P) W t o.type e i z ht hi hz g n c k hn
  unfold execOp
  simp only [ho, resolve, invoke, builtin, Sem.run_bind, Sem.run_pure, Result.andThen_ok, List.map_toArray, List.map_cons, List.map_nil, hs, hx, hr]
  exact h
theorem own_empty (W : World) (base : Nat) (e : TypeId) (size : Nat) (hb : base ≤ W.heap.size) : (W.alloc (.cells #[] e)).ownsRow base e size (.slice (some ⟨W.heap.size, 0, none⟩) 0 0) 0 [] :=
  ⟨by simp, .inr ⟨W.heap.size, 0, #[], rfl, hb, heap_alloc_new _ _, Nat.le_refl _, by decide, by simp, by simp⟩⟩
theorem own_cells {w : World} {base : Nat} {e : TypeId} {size n c g : Nat} {xs : List Value} (h : w.ownsRow base e size (.slice (some ⟨g, 0, none⟩) n c) n xs) : ∀ (j : Nat) (u : Value), xs[j]? = some u → w.cell? ((⟨g, 0, none⟩ : Addr).add j) = some u := by
  intro j u hj
  obtain ⟨hl, ⟨h1, _⟩ | ⟨g', cap, cur, hv, hb, hg, hn, hc, hs, ht⟩⟩ := h
  · cases h1
  · cases hv
    have hj' := (List.getElem?_eq_some_iff.1 hj).1
    have B : Box w g cur := ⟨e, hg⟩
    have : cur[j]? = some u := by
      rw [← ht, List.getElem?_take] at hj
      split at hj
      · simpa using hj
      · cases hj
    by_cases hj0 : j = 0
    · subst hj0; simp [Addr.add, B.cells, this]
    · simp [Addr.add, hj0, B.cells, this]
theorem owns_one {w : World} {base : Nat} {e : TypeId} {size n : Nat} {v : Value} {xs : List Value} (h : w.ownsRow base e size v n xs) : v.oneCell' = true := by
  rcases h.2 with ⟨rfl, _⟩ | ⟨g, cap, cur, rfl, _⟩ <;> rfl
theorem owns_grown {w w' : World} {base : Nat} {e : TypeId} {size n : Nat} {v : Value} {xs : List Value} {row : Option Nat} (h : w.ownsRow base e size v n xs) (k : w.grownBy w' row) (hr : ∀ g, v.ownBlock = some g → row ≠ some g) : w'.ownsRow base e size v n xs := by
  obtain ⟨h1, h2 | ⟨g, cap, cur, hv, hb, hg, h3⟩⟩ := h
  · exact ⟨h1, .inl h2⟩
  · exact ⟨h1, .inr ⟨g, cap, cur, hv, hb, by rw [k.block g (Array.getElem?_eq_some_iff.1 hg).1 (fun e => hr g (by rw [hv]; rfl) e.symm)]; exact hg, h3⟩⟩
theorem cells_tok {W : World} {b : Nat} {t : Tok} (h : Box W b #[.int .i64 t.kind, .string t.text, .int .i64 t.n, .int .i64 t.pl]) : ∀ (j : Nat) (u : Value), (tokRow t)[j]? = some u → W.cell? ((⟨b, 0, none⟩ : Addr).add j) = some u := by
  intro j u hj
  match j, hj with
  | 0, hj => simp [tokRow] at hj; subst hj; simp [Addr.add, h.cells]
  | 1, hj => simp [tokRow] at hj; subst hj; simp [Addr.add, h.cells]
  | 2, hj => simp [tokRow] at hj; subst hj; simp [Addr.add, h.cells]
  | 3, hj => simp [tokRow] at hj; subst hj; simp [Addr.add, h.cells]
  | (n + 4), hj => simp [tokRow] at hj
theorem tokRows_one (l : List Tok) : ∀ u ∈ tokRows l, u.oneCell' = true := by
  intro u hu
  simp only [tokRows, List.mem_flatMap] at hu
  obtain ⟨t, _, ht⟩ := hu
  exact tokRow_one t u ht
def mOne : Int := -1
theorem opsL_comma {t : Tok} {r : List Tok} {a : Nat} {out : List (List Tok)} {one : List Tok} (hc : tokIs t sComma = true) (h1 : one ≠ []) : opsL (t :: r) a out one 0 = opsL r (a + 1) (out ++ [one]) [] 0 := by
  show (if 0 = 0 ∧ tokIs t sComma = true then (if one = [] then Except.error a else opsL r (a + 1) (out ++ [one]) [] 0) else opsL r (a + 1) out (one ++ [t]) (openAfter t 0)) = _
  rw [if_pos ⟨rfl, hc⟩, if_neg h1]
theorem opsL_empty {t : Tok} {r : List Tok} {a : Nat} {out : List (List Tok)} (hc : tokIs t sComma = true) : opsL (t :: r) a out [] 0 = .error a := by
  show (if 0 = 0 ∧ tokIs t sComma = true then (if ([] : List Tok) = [] then Except.error a else opsL r (a + 1) (out ++ [[]]) [] 0) else opsL r (a + 1) out ([] ++ [t]) (openAfter t 0)) = _
  rw [if_pos ⟨rfl, hc⟩, if_pos rfl]
theorem opsL_word {t : Tok} {r : List Tok} {a o : Nat} {out : List (List Tok)} {one : List Tok} (h : ¬ (o = 0 ∧ tokIs t sComma = true)) : opsL (t :: r) a out one o = opsL r (a + 1) out (one ++ [t]) (openAfter t o) := by
  show (if o = 0 ∧ tokIs t sComma = true then (if one = [] then Except.error a else opsL r (a + 1) (out ++ [one]) [] 0) else opsL r (a + 1) out (one ++ [t]) (openAfter t o)) = _
  rw [if_neg h]
theorem word_ways (t : Tok) (o : Nat) : (tokIs t sLeft = true ∧ tokIs t sRight = false ∧ openAfter t o = o + 1) ∨ (tokIs t sLeft = false ∧ tokIs t sRight = true ∧ 0 < o ∧ openAfter t o = o - 1) ∨ (tokIs t sLeft = false ∧ tokIs t sRight = true ∧ o = 0 ∧ openAfter t o = o) ∨ (tokIs t sLeft = false ∧ tokIs t sRight = false ∧ openAfter t o = o) := by
  unfold openAfter
  cases d : tokIs t sLeft with
  | true =>
    have e : t.text = sLeft := by unfold tokIs at d; simp at d; exact d.2
    have f : tokIs t sRight = false := by
      unfold tokIs
      rw [e, show decide (sLeft = sRight) = false by decide +kernel, Bool.and_false]
    exact .inl ⟨rfl, f, if_pos rfl⟩
  | false =>
    cases f : tokIs t sRight with
    | true =>
      by_cases z : 0 < o
      · exact .inr (.inl ⟨rfl, rfl, z, by rw [if_neg (by decide), if_pos ⟨rfl, z⟩]⟩)
      · exact .inr (.inr (.inl ⟨rfl, rfl, by omega, by rw [if_neg (by decide), if_neg (fun h => z h.2)]⟩))
    | false => exact .inr (.inr (.inr ⟨rfl, rfl, by rw [if_neg (by decide), if_neg (fun h => by cases h.1)]⟩))
end Go.Proofs.YtcdepfdfemmfhaaDoor
