/- ImgNil, ImgThree, ImgFewM: append of nothing, in a plain region. -/
import Derived.Deep.Upon
import Derived.WalkKit
import Derived.ProofKit
import Derived.Test.YtmcbeclkocjlkaaDoorImgAt
import Derived.Test.YtmcbeclkocjlkaaDoorGRows
import Derived.Test.YtmcbeclkocjlkaaDoorGPlainI
/- append of nothing, in a plain region. -/
namespace Go.Proofs.YtmcbeclkocjlkaaDoor
set_option linter.unusedVariables false
set_option linter.unusedSimpArgs false
open Go Go.RowKit
/-- append of a nil slice. -/
theorem wpList_append_nil {P : Program} {w : World} {ops : Array Oper} {rest : List Oper} {o : Oper} {a : Act} {Q : Exit → Act → World → Prop} (hgd : o.guard = none) (s x : Operand) (t : TypeId)
    (ho : o.op = .call { callee := .builtin .append, args := #[s, x], argTypes := #[t, t] })
    (e : TypeId) (i : TypeInfo) (ht : P.underlying t = some (.slice e)) (hi : P.info? e = some i) (q : Option Addr) (n c k : Nat) (hs : a.eval s = .slice q n c) (hx : a.eval x = .slice none 0 k) (hn : n ≤ c)
    (h : wpList P ops Q rest (a.put o.dst (.slice q n c)) w) : wpList P ops Q (o :: rest) a w :=
  wpList_plain hgd fun _ hK => by
    have hr := run_append_nothing (P := P) (ty := o.type) w t t e i ht hi q n c hn (.slice none 0 k) (Src.ofNil w ht k)
    unfold Oper.wp execOp
    simp only [ho, resolve, invoke, builtin, Sem.run_bind, Sem.run_pure, Result.andThen_ok, List.map_toArray, List.map_cons, List.map_nil, hs, hx, hr]
    exact hK _ _ h
end Go.Proofs.YtmcbeclkocjlkaaDoor

/- An image's spans, three of each part, plain; what few images are. -/
namespace Go.Proofs.YtmcbeclkocjlkaaDoor
set_option linter.unusedVariables false
set_option linter.unusedSimpArgs false
open Go Go.RowKit
theorem ownForm {w : World} {base : Nat} {e : TypeId} {size : Nat} {v : Value} {n : Nat} {xs : List Value} (h : w.ownsRow base e size v n xs) : ∃ q c, v = .slice q n c ∧ n ≤ c := by
  obtain ⟨_, ⟨h1, h2⟩ | ⟨g, cap, cur, hv, _, _, hn, _⟩⟩ := h
  · subst h2; exact ⟨none, 0, h1, Nat.le_refl _⟩
  · exact ⟨_, cap, hv, hn⟩
theorem spanRows_length (l : List SpanV) : (spanRows l).length = l.length * 2 := by
  induction l with
  | nil => rfl
  | cons a l ih => unfold spanRows at ih ⊢; rw [List.flatMap_cons, List.length_append, ih, List.length_cons]; simp [spanRow]; omega
theorem spanRows_one (l : List SpanV) : ∀ u ∈ spanRows l, u.oneCell' = true := by
  intro u hu
  unfold spanRows at hu
  obtain ⟨s, _, hs⟩ := List.mem_flatMap.1 hu
  simp only [spanRow, List.mem_cons, List.not_mem_nil, or_false] at hs
  rcases hs with rfl | rfl <;> rfl
def threeS (p : PartV) : List SpanV := [p.code, p.data, p.stack]
theorem take_three (l : List PartV) (k : Nat) (p : PartV) (h : l[k]? = some p) : spanRows ((l.take (k + 1)).flatMap threeS) = spanRows ((l.take k).flatMap threeS) ++ spanRows (threeS p) := by
  obtain ⟨hk, rfl⟩ := List.getElem?_eq_some_iff.1 h
  rw [List.take_succ_eq_append_getElem hk, List.flatMap_append]
  unfold spanRows
  rw [List.flatMap_append]
  simp
theorem three_length (l : List PartV) : (l.flatMap threeS).length = l.length * 3 := by
  induction l with
  | nil => rfl
  | cons a l ih => rw [List.flatMap_cons, List.length_append, ih, List.length_cons]; simp [threeS]; omega
theorem spansI_eq (i : ImgV) : spansI i = i.parts.flatMap threeS ++ i.shares := rfl
def imgCells (i : ImgV) (vp vs vi vb : Value) : Array Value := #[.int .u32 i.size, vp, vs, vi, .int .i64 i.start, .int .u32 i.addr, vb]
theorem cellK {S : Nat → Prop} {w w' : World} (k : KeepBut S w w') {b : Nat} (hb : b < w.heap.size) (hS : ¬ S b) {o : Nat} {v : Value} (h : w.cell? ⟨b, o, none⟩ = some v) : w'.cell? ⟨b, o, none⟩ = some v := by
  rw [← h]
  simp only [World.cell?, k.block b hb hS]
/-- hasplaw18.Few. -/
structure ImgFew (i : ImgV) : Prop where
  parts : i.parts.length ≤ 12
  shares : i.shares.length ≤ 12
  inits : i.inits.length ≤ 60
  bytes : i.bytes.length ≤ 2000
  names : ∀ p ∈ i.parts, p.name.size ≤ 100
  ents : ∀ p ∈ i.parts, p.entries.length ≤ 70
theorem any_take {α : Type} (f : α → Bool) (l : List α) (k : Nat) (hk : k ≤ l.length) (h : ∀ (j : Nat) (x : α), j < k → l[j]? = some x → f x = false) : (l.take k).any f = false := by
  rw [List.any_eq_false]
  intro x hx
  obtain ⟨j, hj⟩ := List.mem_iff_getElem?.1 hx
  rw [List.getElem?_take] at hj
  split at hj
  · rw [h j x (by assumption) hj]; simp
  · cases hj
theorem any_take_at {α : Type} (f : α → Bool) (l : List α) (k j : Nat) (x : α) (hj : j < k) (hx : l[j]? = some x) (hf : f x = true) : (l.take k).any f = true := by
  rw [List.any_eq_true]
  exact ⟨x, List.mem_iff_getElem?.2 ⟨j, by rw [List.getElem?_take, if_pos hj]; exact hx⟩, hf⟩
theorem part_spans {i : ImgV} (h : ImgNum i) {m : Nat} {c : PartV} (hc : i.parts[m]? = some c) : SpanOk c.code ∧ SpanOk c.data ∧ SpanOk c.stack := by
  have hm := List.mem_of_getElem? hc
  refine ⟨h.spans _ ?_, h.spans _ ?_, h.spans _ ?_⟩ <;> (rw [spansI_eq, List.mem_append, List.mem_flatMap]; exact .inl ⟨c, hm, by simp [threeS]⟩)
end Go.Proofs.YtmcbeclkocjlkaaDoor

/- What is few is of no great size. -/
namespace Go.Proofs.YtmcbeclkocjlkaaDoor
set_option linter.unusedVariables false
set_option linter.unusedSimpArgs false
open Go Go.RowKit
theorem ImgFew.mid {i : ImgV} (h : ImgFew i) : ImgMid i := by
  refine ⟨?_, ?_, ?_, ?_, fun p hp => ?_, fun p hp => ?_⟩
  · have := h.parts; omega
  · have := h.shares; omega
  · have := h.inits; omega
  · have := h.bytes; omega
  · have := h.names p hp; omega
  · have := h.ents p hp; omega
end Go.Proofs.YtmcbeclkocjlkaaDoor
