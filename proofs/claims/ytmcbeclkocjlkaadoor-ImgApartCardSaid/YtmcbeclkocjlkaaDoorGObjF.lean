/- ObjGood, ObjFind, ObjGen: The reference's Good: is it a Name? -/
import Derived.Test.YtmcbeclkocjlkaaDoorGRows
import Derived.Test.YtmcbeclkocjlkaaDoorLexOne
import Derived.WalkKit
import Derived.ProofKit
/- The reference's Good: is it a Name? -/
namespace Go.Proofs.YtmcbeclkocjlkaaDoor
set_option linter.unusedVariables false
set_option linter.unusedSimpArgs false
open Go.RowKit
theorem list_hd (s : ByteArray) (h : 0 < s.size) : s.data.toList = s[0] :: s.data.toList.drop 1 := by
  have hl : 0 < s.data.toList.length := by simpa using h
  have e := List.drop_eq_getElem_cons hl
  rw [List.drop_zero] at e
  rw [e]
  rfl
theorem all_at {l : List UInt8} {k : Nat} (h : k < l.length) : (l.drop k).all goodC = (goodC (l[k]'h) && (l.drop (k + 1)).all goodC) := by
  rw [List.drop_eq_getElem_cons h, List.all_cons]
theorem goodB_none {s : ByteArray} (h : s.size = 0) : goodB s = false := by
  have : s.data.toList = [] := List.length_eq_zero_iff.1 (by simpa using h)
  unfold goodB; rw [this]; rfl
theorem goodB_some {s : ByteArray} (h : 0 < s.size) : goodB s = (!lxDigit (s[0]'h).toNat && decide (s.size ≤ 16) && s.data.toList.all goodC) := by
  have e := list_hd s h
  have hl : s.data.toList.length = s.size := by simp
  unfold goodB
  rw [e] at hl ⊢
  simp only [goodL]
  congr 2
  simp only [List.length_cons] at hl
  exact decide_eq_decide.2 (by omega)
end Go.Proofs.YtmcbeclkocjlkaaDoor

/- The reference's Find, Most. -/
namespace Go.Proofs.YtmcbeclkocjlkaaDoor
set_option linter.unusedVariables false
set_option linter.unusedSimpArgs false
open Go.RowKit
def objVal (o : ObjV) (vc vd vs vr : Value) : Value := .agg #[.string o.name, vc, vd, vs, vr]
def symVal (s : SymV) : Value := .agg #[.string s.name, .bool s.data, .int .u32 s.off, .bool s.exp]
def noSym : SymV := ⟨⟨#[]⟩, false, 0, false⟩
theorem ostr_beq (a b : ByteArray) : (a.toList == b.toList) = decide (a = b) := by
  rw [ByteArray.toList_eq, ByteArray.toList_eq]
  by_cases h : a = b
  · subst h; simp
  · rw [decide_eq_false h, beq_eq_false_iff_ne]
    exact fun e => h (ByteArray.ext (Array.ext' e))
theorem findS_at (n : ByteArray) (s : SymV) : ∀ (l : List SymV) (k : Nat), l[k]? = some s → s.name = n → (∀ (j : Nat) (x : SymV), j < k → l[j]? = some x → x.name ≠ n) → findS l n = some s
  | [], k, h, _, _ => by simp at h
  | x :: l, 0, h, hs, _ => by
    simp at h
    subst h
    simp [findS, hs]
  | x :: l, k + 1, h, hs, hn => by
    have h0 := hn 0 x (by omega) rfl
    unfold findS
    rw [if_neg h0]
    exact findS_at n s l k (by simpa using h) hs fun j y hj hy => hn (j + 1) y (by omega) (by simpa using hy)
theorem findS_no (n : ByteArray) : ∀ (l : List SymV), (∀ (j : Nat) (x : SymV), l[j]? = some x → x.name ≠ n) → findS l n = none
  | [], _ => rfl
  | x :: l, hn => by
    unfold findS
    rw [if_neg (hn 0 x rfl)]
    exact findS_no n l fun j y hy => hn (j + 1) y (by simpa using hy)
/-- What Find answers. -/
def FindR (l : List SymV) (n : ByteArray) (e : Ending) : Prop := match findS l n with
  | some s => e = .returned (.tuple #[symVal s, .bool true])
  | none => e = .returned (.tuple #[symVal noSym, .bool false])
/-- The symbols as a slice says them: none, or cells at a place. -/
theorem ObjAt.symsAt {w : World} {o : ObjV} {vc vd vs vr : Value} (h : ObjAt w o vc vd vs vr) : ∃ p cap, vs = .slice p o.syms.length cap ∧ o.syms.length ≤ cap ∧ (o.syms = [] ∨ ∃ b off, p = some ⟨b, off, none⟩ ∧ b < w.heap.size ∧ ∀ (i : Nat) (s : SymV), o.syms[i]? = some s →
    w.cell? ⟨b, off + i * 4, none⟩ = some (.string s.name) ∧ w.cell? ⟨b, off + i * 4 + 1, none⟩ = some (.bool s.data) ∧ w.cell? ⟨b, off + i * 4 + 2, none⟩ = some (.int .u32 s.off) ∧ w.cell? ⟨b, off + i * 4 + 3, none⟩ = some (.bool s.exp)) := by
  by_cases h0 : o.syms = []
  · obtain ⟨p, cap, h1, h2, _⟩ := h.syms
    exact ⟨p, cap, h1, h2, .inl h0⟩
  · obtain ⟨s, hs⟩ : ∃ s, o.syms[0]? = some s := by
      cases hl : o.syms with
      | nil => exact absurd hl h0
      | cons a l => exact ⟨a, rfl⟩
    obtain ⟨b, off, cap, h1, h2, h3, _⟩ := h.sym hs
    refine ⟨_, cap, h1, h2, .inr ⟨b, off, rfl, h3, fun i t ht => ?_⟩⟩
    obtain ⟨b', off', cap', h1', _, _, c⟩ := h.sym ht
    rw [h1] at h1'
    simp only [Value.slice.injEq, Option.some.injEq, Addr.mk.injEq, and_true, true_and] at h1'
    obtain ⟨⟨rfl, rfl⟩, _⟩ := h1'
    exact c
theorem ObjAt.relsAt {w : World} {o : ObjV} {vc vd vs vr : Value} (h : ObjAt w o vc vd vs vr) : ∃ p cap, vr = .slice p o.rels.length cap ∧ o.rels.length ≤ cap ∧ (o.rels = [] ∨ ∃ b off, p = some ⟨b, off, none⟩ ∧ b < w.heap.size ∧ ∀ (i : Nat) (r : RelV), o.rels[i]? = some r →
    w.cell? ⟨b, off + i * 5, none⟩ = some (.int .i64 r.kind) ∧ w.cell? ⟨b, off + i * 5 + 1, none⟩ = some (.int .u32 r.off) ∧ w.cell? ⟨b, off + i * 5 + 2, none⟩ = some (.string r.comp) ∧ w.cell? ⟨b, off + i * 5 + 3, none⟩ = some (.string r.name) ∧ w.cell? ⟨b, off + i * 5 + 4, none⟩ = some (.int .u16 r.perm)) := by
  by_cases h0 : o.rels = []
  · obtain ⟨p, cap, h1, h2, _⟩ := h.rels
    exact ⟨p, cap, h1, h2, .inl h0⟩
  · obtain ⟨s, hs⟩ : ∃ s, o.rels[0]? = some s := by
      cases hl : o.rels with
      | nil => exact absurd hl h0
      | cons a l => exact ⟨a, rfl⟩
    obtain ⟨b, off, cap, h1, h2, h3, _⟩ := h.rel hs
    refine ⟨_, cap, h1, h2, .inr ⟨b, off, rfl, h3, fun i t ht => ?_⟩⟩
    obtain ⟨b', off', cap', h1', _, _, c⟩ := h.rel ht
    rw [h1] at h1'
    simp only [Value.slice.injEq, Option.some.injEq, Addr.mk.injEq, and_true, true_and] at h1'
    obtain ⟨⟨rfl, rfl⟩, _⟩ := h1'
    exact c
end Go.Proofs.YtmcbeclkocjlkaaDoor

/- Rows that are owned, as cells; what a loop that fills a field keeps; a part of a row; a field of what is wrong. -/
namespace Go.Proofs.YtmcbeclkocjlkaaDoor
set_option linter.unusedVariables false
set_option linter.unusedSimpArgs false
open Go Go.RowKit
theorem oinfo_parts {e : TypeId} {z : Value} {n m : Nat} (h : (Tryd.prog.info? e).map (fun i => (i.zero, i.size, i.bytes)) = some (some z, n, m)) : ∃ i, Tryd.prog.info? e = some i ∧ i.zero = some z ∧ i.size = n ∧ i.bytes = m := by
  obtain ⟨i, hi, h2⟩ := Option.map_eq_some_iff.1 h
  simp only [Prod.mk.injEq] at h2
  exact ⟨i, hi, h2.1, h2.2.1, h2.2.2⟩
theorem take_flat {α : Type} (f : α → List Value) (l : List α) (k : Nat) (t : α) (h : l[k]? = some t) : (l.take (k + 1)).flatMap f = (l.take k).flatMap f ++ f t := by
  obtain ⟨hk, rfl⟩ := List.getElem?_eq_some_iff.1 h
  rw [List.take_succ_eq_append_getElem hk, List.flatMap_append]
  simp
/-- What is owned, as cells where a slice says; its block lies from the base on. -/
theorem owns_cells {w : World} {base : Nat} {e : TypeId} {size : Nat} {v : Value} {n : Nat} {xs : List Value} (h : w.ownsRow base e size v n xs) (hm : n ≤ maxLen) : ∃ p cap, v = .slice p n cap ∧ n ≤ cap ∧ cap ≤ maxLen ∧ (xs = [] ∨ ∃ b, p = some ⟨b, 0, none⟩ ∧ base ≤ b ∧ b < w.heap.size ∧ ∀ (i : Nat) (x : Value), xs[i]? = some x → w.cell? ⟨b, 0 + i, none⟩ = some x) := by
  obtain ⟨hl, ⟨rfl, rfl⟩ | ⟨g, cap, cur, rfl, hb, hg, hn, hc, hs, ht⟩⟩ := h
  · exact ⟨none, 0, rfl, Nat.le_refl _, Nat.zero_le _, .inl (List.length_eq_zero_iff.1 (by omega))⟩
  · have B : Box w g cur := ⟨e, hg⟩
    refine ⟨some ⟨g, 0, none⟩, cap, rfl, hn, hc, .inr ⟨g, rfl, hb, B.lt, fun i x hx => ?_⟩⟩
    have hi := (List.getElem?_eq_some_iff.1 hx).1
    rw [Nat.zero_add, B.cells, ← hx, ← ht, List.getElem?_take, if_pos (by omega)]
    simp
theorem ocell_but {S : Nat → Prop} {w w' : World} (k : KeepBut S w w') {b : Nat} (hb : b < w.heap.size) (hS : ¬ S b) {o : Nat} {v : Value} (h : w.cell? ⟨b, o, none⟩ = some v) : w'.cell? ⟨b, o, none⟩ = some v := by
  rw [← h]
  simp only [World.cell?, k.block b hb hS]
theorem keepBut_new {x : Nat} {w w1 w2 : World} (h : KeepBut (fun z => z = x) w w1) (k : KeepBut (fun z => w.heap.size ≤ z) w1 w2) : KeepBut (fun z => z = x) w w2 := by
  have a := h.mono (T := fun z => z = x ∨ w.heap.size ≤ z) (fun k _ hs => .inl hs)
  have b := k.mono (T := fun z => z = x ∨ w.heap.size ≤ z) (fun k _ hs => .inr hs)
  exact (a.trans b).mono (fun k hk hs => hs.resolve_right (by omega))
theorem SlAt.take {w : World} {p : Option Addr} {n cap : Nat} {xs : List Value} (h : SlAt w (.slice p n cap) n xs) {m : Nat} (hm : m ≤ n) : SlAt w (.slice p m cap) m (xs.take m) := by
  obtain ⟨p', cap', e, h1, h2, h3⟩ := h
  simp only [Value.slice.injEq, true_and] at e
  obtain ⟨rfl, rfl⟩ := e
  refine ⟨_, _, rfl, by omega, h2, ?_⟩
  rcases h3 with h3 | ⟨b, off, h3, h4, h5⟩
  · left; rw [h3]; simp
  · refine .inr ⟨b, off, h3, h4, fun i x hx => h5 i x ?_⟩
    rw [List.getElem?_take] at hx
    split at hx
    · exact hx
    · cases hx
theorem own_none (W : World) (base : Nat) (e : TypeId) (size : Nat) (g : Nat) (hg : W.heap.size = g) (hb : base ≤ W.heap.size) : (W.alloc (.cells #[] e)).ownsRow base e size (.slice (some ⟨g, 0, none⟩) 0 0) 0 [] := by
  subst hg
  exact ⟨by simp, .inr ⟨W.heap.size, 0, #[], rfl, hb, heap_alloc_new _ _, Nat.le_refl _, by decide, by simp, by simp⟩⟩
theorem infoU8 : (Tryd.prog.info? 5).map (fun i => (i.zero, i.size, i.bytes)) = some (some (.int .u8 0), 1, 1) := by kernel_rfl
theorem wfld2 (p : ByteArray) (a e : Int) (w : World) : (Instr.field 51 (.agg #[.string p, .int .i64 a, .int .i64 e]) 2).run Tryd.prog w = .ok (.int .i64 e) w := by kernel_rfl
theorem obox_at (w : World) (b : Nat) (vs : Array Value) (t : TypeId) (h : w.heap.size = b) : Box (w.alloc (.cells vs t)) b vs := by
  subst h; exact Box.new _ _ _
theorem box_cells {w : World} {g : Nat} {vs : Array Value} {xs : List Value} (B : Box w g vs) (e : vs.toList = xs) : CellsAt w (some ⟨g, 0, none⟩) xs :=
  .inr ⟨g, 0, rfl, B.lt, fun i x hx => by rw [Nat.zero_add, B.cells, ← Array.getElem?_toList, e]; exact hx⟩
end Go.Proofs.YtmcbeclkocjlkaaDoor
