/- App, RowAt, ObjAt: append at a loose operation of a region that draws; what is owned, behind what keeps it. -/
import Derived.Test.YtbmjnfnekmeegaaGreatDoorGBase
import Derived.Deep.AppendLies
import Derived.Test.YtbmjnfnekmeegaaGreatDoorGPlainO
/- append at a loose operation of a region that draws; what is owned, behind what keeps it. -/
namespace Go.Proofs.YtbmjnfnekmeegaaGreatDoor
set_option linter.unusedVariables false
set_option linter.unusedSimpArgs false
open Go Go.RowKit
theorem owns_keep {w w' : World} {base : Nat} {e : TypeId} {size : Nat} {v : Value} {n : Nat} {xs : List Value} (h : w.ownsRow base e size v n xs) (k : Keep w w') : w'.ownsRow base e size v n xs := by
  obtain ⟨h1, h2 | ⟨g, cap, cur, hv, hb, hg, h3⟩⟩ := h
  · exact ⟨h1, .inl h2⟩
  · exact ⟨h1, .inr ⟨g, cap, cur, hv, hb, by rw [Below.block k _ (Array.getElem?_eq_some_iff.1 hg).1]; exact hg, h3⟩⟩
theorem owns_but {w w' : World} {S : Nat → Prop} {base : Nat} {e : TypeId} {size : Nat} {v : Value} {n : Nat} {xs : List Value} (h : w.ownsRow base e size v n xs) (k : KeepBut S w w') (hS : ∀ g, v.ownBlock = some g → ¬ S g) : w'.ownsRow base e size v n xs := by
  obtain ⟨h1, h2 | ⟨g, cap, cur, hv, hb, hg, h3⟩⟩ := h
  · exact ⟨h1, .inl h2⟩
  · exact ⟨h1, .inr ⟨g, cap, cur, hv, hb, by rw [k.block _ (Array.getElem?_eq_some_iff.1 hg).1 (hS g (by rw [hv]; rfl))]; exact hg, h3⟩⟩
theorem owns_base {w : World} {base base' : Nat} {e : TypeId} {size : Nat} {v : Value} {n : Nat} {xs : List Value} (h : w.ownsRow base e size v n xs) (hb : base' ≤ base) : w.ownsRow base' e size v n xs := by
  obtain ⟨h1, h2 | ⟨g, cap, cur, hv, hb', h3⟩⟩ := h
  · exact ⟨h1, .inl h2⟩
  · exact ⟨h1, .inr ⟨g, cap, cur, hv, Nat.le_trans hb hb', h3⟩⟩
theorem grown_but {W W' : World} {row : Option Nat} (h : W.grownBy W' row) (S : Nat → Prop) (hS : ∀ g, row = some g → S g) : KeepBut S W W' :=
  ⟨h.os, h.tape, h.output, h.size, fun k hk hs => h.block k hk (fun e => hs (hS k e.symm))⟩
/-- The operation 'append' of a region, asked as a loose one. -/
theorem gives_append {P : Program} {M : Value → World → Prop} {o : Oper} {a : Act} (W : World) (s x : Operand) (t : TypeId) (ho : o.op = .call { callee := .builtin .append, args := #[s, x], argTypes := #[t, t] })
    (base : Nat) (e : TypeId) (i : TypeInfo) (z : Value) (size bytes : Nat) (ht : P.underlying t = some (.slice e)) (hi : P.info? e = some i) (hz : i.zero = some z)
    (hsize : i.size = size) (hby : i.bytes = bytes) (hzs : z.cells.size = size) (hsz : 0 < size)
    (v : Value) (n : Nat) (xs : List Value) (hs : a.eval s = v) (hown : W.ownsRow base e size v n xs)
    (ad : Addr) (m c : Nat) (news : List Value) (hx : a.eval x = .slice (some ad) m c) (hl : news.length = m * size) (hnews : ∀ j u, news[j]? = some u → W.cell? (ad.add j) = some u) (h1 : ∀ u ∈ news, u.oneCell' = true)
    (h63 : n + m ≤ maxLen) (hbytes : (n + m) * bytes ≤ 140737488355328) (hbase : base ≤ W.heap.size)
    (h : ∀ v' W', W'.ownsRow base e size v' (n + m) (xs ++ news) → W.grownBy W' v.ownBlock → M v' W') : Rel.Gives P M ((execOp a.eval o).run P W) := by
  obtain ⟨v', w', hr, h2, h3, h4⟩ := run_append_own (P := P) W base t o.type e i z size bytes ht hi hz hsize hby hzs hsz v n xs hown ad m c news hl hnews h1 h63 hbytes hbase
  unfold execOp
  simp only [ho, resolve, invoke, builtin, Sem.run_bind, Sem.run_pure, Result.andThen_ok, List.map_toArray, List.map_cons, List.map_nil, hs, hx, hr]
  exact h v' w' h2 h3
end Go.Proofs.YtbmjnfnekmeegaaGreatDoor

/- A row of cells at the beginning of its block, as a slice says it; what is owned lies so. -/
namespace Go.Proofs.YtbmjnfnekmeegaaGreatDoor
set_option linter.unusedVariables false
set_option linter.unusedSimpArgs false
open Go.RowKit
/-- A row of cells lies where a slice says. -/
def RowAt (w : World) (p : Option Addr) (xs : List Value) : Prop := xs = [] ∨ ∃ g vs, p = some ⟨g, 0, none⟩ ∧ Box w g vs ∧ ∀ i : Nat, i < xs.length → vs[i]? = xs[i]?
theorem RowAt.keep {w w' : World} {p : Option Addr} {xs : List Value} (h : RowAt w p xs) (k : Keep w w') : RowAt w' p xs := by
  rcases h with h | ⟨g, vs, h1, h2, h3⟩
  · exact .inl h
  · exact .inr ⟨g, vs, h1, h2.keep k, h3⟩
/-- What is owned lies where its slice says. -/
theorem own_at {w : World} {base : Nat} {e : TypeId} {size : Nat} {v : Value} {n : Nat} {xs : List Value} (h : w.ownsRow base e size v n xs) : ∃ p cap, v = .slice p n cap ∧ n ≤ cap ∧ RowAt w p xs := by
  obtain ⟨hl, ⟨rfl, rfl⟩ | ⟨g, cap, cur, rfl, hb, hg, hn, hc, hs, ht⟩⟩ := h
  · exact ⟨none, 0, rfl, Nat.le_refl _, .inl (List.length_eq_zero_iff.1 (by omega))⟩
  · refine ⟨some ⟨g, 0, none⟩, cap, rfl, hn, .inr ⟨g, cur, rfl, ⟨e, hg⟩, fun i hi => ?_⟩⟩
    rw [← ht, List.getElem?_take, if_pos (by omega)]
    simp
end Go.Proofs.YtbmjnfnekmeegaaGreatDoor

/- Objects as they lie: bytes, symbols, relocations wherever in their blocks. -/
namespace Go.Proofs.YtbmjnfnekmeegaaGreatDoor
set_option linter.unusedVariables false
set_option linter.unusedSimpArgs false
open Go.RowKit
/-- Cells lie where a slice says, wherever in their block. -/
def CellsAt (w : World) (p : Option Addr) (xs : List Value) : Prop := xs = [] ∨ ∃ b off, p = some ⟨b, off, none⟩ ∧ b < w.heap.size ∧ ∀ (i : Nat) (x : Value), xs[i]? = some x → w.cell? ⟨b, off + i, none⟩ = some x
theorem CellsAt.keep {w w' : World} {p : Option Addr} {xs : List Value} (h : CellsAt w p xs) (k : Keep w w') : CellsAt w' p xs := by
  rcases h with h | ⟨b, off, h1, h2, h3⟩
  · exact .inl h
  · exact .inr ⟨b, off, h1, Nat.lt_of_lt_of_le h2 k.size, fun i x hx => k.cellOf (h3 i x hx)⟩
theorem RowAt.cells {w : World} {p : Option Addr} {xs : List Value} (h : RowAt w p xs) : CellsAt w p xs := by
  rcases h with h | ⟨g, vs, h1, h2, h3⟩
  · exact .inl h
  · refine .inr ⟨g, 0, h1, h2.lt, fun i x hx => ?_⟩
    have hi := (List.getElem?_eq_some_iff.1 hx).1
    rw [Nat.zero_add, h2.cells, h3 i hi, hx]
/-- A slice of n things, whose cells are these. -/
def SlAt (w : World) (v : Value) (n : Nat) (xs : List Value) : Prop := ∃ p cap, v = .slice p n cap ∧ n ≤ cap ∧ cap ≤ maxLen ∧ CellsAt w p xs
theorem SlAt.keep {w w' : World} {v : Value} {n : Nat} {xs : List Value} (h : SlAt w v n xs) (k : Keep w w') : SlAt w' v n xs := by
  obtain ⟨p, cap, h1, h2, h3, h4⟩ := h
  exact ⟨p, cap, h1, h2, h3, h4.keep k⟩
def byteV (x : Nat) : Value := .int .u8 (x : Int)
def symRow (s : SymV) : List Value := [.string s.name, .bool s.data, .int .u32 s.off, .bool s.exp]
def relRow (r : RelV) : List Value := [.int .i64 r.kind, .int .u32 r.off, .string r.comp, .string r.name, .int .u16 r.perm]
def symRows (l : List SymV) : List Value := l.flatMap symRow
def relRows (l : List RelV) : List Value := l.flatMap relRow
theorem rows_length {α : Type} {f : α → List Value} {k : Nat} (hf : ∀ x, (f x).length = k) : ∀ (l : List α), (l.flatMap f).length = l.length * k
  | [] => by simp
  | x :: l => by rw [List.flatMap_cons, List.length_append, hf, rows_length hf l, List.length_cons, Nat.add_mul]; omega
theorem rows_row {α : Type} {f : α → List Value} {k : Nat} (hf : ∀ x, (f x).length = k) : ∀ (l : List α) (i j : Nat), j < k → ∀ t, l[i]? = some t → (l.flatMap f)[i * k + j]? = (f t)[j]?
  | [], i, j, _, t, h => by simp at h
  | x :: l, 0, j, hj, t, h => by
    simp only [List.getElem?_cons_zero, Option.some.injEq] at h
    subst h
    rw [List.flatMap_cons, List.getElem?_append_left (by rw [hf]; omega), Nat.zero_mul, Nat.zero_add]
  | x :: l, i + 1, j, hj, t, h => by
    simp only [List.getElem?_cons_succ] at h
    rw [List.flatMap_cons, List.getElem?_append_right (by rw [hf, Nat.add_mul]; omega), hf, ← rows_row hf l i j hj t h]
    congr 1
    rw [Nat.add_mul]; omega
theorem symRow_length (s : SymV) : (symRow s).length = 4 := rfl
theorem relRow_length (r : RelV) : (relRow r).length = 5 := rfl
/-- An object, as a value in a world. -/
structure ObjAt (w : World) (o : ObjV) (vc vd vs vr : Value) : Prop where
  code : SlAt w vc o.code.length (o.code.map byteV)
  data : SlAt w vd o.data.length (o.data.map byteV)
  syms : SlAt w vs o.syms.length (symRows o.syms)
  rels : SlAt w vr o.rels.length (relRows o.rels)
theorem ObjAt.keep {w w' : World} {o : ObjV} {vc vd vs vr : Value} (h : ObjAt w o vc vd vs vr) (k : Keep w w') : ObjAt w' o vc vd vs vr := ⟨h.code.keep k, h.data.keep k, h.syms.keep k, h.rels.keep k⟩
/-- What the numbers of an object are. -/
structure ObjNum (o : ObjV) : Prop where
  code : ∀ x ∈ o.code, x < 256
  data : ∀ x ∈ o.data, x < 256
  syms : ∀ s ∈ o.syms, SymOk s
  kinds : ∀ r ∈ o.rels, -9223372036854775808 ≤ r.kind ∧ r.kind ≤ 9223372036854775807
  rels : ∀ r ∈ o.rels, 0 ≤ r.off ∧ r.off < 4294967296 ∧ 0 ≤ r.perm ∧ r.perm < 65536
/-- hasplaw15's Few: is one short? -/
structure ObjFew (o : ObjV) : Prop where
  name : o.name.size ≤ 100
  code : o.code.length ≤ 500
  data : o.data.length ≤ 500
  syms : o.syms.length ≤ 40
  rels : o.rels.length ≤ 40
  symN : ∀ s ∈ o.syms, s.name.size ≤ 100
  relC : ∀ r ∈ o.rels, r.comp.size ≤ 100
  relN : ∀ r ∈ o.rels, r.name.size ≤ 100
/-- The cells of the symbol, of the relocation at a place. -/
theorem ObjAt.sym {w : World} {o : ObjV} {vc vd vs vr : Value} (h : ObjAt w o vc vd vs vr) {i : Nat} {s : SymV} (hs : o.syms[i]? = some s) : ∃ b off cap, vs = .slice (some ⟨b, off, none⟩) o.syms.length cap ∧ o.syms.length ≤ cap ∧ b < w.heap.size ∧
    w.cell? ⟨b, off + i * 4, none⟩ = some (.string s.name) ∧ w.cell? ⟨b, off + i * 4 + 1, none⟩ = some (.bool s.data) ∧ w.cell? ⟨b, off + i * 4 + 2, none⟩ = some (.int .u32 s.off) ∧ w.cell? ⟨b, off + i * 4 + 3, none⟩ = some (.bool s.exp) := by
  obtain ⟨p, cap, h1, h2, _, h3⟩ := h.syms
  have hr := fun j hj => rows_row (f := symRow) symRow_length o.syms i j hj s hs
  rcases h3 with h3 | ⟨b, off, h3, h4, h5⟩
  · have := hr 0 (by decide)
    unfold symRows at h3
    rw [h3] at this
    simp [symRow] at this
  · subst h3
    refine ⟨b, off, cap, h1, h2, h4, ?_, ?_, ?_, ?_⟩
    · exact h5 _ _ (hr 0 (by decide))
    · have := h5 _ _ (hr 1 (by decide)); rwa [← Nat.add_assoc] at this
    · have := h5 _ _ (hr 2 (by decide)); rwa [← Nat.add_assoc] at this
    · have := h5 _ _ (hr 3 (by decide)); rwa [← Nat.add_assoc] at this
theorem ObjAt.rel {w : World} {o : ObjV} {vc vd vs vr : Value} (h : ObjAt w o vc vd vs vr) {i : Nat} {r : RelV} (hr : o.rels[i]? = some r) : ∃ b off cap, vr = .slice (some ⟨b, off, none⟩) o.rels.length cap ∧ o.rels.length ≤ cap ∧ b < w.heap.size ∧
    w.cell? ⟨b, off + i * 5, none⟩ = some (.int .i64 r.kind) ∧ w.cell? ⟨b, off + i * 5 + 1, none⟩ = some (.int .u32 r.off) ∧ w.cell? ⟨b, off + i * 5 + 2, none⟩ = some (.string r.comp) ∧ w.cell? ⟨b, off + i * 5 + 3, none⟩ = some (.string r.name) ∧ w.cell? ⟨b, off + i * 5 + 4, none⟩ = some (.int .u16 r.perm) := by
  obtain ⟨p, cap, h1, h2, _, h3⟩ := h.rels
  have hrr := fun j hj => rows_row (f := relRow) relRow_length o.rels i j hj r hr
  rcases h3 with h3 | ⟨b, off, h3, h4, h5⟩
  · have := hrr 0 (by decide)
    unfold relRows at h3
    rw [h3] at this
    simp [relRow] at this
  · subst h3
    refine ⟨b, off, cap, h1, h2, h4, ?_, ?_, ?_, ?_, ?_⟩
    · exact h5 _ _ (hrr 0 (by decide))
    · have := h5 _ _ (hrr 1 (by decide)); rwa [← Nat.add_assoc] at this
    · have := h5 _ _ (hrr 2 (by decide)); rwa [← Nat.add_assoc] at this
    · have := h5 _ _ (hrr 3 (by decide)); rwa [← Nat.add_assoc] at this
    · have := h5 _ _ (hrr 4 (by decide)); rwa [← Nat.add_assoc] at this
end Go.Proofs.YtbmjnfnekmeegaaGreatDoor
