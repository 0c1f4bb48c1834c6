/- Images as they lie: parts, entries, shares, inits, bytes wherever in their blocks. -/
import Derived.Test.YtbmjnfnekmeegaaGreatDoorGPlainI
import Derived.Test.YtbmjnfnekmeegaaGreatDoorGRows
namespace Go.Proofs.YtbmjnfnekmeegaaGreatDoor
set_option linter.unusedVariables false
set_option linter.unusedSimpArgs false
open Go.RowKit
def u32V (x : Int) : Value := .int .u32 x
def spanRow (s : SpanV) : List Value := [.int .u32 s.at_, .int .u32 s.size]
def spanVal (s : SpanV) : Value := .agg #[.int .u32 s.at_, .int .u32 s.size]
def partRow (p : PartV × Value) : List Value := [.string p.1.name, .int .u32 p.1.code.at_, .int .u32 p.1.code.size, .int .u32 p.1.data.at_, .int .u32 p.1.data.size, .int .u32 p.1.stack.at_, .int .u32 p.1.stack.size, p.2]
def initRow (x : InitV) : List Value := [.int .i64 x.comp, .int .u32 x.at_, .int .i64 x.kind, .bool x.data, .int .i64 x.src, .int .u32 x.addr, .int .u16 x.perm]
def spanRows (l : List SpanV) : List Value := l.flatMap spanRow
def partRows (l : List PartV) (ves : List Value) : List Value := (l.zip ves).flatMap partRow
def initRows (l : List InitV) : List Value := l.flatMap initRow
/-- An image, as a value in a world; ves: its parts' entries. -/
structure ImgAt (w : World) (i : ImgV) (vp vs vi vb : Value) (ves : List Value) : Prop where
  parts : SlAt w vp i.parts.length (partRows i.parts ves)
  nves : ves.length = i.parts.length
  ents : ∀ (k : Nat) (p : PartV) (v : Value), i.parts[k]? = some p → ves[k]? = some v → SlAt w v p.entries.length (p.entries.map u32V)
  shares : SlAt w vs i.shares.length (spanRows i.shares)
  inits : SlAt w vi i.inits.length (initRows i.inits)
  bytes : SlAt w vb i.bytes.length (i.bytes.map byteV)
theorem ImgAt.keep {w w' : World} {i : ImgV} {vp vs vi vb : Value} {ves : List Value} (h : ImgAt w i vp vs vi vb ves) (k : Keep w w') : ImgAt w' i vp vs vi vb ves :=
  ⟨h.parts.keep k, h.nves, fun j p v a b => (h.ents j p v a b).keep k, h.shares.keep k, h.inits.keep k, h.bytes.keep k⟩
def imgVal (i : ImgV) (vp vs vi vb : Value) : Value := .agg #[.int .u32 i.size, vp, vs, vi, .int .i64 i.start, .int .u32 i.addr, vb]
/-- Rows of one width as a slice says them: none, or cells at a place. -/
theorem SlAt.rowsAt {α : Type} {w : World} {v : Value} {l : List α} {f : α → List Value} {m : Nat} (hf : ∀ x, (f x).length = m) (h : SlAt w v l.length (l.flatMap f)) : ∃ p cap, v = .slice p l.length cap ∧ l.length ≤ cap ∧ cap ≤ maxLen ∧ (l = [] ∨ m = 0 ∨ ∃ b off, p = some ⟨b, off, none⟩ ∧ b < w.heap.size ∧
    ∀ (i : Nat) (x : α), l[i]? = some x → ∀ (j : Nat) (u : Value), j < m → (f x)[j]? = some u → w.cell? ⟨b, off + i * m + j, none⟩ = some u) := by
  obtain ⟨p, cap, h1, h2, h3, h4⟩ := h
  refine ⟨p, cap, h1, h2, h3, ?_⟩
  rcases h4 with h4 | ⟨b, off, h4, h5, h6⟩
  · cases l with
    | nil => exact .inl rfl
    | cons a l =>
      right; left
      rw [List.flatMap_cons] at h4
      have := congrArg List.length h4
      rw [List.length_append, hf] at this
      simp only [List.length_nil] at this
      omega
  · refine .inr (.inr ⟨b, off, h4, h5, fun i x hx j u hj hu => ?_⟩)
    have := rows_row hf l i j hj x hx
    rw [hu] at this
    have := h6 _ _ this
    rwa [← Nat.add_assoc] at this
/-- What lies of the part at a place. -/
theorem ImgAt.partsAt {w : World} {i : ImgV} {vp vs vi vb : Value} {ves : List Value} (h : ImgAt w i vp vs vi vb ves) : ∃ p cap, vp = .slice p i.parts.length cap ∧ i.parts.length ≤ cap ∧ cap ≤ maxLen ∧ (i.parts = [] ∨ ∃ b off, p = some ⟨b, off, none⟩ ∧ b < w.heap.size ∧ ∀ (k : Nat) (x : PartV) (v : Value), i.parts[k]? = some x → ves[k]? = some v →
    w.cell? ⟨b, off + k * 8, none⟩ = some (.string x.name) ∧ w.cell? ⟨b, off + k * 8 + 1, none⟩ = some (.int .u32 x.code.at_) ∧ w.cell? ⟨b, off + k * 8 + 2, none⟩ = some (.int .u32 x.code.size) ∧ w.cell? ⟨b, off + k * 8 + 3, none⟩ = some (.int .u32 x.data.at_) ∧ w.cell? ⟨b, off + k * 8 + 4, none⟩ = some (.int .u32 x.data.size) ∧
    w.cell? ⟨b, off + k * 8 + 5, none⟩ = some (.int .u32 x.stack.at_) ∧ w.cell? ⟨b, off + k * 8 + 6, none⟩ = some (.int .u32 x.stack.size) ∧ w.cell? ⟨b, off + k * 8 + 7, none⟩ = some v) := by
  have hl : (i.parts.zip ves).length = i.parts.length := by rw [List.length_zip, h.nves]; omega
  have hp := h.parts
  unfold partRows at hp
  rw [← hl] at hp
  obtain ⟨p, cap, h1, h2, h3, h4⟩ := hp.rowsAt (m := 8) (fun _ => rfl)
  rw [hl] at h1 h2
  refine ⟨p, cap, h1, h2, h3, ?_⟩
  rcases h4 with h4 | h4 | ⟨b, off, h4, h5, h6⟩
  · left
    have := congrArg List.length h4
    rw [hl] at this
    exact List.length_eq_zero_iff.1 (by simpa using this)
  · cases h4
  · refine .inr ⟨b, off, h4, h5, fun k x v hx hv => ?_⟩
    have hz : (i.parts.zip ves)[k]? = some (x, v) := List.getElem?_zip_eq_some.2 ⟨hx, hv⟩
    have g := h6 k (x, v) hz
    exact ⟨g 0 _ (by decide) rfl, g 1 _ (by decide) rfl, g 2 _ (by decide) rfl, g 3 _ (by decide) rfl, g 4 _ (by decide) rfl, g 5 _ (by decide) rfl, g 6 _ (by decide) rfl, g 7 _ (by decide) rfl⟩
theorem ImgAt.sharesAt {w : World} {i : ImgV} {vp vs vi vb : Value} {ves : List Value} (h : ImgAt w i vp vs vi vb ves) : ∃ p cap, vs = .slice p i.shares.length cap ∧ i.shares.length ≤ cap ∧ cap ≤ maxLen ∧ (i.shares = [] ∨ ∃ b off, p = some ⟨b, off, none⟩ ∧ b < w.heap.size ∧ ∀ (k : Nat) (x : SpanV), i.shares[k]? = some x →
    w.cell? ⟨b, off + k * 2, none⟩ = some (.int .u32 x.at_) ∧ w.cell? ⟨b, off + k * 2 + 1, none⟩ = some (.int .u32 x.size)) := by
  obtain ⟨p, cap, h1, h2, h3, h4⟩ := h.shares.rowsAt (m := 2) (fun _ => rfl)
  refine ⟨p, cap, h1, h2, h3, ?_⟩
  rcases h4 with h4 | h4 | ⟨b, off, h4, h5, h6⟩
  · exact .inl h4
  · cases h4
  · exact .inr ⟨b, off, h4, h5, fun k x hx => ⟨h6 k x hx 0 _ (by decide) rfl, h6 k x hx 1 _ (by decide) rfl⟩⟩
theorem ImgAt.initsAt {w : World} {i : ImgV} {vp vs vi vb : Value} {ves : List Value} (h : ImgAt w i vp vs vi vb ves) : ∃ p cap, vi = .slice p i.inits.length cap ∧ i.inits.length ≤ cap ∧ cap ≤ maxLen ∧ (i.inits = [] ∨ ∃ b off, p = some ⟨b, off, none⟩ ∧ b < w.heap.size ∧ ∀ (k : Nat) (x : InitV), i.inits[k]? = some x →
    w.cell? ⟨b, off + k * 7, none⟩ = some (.int .i64 x.comp) ∧ w.cell? ⟨b, off + k * 7 + 1, none⟩ = some (.int .u32 x.at_) ∧ w.cell? ⟨b, off + k * 7 + 2, none⟩ = some (.int .i64 x.kind) ∧ w.cell? ⟨b, off + k * 7 + 3, none⟩ = some (.bool x.data) ∧ w.cell? ⟨b, off + k * 7 + 4, none⟩ = some (.int .i64 x.src) ∧
    w.cell? ⟨b, off + k * 7 + 5, none⟩ = some (.int .u32 x.addr) ∧ w.cell? ⟨b, off + k * 7 + 6, none⟩ = some (.int .u16 x.perm)) := by
  obtain ⟨p, cap, h1, h2, h3, h4⟩ := h.inits.rowsAt (m := 7) (fun _ => rfl)
  refine ⟨p, cap, h1, h2, h3, ?_⟩
  rcases h4 with h4 | h4 | ⟨b, off, h4, h5, h6⟩
  · exact .inl h4
  · cases h4
  · exact .inr ⟨b, off, h4, h5, fun k x hx => ⟨h6 k x hx 0 _ (by decide) rfl, h6 k x hx 1 _ (by decide) rfl, h6 k x hx 2 _ (by decide) rfl, h6 k x hx 3 _ (by decide) rfl, h6 k x hx 4 _ (by decide) rfl, h6 k x hx 5 _ (by decide) rfl, h6 k x hx 6 _ (by decide) rfl⟩⟩
/-- Numbers in a row. -/
def NumsAt (w : World) (v : Value) (l : List Int) : Prop := SlAt w v l.length (l.map u32V)
theorem NumsAt.at {w : World} {v : Value} {l : List Int} (h : NumsAt w v l) : ∃ p cap, v = .slice p l.length cap ∧ l.length ≤ cap ∧ cap ≤ maxLen ∧ (l = [] ∨ ∃ b off, p = some ⟨b, off, none⟩ ∧ b < w.heap.size ∧ ∀ (k : Nat) (x : Int), l[k]? = some x → w.cell? ⟨b, off + k, none⟩ = some (.int .u32 x)) := by
  obtain ⟨p, cap, h1, h2, h3, h4⟩ := h
  refine ⟨p, cap, h1, h2, h3, ?_⟩
  rcases h4 with h4 | ⟨b, off, h4, h5, h6⟩
  · exact .inl (List.map_eq_nil_iff.1 h4)
  · exact .inr ⟨b, off, h4, h5, fun k x hx => h6 k _ (by rw [List.getElem?_map, hx]; rfl)⟩
end Go.Proofs.YtbmjnfnekmeegaaGreatDoor
