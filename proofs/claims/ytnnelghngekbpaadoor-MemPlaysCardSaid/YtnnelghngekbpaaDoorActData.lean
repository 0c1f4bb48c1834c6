/- A row of Acts as an argument: what lies there. -/
import Derived.Test.YtnnelghngekbpaaDoorBytesData
import Derived.Test.YtnnelghngekbpaaDoorCapData
import Derived.Deep.Slices
import Derived.Deep.Fields
namespace Go.Proofs.YtnnelghngekbpaaDoor
set_option linter.unusedVariables false
set_option linter.unusedSimpArgs false
open Go.ChangeShapes Go.WideShapes Go.ChangeAt Go.RowKit Go.Deep

/-- An Act: its numbers, what its bytes' slice is, what lies there, its capability. -/
structure ActR where
  op : Int
  at_ : Int
  n : Int
  bv : Value
  xs : List Int
  t : Bool
  b : Int
  p : Int
  a : Int
  m : Int
  y : Int
  deriving Inhabited
def ActR.cells (r : ActR) : List Value := [.int .i64 r.op, .int .i64 r.at_, .int .i64 r.n, r.bv, .bool r.t, .int .u32 r.b, .int .u32 r.p, .int .u32 r.a, .int .u16 r.m, .int .u16 r.y]
structure ActR.ok (r : ActR) (W : World) : Prop where
  op : In64 r.op
  at_ : In64 r.at_
  n : In64 r.n
  lies : Lies W r.bv r.xs (fun _ => False)
  isB : ∀ z ∈ r.xs, IsByte z
  len : r.xs.length ≤ maxLen
  b : 0 ≤ r.b ∧ r.b ≤ 4294967295
  p : 0 ≤ r.p ∧ r.p ≤ 4294967295
  a : 0 ≤ r.a ∧ r.a ≤ 4294967295
  m : 0 ≤ r.m ∧ r.m ≤ 65535
  y : 0 ≤ r.y ∧ r.y ≤ 65535
section
variable {H : Type} {enc : TypeId × Value → H} {W W' : World} {base : Nat}
theorem cellsAct : Tryd.prog.cellsOf 41 = 10 := by kernel_rfl
theorem cellsBs : Tryd.prog.cellsOf 35 = 1 := by kernel_rfl
theorem cellsInt : Tryd.prog.cellsOf 3 = 1 := by kernel_rfl
theorem in64_of {x : Int} (h : (Lit.int .i64 x).wf = true) : In64 x := bounds_i64 h
set_option maxRecDepth 100000 in
set_option maxHeartbeats 1000000 in
theorem act_cells {fuel : Nat} {cs : List Value} {x : DataW H × List MemPlace} (hf : DataW.trod enc Tryd.prog W base (fun _ => true) true fuel 41 cs = some x) :
    ∃ r : ActR, cs = r.cells ∧ r.ok W := by
  obtain ⟨xs, n, _, hx, hsz, hlen, hg⟩ := DataW.trod_struct Tryd.underlying41 hf
  rw [cellsAct] at hsz
  match cs, hsz, xs, hlen with
  | [c0, c1, c2, c3, c4, c5, c6, c7, c8, c9], _, [y0, y1, y2, y3, y4], _ =>
    have g0 : DataW.trod enc Tryd.prog W base (fun _ => true) true n 3 [c0] = some y0 := by
      have h : DataW.trod enc Tryd.prog W base (fun _ => true) true n 3 ((List.drop 0 [c0, c1, c2, c3, c4, c5, c6, c7, c8, c9]).take (Tryd.prog.cellsOf 3)) = some y0 := hg 0 _ rfl
      rw [cellsInt] at h
      exact h
    have g1 : DataW.trod enc Tryd.prog W base (fun _ => true) true n 3 [c1] = some y1 := by
      have h : DataW.trod enc Tryd.prog W base (fun _ => true) true n 3 ((List.drop 1 [c0, c1, c2, c3, c4, c5, c6, c7, c8, c9]).take (Tryd.prog.cellsOf 3)) = some y1 := hg 1 _ rfl
      rw [cellsInt] at h
      exact h
    have g2 : DataW.trod enc Tryd.prog W base (fun _ => true) true n 3 [c2] = some y2 := by
      have h : DataW.trod enc Tryd.prog W base (fun _ => true) true n 3 ((List.drop 2 [c0, c1, c2, c3, c4, c5, c6, c7, c8, c9]).take (Tryd.prog.cellsOf 3)) = some y2 := hg 2 _ rfl
      rw [cellsInt] at h
      exact h
    have g3 : DataW.trod enc Tryd.prog W base (fun _ => true) true n 35 [c3] = some y3 := by
      have h : DataW.trod enc Tryd.prog W base (fun _ => true) true n 35 ((List.drop 3 [c0, c1, c2, c3, c4, c5, c6, c7, c8, c9]).take (Tryd.prog.cellsOf 35)) = some y3 := hg 3 _ rfl
      rw [cellsBs] at h
      exact h
    have g4 : DataW.trod enc Tryd.prog W base (fun _ => true) true n 39 [c4, c5, c6, c7, c8, c9] = some y4 := by
      have h : DataW.trod enc Tryd.prog W base (fun _ => true) true n 39 ((List.drop 4 [c0, c1, c2, c3, c4, c5, c6, c7, c8, c9]).take (Tryd.prog.cellsOf 39)) = some y4 := hg 4 _ rfl
      rw [cellsCap] at h
      exact h
    obtain ⟨op, e0, _, w0⟩ := DataW.trod_int Tryd.underlying3 g0
    obtain ⟨at_, e1, _, w1⟩ := DataW.trod_int Tryd.underlying3 g1
    obtain ⟨nn, e2, _, w2⟩ := DataW.trod_int Tryd.underlying3 g2
    obtain ⟨bv, bs, e3, hl, hb, hm, _⟩ := bytes_cells g3
    obtain ⟨t, b, p, a, m, y, e4, u1, u2, u3, u4, u5⟩ := cap_cells g4
    simp only [List.cons.injEq, and_true] at e0 e1 e2 e3 e4
    obtain ⟨rfl, rfl, rfl, rfl, rfl, rfl⟩ := e4
    subst e0 e1 e2 e3
    exact ⟨⟨op, at_, nn, c3, bs, t, b, p, a, m, y⟩, rfl, ⟨in64_of w0, in64_of w1, in64_of w2, hl, hb, hm, bounds_u32 u1, bounds_u32 u2, bounds_u32 u3, bounds_u16 u4, bounds_u16 u5⟩⟩
/-- The row's k-th Act lies at its ten cells. -/
def ActAt (W : World) (ad : Option Addr) (k : Nat) (r : ActR) : Prop := ∃ b off, ad = some ⟨b, off, none⟩ ∧ b < W.heap.size ∧ ∀ j, j < 10 → W.cell? ⟨b, off + k * 10 + j, none⟩ = r.cells[j]?
set_option maxRecDepth 100000 in
/-- A row of Acts. -/
theorem open_acts {r : Reach} {b0 : Nat} {v : Value} {d : DataW H} {pl : List MemPlace} (hv : Value.okWide Tryd.prog W r b0 22 v) (h : DataW.Trod enc Tryd.prog W base (fun _ => true) true 22 v d pl) :
    ∃ (ad : Option Addr) (len cap : Nat) (R : Nat → ActR), v = .slice ad len cap ∧ len ≤ cap ∧ cap ≤ maxLen ∧ ∀ k, k < len → ActAt W ad k (R k) ∧ (R k).ok W := by
  obtain ⟨a0, len, cap, rfl⟩ := Go.WideShapes.okWide_slice Tryd.underlying22 hv
  obtain ⟨fuel, hf⟩ := h
  rcases open_slice Tryd.underlying22 hf with ⟨hcs, hx⟩ | ⟨a, len', cap', m, n, D, Pl, hcs, _, hl, hm, hmm, hx, hE⟩
  · simp only [Value.cells, List.cons.injEq, and_true, Value.slice.injEq] at hcs
    obtain ⟨rfl, rfl, rfl⟩ := hcs
    exact ⟨none, 0, 0, fun _ => default, rfl, by decide, by decide, fun k hk => by omega⟩
  · simp only [Value.cells, List.cons.injEq, and_true, Value.slice.injEq] at hcs
    obtain ⟨rfl, rfl, rfl⟩ := hcs
    simp only [if_true] at hmm
    have hR : ∀ k, k < len → ∃ r : ActR, ActAt W (some a) k r ∧ r.ok W := by
      intro k hk
      obtain ⟨cs', h1, h2⟩ := hE k (by omega)
      obtain ⟨r, rfl, hok⟩ := act_cells h2
      obtain ⟨_, _, h3⟩ := World.cells?_some h1
      rw [cellsAct] at h3
      obtain ⟨cs0, h10, _⟩ := hE 0 (by omega)
      obtain ⟨_, _, h30⟩ := World.cells?_some h10
      rw [cellsAct] at h30
      have hc0 := h30 0 (by decide)
      obtain ⟨b, off, spot⟩ := a
      have hlen0 : cs0.length = 10 := by have := (World.cells?_some h10).2.1; rw [cellsAct] at this; exact this
      have hc1 : W.cell? ⟨b, off, spot⟩ = some (cs0[0]'(by omega)) := by
        simp only [Nat.zero_mul, Addr.add_zero'] at hc0
        rw [hc0, List.getElem?_eq_getElem]
      have hspot : spot = none := World.cell?_spot hc1
      subst hspot
      refine ⟨r, ⟨b, off, rfl, World.block_lt_of_cell? _ _ hc1, fun j hj => ?_⟩, hok⟩
      have h4 := h3 j hj
      rw [Addr.add_lit, Addr.add_lit] at h4
      exact h4
    obtain ⟨R, hR⟩ := choose_lt hR
    exact ⟨some a, len, cap, R, rfl, hl, hm, hR⟩
end
end Go.Proofs.YtnnelghngekbpaaDoor
