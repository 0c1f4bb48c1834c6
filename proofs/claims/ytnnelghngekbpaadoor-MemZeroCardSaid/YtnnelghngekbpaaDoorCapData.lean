/- A capability as an argument by value: what it reads as, and back. -/
import Derived.Test.YtnnelghngekbpaaDoorChecked
import Derived.Test.YtnnelghngekbpaaDoorCapDef
import Derived.ProofKit
import Derived.OpenShut
import Derived.Deep.Fields
namespace Go.Proofs.YtnnelghngekbpaaDoor
set_option linter.unusedVariables false
set_option linter.unusedSimpArgs false
open Go.ChangeShapes Go.WideShapes Go.ChangeAt Go.RowKit Go.Deep

section
variable {H : Type} {enc : TypeId × Value → H} {w : World} {base : Nat} {spare : Nat → Bool} {held : Bool}
theorem cellsCap : Tryd.prog.cellsOf 39 = 6 := by kernel_rfl
theorem cellsB : Tryd.prog.cellsOf 4 = 1 := by kernel_rfl
theorem cells32 : Tryd.prog.cellsOf 36 = 1 := by kernel_rfl
theorem cells16 : Tryd.prog.cellsOf 37 = 1 := by kernel_rfl
set_option maxRecDepth 100000 in
theorem cap_cells {fuel : Nat} {cs : List Value} {x : DataW H × List MemPlace} (hf : DataW.trod enc Tryd.prog w base spare held fuel 39 cs = some x) :
    ∃ (t : Bool) (b p a m y : Int), cs = [.bool t, .int .u32 b, .int .u32 p, .int .u32 a, .int .u16 m, .int .u16 y] ∧
      (Lit.int .u32 b).wf = true ∧ (Lit.int .u32 p).wf = true ∧ (Lit.int .u32 a).wf = true ∧ (Lit.int .u16 m).wf = true ∧ (Lit.int .u16 y).wf = true := by
  obtain ⟨xs, n, _, hx, hsz, hlen, hg⟩ := DataW.trod_struct Tryd.underlying39 hf
  rw [cellsCap] at hsz
  match cs, hsz, xs, hlen with
  | [c0, c1, c2, c3, c4, c5], _, [y0, y1, y2, y3, y4, y5], _ =>
    have g0 : DataW.trod enc Tryd.prog w base spare held n 4 [c0] = some y0 := by
      have h : DataW.trod enc Tryd.prog w base spare held n 4 ((List.drop 0 [c0, c1, c2, c3, c4, c5]).take (Tryd.prog.cellsOf 4)) = some y0 := hg 0 _ rfl
      rw [cellsB] at h
      exact h
    have g1 : DataW.trod enc Tryd.prog w base spare held n 36 [c1] = some y1 := by
      have h : DataW.trod enc Tryd.prog w base spare held n 36 ((List.drop 1 [c0, c1, c2, c3, c4, c5]).take (Tryd.prog.cellsOf 36)) = some y1 := hg 1 _ rfl
      rw [cells32] at h
      exact h
    have g2 : DataW.trod enc Tryd.prog w base spare held n 36 [c2] = some y2 := by
      have h : DataW.trod enc Tryd.prog w base spare held n 36 ((List.drop 2 [c0, c1, c2, c3, c4, c5]).take (Tryd.prog.cellsOf 36)) = some y2 := hg 2 _ rfl
      rw [cells32] at h
      exact h
    have g3 : DataW.trod enc Tryd.prog w base spare held n 36 [c3] = some y3 := by
      have h : DataW.trod enc Tryd.prog w base spare held n 36 ((List.drop 3 [c0, c1, c2, c3, c4, c5]).take (Tryd.prog.cellsOf 36)) = some y3 := hg 3 _ rfl
      rw [cells32] at h
      exact h
    have g4 : DataW.trod enc Tryd.prog w base spare held n 37 [c4] = some y4 := by
      have h : DataW.trod enc Tryd.prog w base spare held n 37 ((List.drop 4 [c0, c1, c2, c3, c4, c5]).take (Tryd.prog.cellsOf 37)) = some y4 := hg 4 _ rfl
      rw [cells16] at h
      exact h
    have g5 : DataW.trod enc Tryd.prog w base spare held n 37 [c5] = some y5 := by
      have h : DataW.trod enc Tryd.prog w base spare held n 37 ((List.drop 5 [c0, c1, c2, c3, c4, c5]).take (Tryd.prog.cellsOf 37)) = some y5 := hg 5 _ rfl
      rw [cells16] at h
      exact h
    obtain ⟨t, e0, rfl⟩ := DataW.trod_bool Tryd.underlying4 g0
    obtain ⟨b, e1, rfl, w1⟩ := DataW.trod_int Tryd.underlying36 g1
    obtain ⟨p, e2, rfl, w2⟩ := DataW.trod_int Tryd.underlying36 g2
    obtain ⟨a, e3, rfl, w3⟩ := DataW.trod_int Tryd.underlying36 g3
    obtain ⟨m, e4, rfl, w4⟩ := DataW.trod_int Tryd.underlying37 g4
    obtain ⟨y, e5, rfl, w5⟩ := DataW.trod_int Tryd.underlying37 g5
    simp only [List.cons.injEq, and_true] at e0 e1 e2 e3 e4 e5
    subst e0 e1 e2 e3 e4 e5
    exact ⟨t, b, p, a, m, y, rfl, w1, w2, w3, w4, w5⟩
set_option maxRecDepth 100000 in
theorem open_cap {r : Reach} {b0 : Nat} {v : Value} {d : DataW H} {pl : List MemPlace} (hv : Value.okWide Tryd.prog w r b0 39 v) (h : DataW.Trod enc Tryd.prog w base spare held 39 v d pl) :
    ∃ (t : Bool) (b p a m y : Int), v = .agg #[.bool t, .int .u32 b, .int .u32 p, .int .u32 a, .int .u16 m, .int .u16 y] ∧
      d = .agg [.lit (.bool t), .lit (.int .u32 b), .lit (.int .u32 p), .lit (.int .u32 a), .lit (.int .u16 m), .lit (.int .u16 y)] ∧ pl = [] ∧
      (Lit.int .u32 b).wf = true ∧ (Lit.int .u32 p).wf = true ∧ (Lit.int .u32 a).wf = true ∧ (Lit.int .u16 m).wf = true ∧ (Lit.int .u16 y).wf = true := by
  obtain ⟨cs, rfl, hsz⟩ := okWide_struct Tryd.underlying39 hv
  obtain ⟨fuel, hf⟩ := h
  obtain ⟨xs, n, _, hx, _, hlen, hg⟩ := DataW.trod_struct Tryd.underlying39 hf
  rw [cellsCap] at hsz
  obtain ⟨l⟩ := cs
  match l, hsz, xs, hlen with
  | [c0, c1, c2, c3, c4, c5], _, [y0, y1, y2, y3, y4, y5], _ =>
    have g0 : DataW.trod enc Tryd.prog w base spare held n 4 [c0] = some y0 := by
      have h : DataW.trod enc Tryd.prog w base spare held n 4 ((List.drop 0 [c0, c1, c2, c3, c4, c5]).take (Tryd.prog.cellsOf 4)) = some y0 := hg 0 _ rfl
      rw [cellsB] at h
      exact h
    have g1 : DataW.trod enc Tryd.prog w base spare held n 36 [c1] = some y1 := by
      have h : DataW.trod enc Tryd.prog w base spare held n 36 ((List.drop 1 [c0, c1, c2, c3, c4, c5]).take (Tryd.prog.cellsOf 36)) = some y1 := hg 1 _ rfl
      rw [cells32] at h
      exact h
    have g2 : DataW.trod enc Tryd.prog w base spare held n 36 [c2] = some y2 := by
      have h : DataW.trod enc Tryd.prog w base spare held n 36 ((List.drop 2 [c0, c1, c2, c3, c4, c5]).take (Tryd.prog.cellsOf 36)) = some y2 := hg 2 _ rfl
      rw [cells32] at h
      exact h
    have g3 : DataW.trod enc Tryd.prog w base spare held n 36 [c3] = some y3 := by
      have h : DataW.trod enc Tryd.prog w base spare held n 36 ((List.drop 3 [c0, c1, c2, c3, c4, c5]).take (Tryd.prog.cellsOf 36)) = some y3 := hg 3 _ rfl
      rw [cells32] at h
      exact h
    have g4 : DataW.trod enc Tryd.prog w base spare held n 37 [c4] = some y4 := by
      have h : DataW.trod enc Tryd.prog w base spare held n 37 ((List.drop 4 [c0, c1, c2, c3, c4, c5]).take (Tryd.prog.cellsOf 37)) = some y4 := hg 4 _ rfl
      rw [cells16] at h
      exact h
    have g5 : DataW.trod enc Tryd.prog w base spare held n 37 [c5] = some y5 := by
      have h : DataW.trod enc Tryd.prog w base spare held n 37 ((List.drop 5 [c0, c1, c2, c3, c4, c5]).take (Tryd.prog.cellsOf 37)) = some y5 := hg 5 _ rfl
      rw [cells16] at h
      exact h
    obtain ⟨t, e0, rfl⟩ := DataW.trod_bool Tryd.underlying4 g0
    obtain ⟨b, e1, rfl, w1⟩ := DataW.trod_int Tryd.underlying36 g1
    obtain ⟨p, e2, rfl, w2⟩ := DataW.trod_int Tryd.underlying36 g2
    obtain ⟨a, e3, rfl, w3⟩ := DataW.trod_int Tryd.underlying36 g3
    obtain ⟨m, e4, rfl, w4⟩ := DataW.trod_int Tryd.underlying37 g4
    obtain ⟨y, e5, rfl, w5⟩ := DataW.trod_int Tryd.underlying37 g5
    simp only [List.cons.injEq, and_true] at e0 e1 e2 e3 e4 e5
    subst e0 e1 e2 e3 e4 e5
    simp only [Prod.mk.injEq, List.map_cons, List.map_nil, List.flatMap_cons, List.flatMap_nil, List.append_nil] at hx
    exact ⟨t, b, p, a, m, y, rfl, hx.1, hx.2, w1, w2, w3, w4, w5⟩
set_option maxRecDepth 100000 in
theorem shut_cap (t : Bool) {b p a m y : Int} (w1 : (Lit.int .u32 b).wf = true) (w2 : (Lit.int .u32 p).wf = true) (w3 : (Lit.int .u32 a).wf = true) (w4 : (Lit.int .u16 m).wf = true) (w5 : (Lit.int .u16 y).wf = true) :
    DataW.Trod enc Tryd.prog w base spare held 39 (.agg #[.bool t, .int .u32 b, .int .u32 p, .int .u32 a, .int .u16 m, .int .u16 y])
      (.agg [.lit (.bool t), .lit (.int .u32 b), .lit (.int .u32 p), .lit (.int .u32 a), .lit (.int .u16 m), .lit (.int .u16 y)]) [] := by
  refine ⟨2, ?_⟩
  simp [DataW.trod, Tryd.underlying39, cellsCap, cellsB, cells32, cells16, Tryd.underlying4, Tryd.underlying36, Tryd.underlying37, Value.cells, w1, w2, w3, w4, w5]
end
end Go.Proofs.YtnnelghngekbpaaDoor
