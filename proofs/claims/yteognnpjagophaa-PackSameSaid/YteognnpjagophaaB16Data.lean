/- Sixteen bytes as an argument by value: what they read as, and back. -/
import Derived.Test.YteognnpjagophaaChecked
import Derived.ProofKit
import Derived.OpenShut
namespace Go.Proofs.Yteognnpjagophaa
set_option linter.unusedVariables false
set_option linter.unusedSimpArgs false
open Go.ChangeShapes Go.WideShapes Go.ChangeAt Go.RowKit

section
variable {H : Type} {enc : TypeId × Value → H} {w : World} {base : Nat} {spare : Nat → Bool} {held : Bool}
theorem cellsB16 : Try.prog.cellsOf 27 = 16 := by kernel_rfl
theorem cells8 : Try.prog.cellsOf 5 = 1 := by kernel_rfl
set_option maxHeartbeats 1000000 in
theorem open_b16 {r : Reach} {b0 : Nat} {v : Value} {d : DataW H} {pl : List MemPlace} (hv : Value.okWide Try.prog w r b0 27 v) (h : DataW.Trod enc Try.prog w base spare held 27 v d pl) :
    ∃ (z0 z1 z2 z3 z4 z5 z6 z7 z8 z9 z10 z11 z12 z13 z14 z15 : Int), v = .agg #[.int .u8 z0, .int .u8 z1, .int .u8 z2, .int .u8 z3, .int .u8 z4, .int .u8 z5, .int .u8 z6, .int .u8 z7, .int .u8 z8, .int .u8 z9, .int .u8 z10, .int .u8 z11, .int .u8 z12, .int .u8 z13, .int .u8 z14, .int .u8 z15] ∧ d = .agg [.lit (.int .u8 z0), .lit (.int .u8 z1), .lit (.int .u8 z2), .lit (.int .u8 z3), .lit (.int .u8 z4), .lit (.int .u8 z5), .lit (.int .u8 z6), .lit (.int .u8 z7), .lit (.int .u8 z8), .lit (.int .u8 z9), .lit (.int .u8 z10), .lit (.int .u8 z11), .lit (.int .u8 z12), .lit (.int .u8 z13), .lit (.int .u8 z14), .lit (.int .u8 z15)] ∧ pl = [] ∧ (Lit.int .u8 z0).wf = true ∧ (Lit.int .u8 z1).wf = true ∧ (Lit.int .u8 z2).wf = true ∧ (Lit.int .u8 z3).wf = true ∧ (Lit.int .u8 z4).wf = true ∧ (Lit.int .u8 z5).wf = true ∧ (Lit.int .u8 z6).wf = true ∧ (Lit.int .u8 z7).wf = true ∧ (Lit.int .u8 z8).wf = true ∧ (Lit.int .u8 z9).wf = true ∧ (Lit.int .u8 z10).wf = true ∧ (Lit.int .u8 z11).wf = true ∧ (Lit.int .u8 z12).wf = true ∧ (Lit.int .u8 z13).wf = true ∧ (Lit.int .u8 z14).wf = true ∧ (Lit.int .u8 z15).wf = true := by
  simp only [Value.okWide, Try.underlying27] at hv
  obtain ⟨cs, rfl, hsz, _⟩ := hv
  obtain ⟨fuel, hf⟩ := h
  obtain ⟨xs, n, _, hx, _, hlen, hg⟩ := DataW.trod_array Try.underlying27 hf
  rw [cellsB16] at hsz
  obtain ⟨l⟩ := cs
  match l, hsz, xs, hlen with
  | [c0, c1, c2, c3, c4, c5, c6, c7, c8, c9, c10, c11, c12, c13, c14, c15], _, [y0, y1, y2, y3, y4, y5, y6, y7, y8, y9, y10, y11, y12, y13, y14, y15], _ =>
    have g0 : DataW.trod enc Try.prog w base spare held n 5 [c0] = some y0 := by
      have h := hg 0 (by decide)
      rw [cells8] at h
      exact h
    obtain ⟨z0, e0, rfl, w0⟩ := DataW.trod_int Try.underlying5 g0
    simp only [List.cons.injEq, and_true] at e0
    subst e0
    have g1 : DataW.trod enc Try.prog w base spare held n 5 [c1] = some y1 := by
      have h := hg 1 (by decide)
      rw [cells8] at h
      exact h
    obtain ⟨z1, e1, rfl, w1⟩ := DataW.trod_int Try.underlying5 g1
    simp only [List.cons.injEq, and_true] at e1
    subst e1
    have g2 : DataW.trod enc Try.prog w base spare held n 5 [c2] = some y2 := by
      have h := hg 2 (by decide)
      rw [cells8] at h
      exact h
    obtain ⟨z2, e2, rfl, w2⟩ := DataW.trod_int Try.underlying5 g2
    simp only [List.cons.injEq, and_true] at e2
    subst e2
    have g3 : DataW.trod enc Try.prog w base spare held n 5 [c3] = some y3 := by
      have h := hg 3 (by decide)
      rw [cells8] at h
      exact h
    obtain ⟨z3, e3, rfl, w3⟩ := DataW.trod_int Try.underlying5 g3
    simp only [List.cons.injEq, and_true] at e3
    subst e3
    have g4 : DataW.trod enc Try.prog w base spare held n 5 [c4] = some y4 := by
      have h := hg 4 (by decide)
      rw [cells8] at h
      exact h
    obtain ⟨z4, e4, rfl, w4⟩ := DataW.trod_int Try.underlying5 g4
    simp only [List.cons.injEq, and_true] at e4
    subst e4
    have g5 : DataW.trod enc Try.prog w base spare held n 5 [c5] = some y5 := by
      have h := hg 5 (by decide)
      rw [cells8] at h
      exact h
    obtain ⟨z5, e5, rfl, w5⟩ := DataW.trod_int Try.underlying5 g5
    simp only [List.cons.injEq, and_true] at e5
    subst e5
    have g6 : DataW.trod enc Try.prog w base spare held n 5 [c6] = some y6 := by
      have h := hg 6 (by decide)
      rw [cells8] at h
      exact h
    obtain ⟨z6, e6, rfl, w6⟩ := DataW.trod_int Try.underlying5 g6
    simp only [List.cons.injEq, and_true] at e6
    subst e6
    have g7 : DataW.trod enc Try.prog w base spare held n 5 [c7] = some y7 := by
      have h := hg 7 (by decide)
      rw [cells8] at h
      exact h
    obtain ⟨z7, e7, rfl, w7⟩ := DataW.trod_int Try.underlying5 g7
    simp only [List.cons.injEq, and_true] at e7
    subst e7
    have g8 : DataW.trod enc Try.prog w base spare held n 5 [c8] = some y8 := by
      have h := hg 8 (by decide)
      rw [cells8] at h
      exact h
    obtain ⟨z8, e8, rfl, w8⟩ := DataW.trod_int Try.underlying5 g8
    simp only [List.cons.injEq, and_true] at e8
    subst e8
    have g9 : DataW.trod enc Try.prog w base spare held n 5 [c9] = some y9 := by
      have h := hg 9 (by decide)
      rw [cells8] at h
      exact h
    obtain ⟨z9, e9, rfl, w9⟩ := DataW.trod_int Try.underlying5 g9
    simp only [List.cons.injEq, and_true] at e9
    subst e9
    have g10 : DataW.trod enc Try.prog w base spare held n 5 [c10] = some y10 := by
      have h := hg 10 (by decide)
      rw [cells8] at h
      exact h
    obtain ⟨z10, e10, rfl, w10⟩ := DataW.trod_int Try.underlying5 g10
    simp only [List.cons.injEq, and_true] at e10
    subst e10
    have g11 : DataW.trod enc Try.prog w base spare held n 5 [c11] = some y11 := by
      have h := hg 11 (by decide)
      rw [cells8] at h
      exact h
    obtain ⟨z11, e11, rfl, w11⟩ := DataW.trod_int Try.underlying5 g11
    simp only [List.cons.injEq, and_true] at e11
    subst e11
    have g12 : DataW.trod enc Try.prog w base spare held n 5 [c12] = some y12 := by
      have h := hg 12 (by decide)
      rw [cells8] at h
      exact h
    obtain ⟨z12, e12, rfl, w12⟩ := DataW.trod_int Try.underlying5 g12
    simp only [List.cons.injEq, and_true] at e12
    subst e12
    have g13 : DataW.trod enc Try.prog w base spare held n 5 [c13] = some y13 := by
      have h := hg 13 (by decide)
      rw [cells8] at h
      exact h
    obtain ⟨z13, e13, rfl, w13⟩ := DataW.trod_int Try.underlying5 g13
    simp only [List.cons.injEq, and_true] at e13
    subst e13
    have g14 : DataW.trod enc Try.prog w base spare held n 5 [c14] = some y14 := by
      have h := hg 14 (by decide)
      rw [cells8] at h
      exact h
    obtain ⟨z14, e14, rfl, w14⟩ := DataW.trod_int Try.underlying5 g14
    simp only [List.cons.injEq, and_true] at e14
    subst e14
    have g15 : DataW.trod enc Try.prog w base spare held n 5 [c15] = some y15 := by
      have h := hg 15 (by decide)
      rw [cells8] at h
      exact h
    obtain ⟨z15, e15, rfl, w15⟩ := DataW.trod_int Try.underlying5 g15
    simp only [List.cons.injEq, and_true] at e15
    subst e15
    simp only [Prod.mk.injEq, List.map_cons, List.map_nil, List.flatMap_cons, List.flatMap_nil, List.append_nil] at hx
    exact ⟨z0, z1, z2, z3, z4, z5, z6, z7, z8, z9, z10, z11, z12, z13, z14, z15, rfl, hx.1, hx.2, w0, w1, w2, w3, w4, w5, w6, w7, w8, w9, w10, w11, w12, w13, w14, w15⟩
theorem shut_b16 {z0 z1 z2 z3 z4 z5 z6 z7 z8 z9 z10 z11 z12 z13 z14 z15 : Int} (w0 : (Lit.int .u8 z0).wf = true) (w1 : (Lit.int .u8 z1).wf = true) (w2 : (Lit.int .u8 z2).wf = true) (w3 : (Lit.int .u8 z3).wf = true) (w4 : (Lit.int .u8 z4).wf = true) (w5 : (Lit.int .u8 z5).wf = true) (w6 : (Lit.int .u8 z6).wf = true) (w7 : (Lit.int .u8 z7).wf = true) (w8 : (Lit.int .u8 z8).wf = true) (w9 : (Lit.int .u8 z9).wf = true) (w10 : (Lit.int .u8 z10).wf = true) (w11 : (Lit.int .u8 z11).wf = true) (w12 : (Lit.int .u8 z12).wf = true) (w13 : (Lit.int .u8 z13).wf = true) (w14 : (Lit.int .u8 z14).wf = true) (w15 : (Lit.int .u8 z15).wf = true) :
    DataW.Trod enc Try.prog w base spare held 27 (.agg #[.int .u8 z0, .int .u8 z1, .int .u8 z2, .int .u8 z3, .int .u8 z4, .int .u8 z5, .int .u8 z6, .int .u8 z7, .int .u8 z8, .int .u8 z9, .int .u8 z10, .int .u8 z11, .int .u8 z12, .int .u8 z13, .int .u8 z14, .int .u8 z15]) (.agg [.lit (.int .u8 z0), .lit (.int .u8 z1), .lit (.int .u8 z2), .lit (.int .u8 z3), .lit (.int .u8 z4), .lit (.int .u8 z5), .lit (.int .u8 z6), .lit (.int .u8 z7), .lit (.int .u8 z8), .lit (.int .u8 z9), .lit (.int .u8 z10), .lit (.int .u8 z11), .lit (.int .u8 z12), .lit (.int .u8 z13), .lit (.int .u8 z14), .lit (.int .u8 z15)]) [] := by
  refine ⟨2, ?_⟩
  have hr : List.range 16 = [0, 1, 2, 3, 4, 5, 6, 7, 8, 9, 10, 11, 12, 13, 14, 15] := rfl
  simp [DataW.trod, hr, Try.underlying27, cellsB16, cells8, Try.underlying5, Value.cells, w0, w1, w2, w3, w4, w5, w6, w7, w8, w9, w10, w11, w12, w13, w14, w15]
end
end Go.Proofs.Yteognnpjagophaa
