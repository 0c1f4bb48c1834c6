/- hasplaw6.known: it answers true; plain facts on the table of names. -/
import Derived.Test.YtbpmjegpoafhgaaDoorOpDoA
namespace Go.Proofs.YtbpmjegpoafhgaaDoor
set_option linter.unusedVariables false
set_option linter.unusedSimpArgs false
open Go.RowKit
theorem namedAdd : namedV ⟨#[97, 100, 100]⟩ = .tuple #[.agg #[.int .i64 1, .string ⟨#[97, 100, 100]⟩, .int .i64 3], .bool true] := by
  unfold namedV
  rw [show opIdx ⟨#[97, 100, 100]⟩ = 0 by decide +kernel]
  rfl
theorem namedNone : namedV ⟨#[]⟩ = .tuple #[.agg #[.int .i64 0, .string ⟨#[]⟩, .int .i64 0], .bool false] := by
  unfold namedV
  rw [show opIdx ⟨#[]⟩ = 67 by decide +kernel]
  rfl
theorem coded67 : codedV 67 = .tuple #[.agg #[.int .i64 67, .string ⟨#[110, 111, 112]⟩, .int .i64 0], .bool true] := rfl
theorem coded0 : codedV 0 = .tuple #[.agg #[.int .i64 0, .string ⟨#[]⟩, .int .i64 0], .bool false] := rfl
theorem named_form (s : ByteArray) : ∃ I N F b, namedV s = .tuple #[.agg #[.int .i64 I, .string N, .int .i64 F], .bool b] := by
  unfold namedV
  split
  · exact ⟨_, _, _, _, rfl⟩
  · exact ⟨_, _, _, _, rfl⟩
theorem coded_form (n : Int) : ∃ I N F b, codedV n = .tuple #[.agg #[.int .i64 I, .string N, .int .i64 F], .bool b] := by
  unfold codedV
  split
  · exact ⟨_, _, _, _, rfl⟩
  · exact ⟨_, _, _, _, rfl⟩
theorem coded_none (n : Int) (h : ¬ (1 ≤ n ∧ n ≤ 67)) : codedV n = .tuple #[.agg #[.int .i64 0, .string ⟨#[]⟩, .int .i64 0], .bool false] := if_neg h
theorem coded_at (i : Nat) (hi : i < 67) : codedV ((i : Int) + 1) = .tuple #[.agg #[.int .i64 ((i : Int) + 1), .string (opName i), .int .i64 (opForm i)], .bool true] := by
  unfold codedV
  rw [if_pos (by omega), show ((i : Int) + 1).toNat - 1 = i by omega]
  rfl
theorem opIdx_all : ∀ i, i < 67 → opIdx (opName i) = i := by decide +kernel
theorem opForm_all : ∀ i, i < 67 → 0 ≤ opForm i ∧ opForm i ≤ 9 := by decide +kernel
theorem named_at (i : Nat) (hi : i < 67) : namedV (opName i) = .tuple #[.agg #[.int .i64 ((i : Int) + 1), .string (opName i), .int .i64 (opForm i)], .bool true] := by
  unfold namedV
  rw [opIdx_all i hi, if_pos hi]
  rfl
theorem opName_inj (i j : Nat) (hi : i < 67) (hj : j < 67) (h : opName i = opName j) : i = j := by
  rw [← opIdx_all i hi, ← opIdx_all j hj, h]
set_option maxHeartbeats 1000000 in
theorem opKnownT (w : World) (hN : Names w) : Calls Tryd.prog 5 #[] w fun e w' => e = .returned (.bool true) ∧ Keep w w' := by
  have HN := Lib.hid hN
  clear hN
  have c1 := opNamed_any ⟨#[97, 100, 100]⟩
  have c2 := opCoded_any 67 (by decide)
  have c3 := opCoded_any 0 (by decide)
  have c4 := opNamed_any ⟨#[]⟩
  rw [namedAdd] at c1
  rw [coded67] at c2
  rw [coded0] at c3
  rw [namedNone] at c4
  go_enter Tryd.func5, Tryd.ntmps5
  go_wp2_with fail
  refine (c1 _ HN.out).mono ?_
  rintro e w1 ⟨rfl, hk⟩
  have K1 := Lib.hid (hk.alloc (.cells #[.int .i64 1, .string ⟨#[97, 100, 100]⟩, .int .i64 3] 24))
  have A1 : Box (w1.alloc (.cells #[.int .i64 1, .string ⟨#[97, 100, 100]⟩, .int .i64 3] 24)) w1.heap.size #[.int .i64 1, .string ⟨#[97, 100, 100]⟩, .int .i64 3] := Box.new _ _ _
  clear hk
  go_wp2_with fail
  refine (c2 _ (HN.out.keep K1.out)).mono ?_
  rintro e w2 ⟨rfl, hk⟩
  have K2 := Lib.hid ((K1.out.trans hk).alloc (.cells #[.int .i64 67, .string ⟨#[110, 111, 112]⟩, .int .i64 0] 24))
  have A2 := (A1.keep hk).alloc (.cells #[.int .i64 67, .string ⟨#[110, 111, 112]⟩, .int .i64 0] 24)
  have B2 : Box (w2.alloc (.cells #[.int .i64 67, .string ⟨#[110, 111, 112]⟩, .int .i64 0] 24)) w2.heap.size #[.int .i64 67, .string ⟨#[110, 111, 112]⟩, .int .i64 0] := Box.new _ _ _
  clear hk A1 K1
  go_wp2_with fail
  refine (c3 _ (HN.out.keep K2.out)).mono ?_
  rintro e w3 ⟨rfl, hk⟩
  have K3 := Lib.hid ((K2.out.trans hk).alloc (.cells #[.int .i64 0, .string ⟨#[]⟩, .int .i64 0] 24))
  have A3 := (A2.keep hk).alloc (.cells #[.int .i64 0, .string ⟨#[]⟩, .int .i64 0] 24)
  have B3 := (B2.keep hk).alloc (.cells #[.int .i64 0, .string ⟨#[]⟩, .int .i64 0] 24)
  clear hk A2 B2 K2
  go_wp2_with fail
  refine (c4 _ (HN.out.keep K3.out)).mono ?_
  rintro e w4 ⟨rfl, hk⟩
  have K4 := Lib.hid ((K3.out.trans hk).alloc (.cells #[.int .i64 0, .string ⟨#[]⟩, .int .i64 0] 24))
  have A4 := (A3.keep hk).alloc (.cells #[.int .i64 0, .string ⟨#[]⟩, .int .i64 0] 24)
  have B4 := (B3.keep hk).alloc (.cells #[.int .i64 0, .string ⟨#[]⟩, .int .i64 0] 24)
  have a4 := A4.cells
  have b4 := B4.cells
  have ca := opAll_any
  clear hk A3 B3 K3 c1 c2 c3 c4
  go_wp2_with fail
  refine (ca _ (HN.out.keep K4.out)).mono ?_
  rintro e w5 ⟨g, vs, rfl, -, -, hk⟩
  have K5 := Lib.hid (K4.out.trans hk)
  clear hk
  go_wp2_with fail
  go_ret
  exact ⟨rfl, K5.out⟩
end Go.Proofs.YtbpmjegpoafhgaaDoor
