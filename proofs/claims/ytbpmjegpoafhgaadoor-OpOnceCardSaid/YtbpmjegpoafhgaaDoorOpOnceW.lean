/- OpOnce's walk. -/
import Derived.Test.YtbpmjegpoafhgaaDoorOpKnown
namespace Go.Proofs.YtbpmjegpoafhgaaDoor
set_option linter.unusedVariables false
set_option linter.unusedSimpArgs false
open Go.RowKit
set_option maxRecDepth 100000 in
set_option maxHeartbeats 2000000 in
theorem opOnce_walk (a b : Int) (ha : -9223372036854775808 ≤ a ∧ a ≤ 9223372036854775807) (hb : -9223372036854775808 ≤ b ∧ b ≤ 9223372036854775807) (w : World) (hN : Names w) :
    Calls Tryd.prog 4 #[.int .i64 a, .int .i64 b] w fun e w' => e = .returned (.bool true) ∧ Keep w w' := by
  have HN := Lib.hid hN
  clear hN
  have d1 := opCoded_any a ha
  have d2 := opCoded_any b hb
  by_cases oa : 1 ≤ a ∧ a ≤ 67
  · obtain ⟨i, rfl⟩ : ∃ i : Nat, a = (i : Int) + 1 := ⟨(a - 1).toNat, by omega⟩
    have hi : i < 67 := by omega
    rw [coded_at i hi] at d1
    have i0 : (0 : Int) ≤ (i : Int) := Int.natCast_nonneg _
    by_cases ob : 1 ≤ b ∧ b ≤ 67
    · obtain ⟨j, rfl⟩ : ∃ j : Nat, b = (j : Int) + 1 := ⟨(b - 1).toNat, by omega⟩
      have hj : j < 67 := by omega
      have j0 : (0 : Int) ≤ (j : Int) := Int.natCast_nonneg _
      rw [coded_at j hj] at d2
      have d3 := opNamed_any (opName i)
      rw [named_at i hi] at d3
      have hF := opForm_all i hi
      have hinj := opName_inj i j hi hj
      obtain ⟨N1, hN1⟩ : ∃ N1, N1 = opName i := ⟨_, rfl⟩
      obtain ⟨F1, hF1⟩ : ∃ F1, F1 = opForm i := ⟨_, rfl⟩
      obtain ⟨N2, hN2⟩ : ∃ N2, N2 = opName j := ⟨_, rfl⟩
      obtain ⟨F2, hF2⟩ : ∃ F2, F2 = opForm j := ⟨_, rfl⟩
      have hsame : i = j → N1 = N2 := fun h => by rw [hN1, hN2, h]
      rw [← hN1, ← hF1] at d1 d3
      rw [← hN1, ← hN2] at hinj
      rw [← hF1] at hF
      rw [← hN2, ← hF2] at d2
      obtain ⟨F1a, F1b⟩ := hF
      have hor : ((N1.toList == N2.toList) = true ∧ ((i : Int) + 1 == (j : Int) + 1) = true) ∨ ((N1.toList == N2.toList) = false ∧ ((i : Int) + 1 == (j : Int) + 1) = false) := by
        rw [str_beq]
        by_cases e : i = j
        · exact .inl ⟨decide_eq_true (hsame e), by rw [e]; simp⟩
        · exact .inr ⟨decide_eq_false (fun h => e (hinj h)), by simp; omega⟩
      clear hN1 hN2 hF1 hF2 hinj hsame
      rcases hor with ⟨he, hi2⟩ | ⟨he, hi2⟩
      · skip
        go_enter Tryd.func4, Tryd.ntmps4
        go_wp2_with fail
        refine (opKnownT _ HN.out).mono ?_
        rintro e w0 ⟨rfl, hk⟩
        have K0 := Lib.hid hk
        clear hk
        go_wp2_with fail
        refine (d1 _ (HN.out.keep K0.out)).mono ?_
        rintro e w1 ⟨rfl, hk⟩
        have K1 := Lib.hid ((K0.out.trans hk).alloc (.cells #[.int .i64 ((i : Int) + 1), .string N1, .int .i64 F1] 24))
        have A1 : Box (w1.alloc (.cells #[.int .i64 ((i : Int) + 1), .string N1, .int .i64 F1] 24)) w1.heap.size #[.int .i64 ((i : Int) + 1), .string N1, .int .i64 F1] := Box.new _ _ _
        clear hk K0 
        go_wp2_with fail
        refine (d2 _ (HN.out.keep K1.out)).mono ?_
        rintro e w2 ⟨rfl, hk⟩
        have K2 := Lib.hid ((K1.out.trans hk).alloc (.cells #[.int .i64 ((j : Int) + 1), .string N2, .int .i64 F2] 24))
        have A2 := (A1.keep hk).alloc (.cells #[.int .i64 ((j : Int) + 1), .string N2, .int .i64 F2] 24)
        have B2 : Box (w2.alloc (.cells #[.int .i64 ((j : Int) + 1), .string N2, .int .i64 F2] 24)) w2.heap.size #[.int .i64 ((j : Int) + 1), .string N2, .int .i64 F2] := Box.new _ _ _
        clear hk K1 A1
        have a2 := A2.cells
        have b2 := B2.cells
        clear d1 d2
        go_wp2_with fail
        refine (d3 _ (HN.out.keep K2.out)).mono ?_
        rintro e w3 ⟨rfl, hk⟩
        have K3 := Lib.hid ((K2.out.trans hk).alloc (.cells #[.int .i64 ((i : Int) + 1), .string N1, .int .i64 F1] 24))
        have A3 := (A2.keep hk).alloc (.cells #[.int .i64 ((i : Int) + 1), .string N1, .int .i64 F1] 24)
        have B3 := (B2.keep hk).alloc (.cells #[.int .i64 ((i : Int) + 1), .string N1, .int .i64 F1] 24)
        have a3 := A3.cells
        have b3 := B3.cells
        clear hk K2 d3 A2 B2 a2 b2
        go_wp2_with fail
        go_ret
        exact ⟨rfl, K3.out⟩
      · skip
        go_enter Tryd.func4, Tryd.ntmps4
        go_wp2_with fail
        refine (opKnownT _ HN.out).mono ?_
        rintro e w0 ⟨rfl, hk⟩
        have K0 := Lib.hid hk
        clear hk
        go_wp2_with fail
        refine (d1 _ (HN.out.keep K0.out)).mono ?_
        rintro e w1 ⟨rfl, hk⟩
        have K1 := Lib.hid ((K0.out.trans hk).alloc (.cells #[.int .i64 ((i : Int) + 1), .string N1, .int .i64 F1] 24))
        have A1 : Box (w1.alloc (.cells #[.int .i64 ((i : Int) + 1), .string N1, .int .i64 F1] 24)) w1.heap.size #[.int .i64 ((i : Int) + 1), .string N1, .int .i64 F1] := Box.new _ _ _
        clear hk K0 
        go_wp2_with fail
        refine (d2 _ (HN.out.keep K1.out)).mono ?_
        rintro e w2 ⟨rfl, hk⟩
        have K2 := Lib.hid ((K1.out.trans hk).alloc (.cells #[.int .i64 ((j : Int) + 1), .string N2, .int .i64 F2] 24))
        have A2 := (A1.keep hk).alloc (.cells #[.int .i64 ((j : Int) + 1), .string N2, .int .i64 F2] 24)
        have B2 : Box (w2.alloc (.cells #[.int .i64 ((j : Int) + 1), .string N2, .int .i64 F2] 24)) w2.heap.size #[.int .i64 ((j : Int) + 1), .string N2, .int .i64 F2] := Box.new _ _ _
        clear hk K1 A1
        have a2 := A2.cells
        have b2 := B2.cells
        clear d1 d2
        go_wp2_with fail
        refine (d3 _ (HN.out.keep K2.out)).mono ?_
        rintro e w3 ⟨rfl, hk⟩
        have K3 := Lib.hid ((K2.out.trans hk).alloc (.cells #[.int .i64 ((i : Int) + 1), .string N1, .int .i64 F1] 24))
        have A3 := (A2.keep hk).alloc (.cells #[.int .i64 ((i : Int) + 1), .string N1, .int .i64 F1] 24)
        have B3 := (B2.keep hk).alloc (.cells #[.int .i64 ((i : Int) + 1), .string N1, .int .i64 F1] 24)
        have a3 := A3.cells
        have b3 := B3.cells
        clear hk K2 d3 A2 B2 a2 b2
        go_wp2_with fail
        go_ret
        exact ⟨rfl, K3.out⟩
    · rw [coded_none b ob] at d2
      have ob' : ¬ b < 1 → 67 < b := fun h => by omega
      by_cases lb : b < 1
      · skip
        go_enter Tryd.func4, Tryd.ntmps4
        go_wp2_with fail
        refine (opKnownT _ HN.out).mono ?_
        rintro e w0 ⟨rfl, hk⟩
        have K0 := Lib.hid hk
        clear hk
        go_wp2_with fail
        refine (d1 _ (HN.out.keep K0.out)).mono ?_
        rintro e w1 ⟨rfl, hk⟩
        have K1 := Lib.hid ((K0.out.trans hk).alloc (.cells #[.int .i64 ((i : Int) + 1), .string (opName i), .int .i64 (opForm i)] 24))
        have A1 : Box (w1.alloc (.cells #[.int .i64 ((i : Int) + 1), .string (opName i), .int .i64 (opForm i)] 24)) w1.heap.size #[.int .i64 ((i : Int) + 1), .string (opName i), .int .i64 (opForm i)] := Box.new _ _ _
        clear hk K0 
        go_wp2_with fail
        refine (d2 _ (HN.out.keep K1.out)).mono ?_
        rintro e w2 ⟨rfl, hk⟩
        have K2 := Lib.hid ((K1.out.trans hk).alloc (.cells #[.int .i64 0, .string ⟨#[]⟩, .int .i64 0] 24))
        have A2 := (A1.keep hk).alloc (.cells #[.int .i64 0, .string ⟨#[]⟩, .int .i64 0] 24)
        have B2 : Box (w2.alloc (.cells #[.int .i64 0, .string ⟨#[]⟩, .int .i64 0] 24)) w2.heap.size #[.int .i64 0, .string ⟨#[]⟩, .int .i64 0] := Box.new _ _ _
        clear hk K1 A1
        have a2 := A2.cells
        have b2 := B2.cells
        go_wp2_with fail
        go_ret
        exact ⟨rfl, K2.out⟩
      · skip
        have gb := ob' lb
        go_enter Tryd.func4, Tryd.ntmps4
        go_wp2_with fail
        refine (opKnownT _ HN.out).mono ?_
        rintro e w0 ⟨rfl, hk⟩
        have K0 := Lib.hid hk
        clear hk
        go_wp2_with fail
        refine (d1 _ (HN.out.keep K0.out)).mono ?_
        rintro e w1 ⟨rfl, hk⟩
        have K1 := Lib.hid ((K0.out.trans hk).alloc (.cells #[.int .i64 ((i : Int) + 1), .string (opName i), .int .i64 (opForm i)] 24))
        have A1 : Box (w1.alloc (.cells #[.int .i64 ((i : Int) + 1), .string (opName i), .int .i64 (opForm i)] 24)) w1.heap.size #[.int .i64 ((i : Int) + 1), .string (opName i), .int .i64 (opForm i)] := Box.new _ _ _
        clear hk K0 
        go_wp2_with fail
        refine (d2 _ (HN.out.keep K1.out)).mono ?_
        rintro e w2 ⟨rfl, hk⟩
        have K2 := Lib.hid ((K1.out.trans hk).alloc (.cells #[.int .i64 0, .string ⟨#[]⟩, .int .i64 0] 24))
        have A2 := (A1.keep hk).alloc (.cells #[.int .i64 0, .string ⟨#[]⟩, .int .i64 0] 24)
        have B2 : Box (w2.alloc (.cells #[.int .i64 0, .string ⟨#[]⟩, .int .i64 0] 24)) w2.heap.size #[.int .i64 0, .string ⟨#[]⟩, .int .i64 0] := Box.new _ _ _
        clear hk K1 A1
        have a2 := A2.cells
        have b2 := B2.cells
        go_wp2_with fail
        go_ret
        exact ⟨rfl, K2.out⟩
  · rw [coded_none a oa] at d1
    have oa' : ¬ a < 1 → 67 < a := fun h => by omega
    obtain ⟨I2, N2, F2, b2', h2⟩ := coded_form b
    rw [h2] at d2
    clear h2
    by_cases la : a < 1
    · skip
      go_enter Tryd.func4, Tryd.ntmps4
      go_wp2_with fail
      refine (opKnownT _ HN.out).mono ?_
      rintro e w0 ⟨rfl, hk⟩
      have K0 := Lib.hid hk
      clear hk
      go_wp2_with fail
      refine (d1 _ (HN.out.keep K0.out)).mono ?_
      rintro e w1 ⟨rfl, hk⟩
      have K1 := Lib.hid ((K0.out.trans hk).alloc (.cells #[.int .i64 0, .string ⟨#[]⟩, .int .i64 0] 24))
      have A1 : Box (w1.alloc (.cells #[.int .i64 0, .string ⟨#[]⟩, .int .i64 0] 24)) w1.heap.size #[.int .i64 0, .string ⟨#[]⟩, .int .i64 0] := Box.new _ _ _
      clear hk K0 
      go_wp2_with fail
      refine (d2 _ (HN.out.keep K1.out)).mono ?_
      rintro e w2 ⟨rfl, hk⟩
      have K2 := Lib.hid ((K1.out.trans hk).alloc (.cells #[.int .i64 I2, .string N2, .int .i64 F2] 24))
      have A2 := (A1.keep hk).alloc (.cells #[.int .i64 I2, .string N2, .int .i64 F2] 24)
      have B2 : Box (w2.alloc (.cells #[.int .i64 I2, .string N2, .int .i64 F2] 24)) w2.heap.size #[.int .i64 I2, .string N2, .int .i64 F2] := Box.new _ _ _
      clear hk K1 A1
      have a2 := A2.cells
      have b2 := B2.cells
      go_wp2_with fail
      go_ret
      exact ⟨rfl, K2.out⟩
    · skip
      have ga := oa' la
      go_enter Tryd.func4, Tryd.ntmps4
      go_wp2_with fail
      refine (opKnownT _ HN.out).mono ?_
      rintro e w0 ⟨rfl, hk⟩
      have K0 := Lib.hid hk
      clear hk
      go_wp2_with fail
      refine (d1 _ (HN.out.keep K0.out)).mono ?_
      rintro e w1 ⟨rfl, hk⟩
      have K1 := Lib.hid ((K0.out.trans hk).alloc (.cells #[.int .i64 0, .string ⟨#[]⟩, .int .i64 0] 24))
      have A1 : Box (w1.alloc (.cells #[.int .i64 0, .string ⟨#[]⟩, .int .i64 0] 24)) w1.heap.size #[.int .i64 0, .string ⟨#[]⟩, .int .i64 0] := Box.new _ _ _
      clear hk K0 
      go_wp2_with fail
      refine (d2 _ (HN.out.keep K1.out)).mono ?_
      rintro e w2 ⟨rfl, hk⟩
      have K2 := Lib.hid ((K1.out.trans hk).alloc (.cells #[.int .i64 I2, .string N2, .int .i64 F2] 24))
      have A2 := (A1.keep hk).alloc (.cells #[.int .i64 I2, .string N2, .int .i64 F2] 24)
      have B2 : Box (w2.alloc (.cells #[.int .i64 I2, .string N2, .int .i64 F2] 24)) w2.heap.size #[.int .i64 I2, .string N2, .int .i64 F2] := Box.new _ _ _
      clear hk K1 A1
      have a2 := A2.cells
      have b2 := B2.cells
      go_wp2_with fail
      go_ret
      exact ⟨rfl, K2.out⟩
end Go.Proofs.YtbpmjegpoafhgaaDoor
