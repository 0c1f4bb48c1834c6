/- OpAny's walk. -/
import Derived.Test.YtbpmjegpoafhgaaDoorOpKnown
namespace Go.Proofs.YtbpmjegpoafhgaaDoor
set_option linter.unusedVariables false
set_option linter.unusedSimpArgs false
open Go.RowKit
set_option maxRecDepth 100000 in
set_option maxHeartbeats 2000000 in
theorem opAny_walk (s : ByteArray) (n : Int) (hn : -9223372036854775808 ≤ n ∧ n ≤ 9223372036854775807) (w : World) (hN : Names w) :
    Calls Tryd.prog 3 #[.string s, .int .i64 n] w fun e w' => e = .returned (.bool true) ∧ Keep w w' := by
  have HN := Lib.hid hN
  clear hN
  by_cases hs : (50 : Int) < (s.size : Int)
  · go_enter Tryd.func3, Tryd.ntmps3
    go_wp2_with fail
    refine (opKnownT _ HN.out).mono ?_
    rintro e w1 ⟨rfl, hk⟩
    go_wp2_with fail
    go_ret
    exact ⟨rfl, hk⟩
  obtain ⟨I1, N1, F1, b1, h1⟩ := named_form s
  obtain ⟨I2, N2, F2, b2, h2⟩ := coded_form n
  have d1 := opNamed_any s
  have d2 := rnamed_any s
  have d3 := opCoded_any n hn
  have d4 := rcoded_any n hn
  rw [h1] at d1 d2
  rw [h2] at d3 d4
  clear h1 h2 hn
  go_enter Tryd.func3, Tryd.ntmps3
  go_wp2_with fail
  refine (opKnownT _ HN.out).mono ?_
  rintro e w0 ⟨rfl, hk⟩
  have K0 := Lib.hid hk
  clear hk
  go_wp2_with fail
  refine (d1 _ (HN.out.keep K0.out)).mono ?_
  rintro e w1 ⟨rfl, hk⟩
  have K1 := Lib.hid ((K0.out.trans hk).alloc (.cells #[.int .i64 I1, .string N1, .int .i64 F1] 24))
  have A1 : Box (w1.alloc (.cells #[.int .i64 I1, .string N1, .int .i64 F1] 24)) w1.heap.size #[.int .i64 I1, .string N1, .int .i64 F1] := Box.new _ _ _
  clear hk K0 
  go_wp2_with fail
  refine (d2 _).mono ?_
  rintro e w2 ⟨rfl, hk⟩
  have K2 := Lib.hid ((K1.out.trans hk).alloc (.cells #[.int .i64 I1, .string N1, .int .i64 F1] 27))
  have A2 := (A1.keep hk).alloc (.cells #[.int .i64 I1, .string N1, .int .i64 F1] 27)
  have B2 : Box (w2.alloc (.cells #[.int .i64 I1, .string N1, .int .i64 F1] 27)) w2.heap.size #[.int .i64 I1, .string N1, .int .i64 F1] := Box.new _ _ _
  clear hk K1 A1
  go_wp2_with fail
  refine (d3 _ (HN.out.keep K2.out)).mono ?_
  rintro e w3 ⟨rfl, hk⟩
  have K3 := Lib.hid ((K2.out.trans hk).alloc (.cells #[.int .i64 I2, .string N2, .int .i64 F2] 24))
  have A3 := (A2.keep hk).alloc (.cells #[.int .i64 I2, .string N2, .int .i64 F2] 24)
  have B3 := (B2.keep hk).alloc (.cells #[.int .i64 I2, .string N2, .int .i64 F2] 24)
  have C3 : Box (w3.alloc (.cells #[.int .i64 I2, .string N2, .int .i64 F2] 24)) w3.heap.size #[.int .i64 I2, .string N2, .int .i64 F2] := Box.new _ _ _
  clear hk K2 A2 B2
  go_wp2_with fail
  refine (d4 _).mono ?_
  rintro e w4 ⟨rfl, hk⟩
  have K4 := Lib.hid ((K3.out.trans hk).alloc (.cells #[.int .i64 I2, .string N2, .int .i64 F2] 27))
  have A4 := (A3.keep hk).alloc (.cells #[.int .i64 I2, .string N2, .int .i64 F2] 27)
  have B4 := (B3.keep hk).alloc (.cells #[.int .i64 I2, .string N2, .int .i64 F2] 27)
  have C4 := (C3.keep hk).alloc (.cells #[.int .i64 I2, .string N2, .int .i64 F2] 27)
  have E4 : Box (w4.alloc (.cells #[.int .i64 I2, .string N2, .int .i64 F2] 27)) w4.heap.size #[.int .i64 I2, .string N2, .int .i64 F2] := Box.new _ _ _
  clear hk K3 A3 B3 C3
  have a4 := A4.cells
  have b4 := B4.cells
  have c4 := C4.cells
  have e4 := E4.cells
  clear A4 B4 C4 E4 d1 d2 d3 d4
  go_wp2_with fail
  clear a4 b4 c4 e4
  refine (opAll_any _ (HN.out.keep K4.out)).mono ?_
  rintro e w5 ⟨g, vs, rfl, hB, hR, hk⟩
  have K5 := Lib.hid (K4.out.trans hk)
  have B5 := Lib.hid hB
  have R5 := Lib.hid hR
  clear hk K4 hB hR
  go_wp2_with fail
  refine (rops_any _).mono ?_
  rintro e w6 ⟨g', cap, rfl, ho, hk⟩
  obtain ⟨f1, f2, f3, f4⟩ := ops_form ho
  have K6 := Lib.hid (K5.out.trans hk)
  have B6 := Lib.hid (B5.out.keep hk)
  have O6 := Lib.hid ho
  clear hk K5 B5 ho
  go_wp2_with fail
  go_loopw [15] (fun i wr => ∃ k : Nat, k ≤ 67 ∧ i = .int .i64 (k : Int) ∧ Keep w6 wr) (fun i _ => 67 - (intOf i).toNat)
  case atStart => exact ⟨0, by decide, rfl, Keep.refl _⟩
  case round =>
    obtain ⟨k, hk, rfl, hK⟩ := hrel
    have k0 : (0 : Int) ≤ (k : Int) := Int.natCast_nonneg _
    by_cases h : k < 67
    · have hk67 : (k : Int) < 67 := by omega
      obtain ⟨c0, c1, c2⟩ := ops_cell (owns_keep O6.out hK) k h
      have BW := B6.out.keep hK
      have p0 : wr.cell? ⟨g, k * 3, none⟩ = some (.int .i64 ((k : Int) + 1)) := (BW.cells _).trans (R5.out.2 k 0 h (by decide))
      have p1 : wr.cell? ⟨g, k * 3 + 1, none⟩ = some (.string (opName k)) := (BW.cells _).trans (R5.out.2 k 1 h (by decide))
      have p2 : wr.cell? ⟨g, k * 3 + 2, none⟩ = some (.int .i64 (opForm k)) := (BW.cells _).trans (R5.out.2 k 2 h (by decide))
      have HK := Lib.hid hK
      clear hK BW
      go_wp2_with fail
      go_region
      go_wp2_with fail
      refine ⟨⟨k + 1, h, by simp, HK.out.drew⟩, by simp [intOf]; omega⟩
    · obtain rfl : k = 67 := by omega
      go_wp2_with fail
      go_ret
      exact ⟨rfl, K6.out.trans hK⟩
end Go.Proofs.YtbpmjegpoafhgaaDoor
