/- The reference's Coded, Named. -/
import Derived.Test.YtbpmjegpoafhgaaDoorOpsRef
import Derived.Laws.OwnMore
namespace Go.Proofs.YtbpmjegpoafhgaaDoor
set_option linter.unusedVariables false
set_option linter.unusedSimpArgs false
open Go.RowKit
theorem str_beq (a b : ByteArray) : (a.toList == b.toList) = decide (a = b) := by
  rw [ByteArray.toList_eq, ByteArray.toList_eq]
  by_cases h : a = b
  · subst h; simp
  · rw [decide_eq_false h, beq_eq_false_iff_ne]
    exact fun e => h (ByteArray.ext (Array.ext' e))
theorem ops_cell {w : World} {base g cap : Nat} (h : w.ownsRow base 27 3 (.slice (some ⟨g, 0, none⟩) 67 cap) 67 (opsTo 67)) (i : Nat) (hi : i < 67) :
    w.cell? ⟨g, i * 3, none⟩ = some (.int .i64 ((i : Int) + 1)) ∧ w.cell? ⟨g, i * 3 + 1, none⟩ = some (.string (opName i)) ∧ w.cell? ⟨g, i * 3 + 2, none⟩ = some (.int .i64 (opForm i)) := by
  have e0 := h.cellAt (i * 3) (by omega)
  have e1 := h.cellAt (i * 3 + 1) (by omega)
  have e2 := h.cellAt (i * 3 + 2) (by omega)
  have r0 := opsTo_row 67 i 0 hi (by decide)
  have r1 := opsTo_row 67 i 1 hi (by decide)
  have r2 := opsTo_row 67 i 2 hi (by decide)
  rw [Nat.add_zero] at r0
  exact ⟨e0.trans r0, e1.trans r1, e2.trans r2⟩
theorem ops_form {w : World} {base g cap : Nat} (h : w.ownsRow base 27 3 (.slice (some ⟨g, 0, none⟩) 67 cap) 67 (opsTo 67)) : 67 ≤ cap ∧ cap ≤ 9223372036854775807 ∧ base ≤ g ∧ g < w.heap.size := by
  obtain ⟨_, h | ⟨g', cap', cur, hv, hb, hg, hn, hc, _⟩⟩ := h
  · cases h.1
  · simp only [Value.slice.injEq, Option.some.injEq, Addr.mk.injEq, and_true, true_and] at hv
    obtain ⟨rfl, rfl⟩ := hv
    exact ⟨hn, by unfold maxLen at hc; omega, hb, (Array.getElem?_eq_some_iff.1 hg).1⟩
set_option maxHeartbeats 1000000 in
theorem rcoded_any (n : Int) (hn : -9223372036854775808 ≤ n ∧ n ≤ 9223372036854775807) (w : World) : Calls Tryd.prog 9 #[.int .i64 n] w fun e w' => e = .returned (codedV n) ∧ Keep w w' := by
  by_cases hok : 1 ≤ n ∧ n ≤ 67
  · obtain ⟨i, rfl⟩ : ∃ i : Nat, n = (i : Int) + 1 := ⟨(n - 1).toNat, by omega⟩
    have hi : i < 67 := by omega
    have hV : codedV ((i : Int) + 1) = .tuple #[.agg #[.int .i64 ((i : Int) + 1), .string (opName i), .int .i64 (opForm i)], .bool true] := by
      unfold codedV
      rw [if_pos hok, show ((i : Int) + 1).toNat - 1 = i by omega]
      rfl
    rw [hV]
    obtain ⟨N, hN⟩ : ∃ N, N = opName i := ⟨_, rfl⟩
    obtain ⟨F, hF⟩ : ∃ F, F = opForm i := ⟨_, rfl⟩
    rw [← hN, ← hF]
    have HNF := Lib.hid (And.intro hN hF)
    have i0 : (0 : Int) ≤ (i : Int) := Int.natCast_nonneg _
    have i1 : (i : Int) < 67 := by omega
    clear hN hF hV hok hn
    go_enter Tryd.func9, Tryd.ntmps9
    go_wp2_with fail
    refine (rops_any _).mono ?_
    rintro e w1 ⟨g, cap, rfl, ho, hk1⟩
    obtain ⟨f1, f2, f3, f4⟩ := ops_form ho
    obtain ⟨c0, c1, c2⟩ := ops_cell ho i hi
    rw [← HNF.out.1] at c1
    rw [← HNF.out.2] at c2
    have BR : Box w1 w.heap.size #[.int .i64 0, .string ⟨#[]⟩, .int .i64 0] := (Box.new _ _ _).keep hk1
    have r0 := BR.cells
    have rf := BR.thawed
    have K1 := Lib.hid (((Keep.refl _).alloc _).trans hk1)
    clear ho hk1
    go_wp2_with fail
    refine bodyPost_ret (v := .tuple #[.agg #[.int .i64 ((i : Int) + 1), .string N, .int .i64 F], .bool true]) (by simp [results, Tryd.results9, go_sem, r0]; done) rfl ⟨rfl, ?_⟩
    repeat (with_reducible refine Keep.setAt ?_ ?_ _; · first | omega | (simp; done) | (simp; omega))
    exact K1.out
  · have hV : codedV n = .tuple #[.agg #[.int .i64 0, .string ⟨#[]⟩, .int .i64 0], .bool false] := if_neg hok
    rw [hV]
    clear hV
    by_cases h1 : n < 1
    all_goals (
      go_enter Tryd.func9, Tryd.ntmps9
      go_wp2_with fail
      refine (rops_any _).mono ?_
      rintro e w1 ⟨g, cap, rfl, ho, hk1⟩
      have BR : Box w1 w.heap.size #[.int .i64 0, .string ⟨#[]⟩, .int .i64 0] := (Box.new _ _ _).keep hk1
      have r0 := BR.cells
      have rf := BR.thawed
      have K1 := Lib.hid (((Keep.refl _).alloc _).trans hk1)
      clear ho hk1
      go_wp2_with fail
      refine bodyPost_ret (v := .tuple #[.agg #[.int .i64 0, .string ⟨#[]⟩, .int .i64 0], .bool false]) (by simp [results, Tryd.results9, go_sem, r0]; done) rfl ⟨rfl, ?_⟩
      repeat (with_reducible refine Keep.setAt ?_ ?_ _; · first | omega | (simp; done) | (simp; omega))
      exact K1.out)
set_option maxHeartbeats 1000000 in
theorem rnamed_any (s : ByteArray) (w : World) : Calls Tryd.prog 7 #[.string s] w fun e w' => e = .returned (namedV s) ∧ Keep w w' := by
  obtain ⟨NV, hNV⟩ : ∃ NV, NV = namedV s := ⟨_, rfl⟩
  rw [← hNV]
  have HNV := Lib.hid hNV
  clear hNV
  go_enter Tryd.func7, Tryd.ntmps7
  go_wp2_with fail
  refine (rops_any _).mono ?_
  rintro e w1 ⟨g, cap, rfl, ho, hk1⟩
  obtain ⟨f1, f2, f3, f4⟩ := ops_form ho
  have HO := Lib.hid ho
  have BR : Box w1 w.heap.size #[.int .i64 0, .string ⟨#[]⟩, .int .i64 0] := (Box.new _ _ _).keep hk1
  have r0 := BR.cells
  have rf := BR.thawed
  have K1 := Lib.hid (((Keep.refl _).alloc _).trans hk1)
  clear ho hk1
  go_wp2_with fail
  go_loop [5] (fun i => ∃ k : Nat, k ≤ 67 ∧ i = .int .i64 (k : Int) ∧ ∀ j, j < k → opName j ≠ s) (fun i => 67 - (intOf i).toNat)
  case atStart => exact ⟨0, by decide, rfl, fun j hj => by omega⟩
  case round =>
    obtain ⟨k, hk, rfl, hno⟩ := hrel
    have HNO := Lib.hid hno
    clear hno
    have k0 : (0 : Int) ≤ (k : Int) := Int.natCast_nonneg _
    by_cases h : k < 67
    · have hk67 : (k : Int) < 67 := by omega
      obtain ⟨c0, c1, c2⟩ := ops_cell HO.out k h
      obtain ⟨N, hN⟩ : ∃ N, N = opName k := ⟨_, rfl⟩
      rw [← hN] at c1
      have HN := Lib.hid hN
      clear hN
      by_cases he : N = s
      · have E : NV = .tuple #[.agg #[.int .i64 ((k : Int) + 1), .string s, .int .i64 (opForm k)], .bool true] := by
          have hx := opIdx_at s k h (by rw [← HN.out]; exact he) HNO.out
          rw [HNV.out]
          unfold namedV opV
          rw [hx, if_pos h, ← HN.out, he]
        subst E
        subst he
        clear HNV
        go_wp2_with fail
        refine bodyPost_ret (v := .tuple #[.agg #[.int .i64 ((k : Int) + 1), .string N, .int .i64 (opForm k)], .bool true]) (by simp [results, Tryd.results7, go_sem, r0]; done) rfl ⟨rfl, ?_⟩
        repeat (with_reducible refine Keep.setAt ?_ ?_ _; · first | omega | (simp; done) | (simp; omega))
        exact K1.out
      · have he' : (N.toList == s.toList) = false := (str_beq N s).trans (decide_eq_false he)
        go_wp2_with fail
        refine ⟨⟨k + 1, h, by simp, fun j hj => ?_⟩, by simp [intOf]; omega⟩
        by_cases e : j = k
        · subst e; rw [← HN.out]; exact he
        · exact HNO.out j (by omega)
    · obtain rfl : k = 67 := by omega
      have E : NV = .tuple #[.agg #[.int .i64 0, .string ⟨#[]⟩, .int .i64 0], .bool false] := by
        rw [HNV.out]
        unfold namedV
        rw [opIdx_none s HNO.out]
        rfl
      subst E
      clear HNV
      go_wp2_with fail
      refine bodyPost_ret (v := .tuple #[.agg #[.int .i64 0, .string ⟨#[]⟩, .int .i64 0], .bool false]) (by simp [results, Tryd.results7, go_sem, r0]; done) rfl ⟨rfl, ?_⟩
      repeat (with_reducible refine Keep.setAt ?_ ?_ _; · first | omega | (simp; done) | (simp; omega))
      exact K1.out
end Go.Proofs.YtbpmjegpoafhgaaDoor
