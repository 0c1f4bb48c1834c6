/- op.Coded, Named, All: what each answers. -/
import Derived.Test.YtbpmjegpoafhgaaDoorOpDo
namespace Go.Proofs.YtbpmjegpoafhgaaDoor
set_option linter.unusedVariables false
set_option linter.unusedSimpArgs false
open Go.RowKit
set_option maxHeartbeats 1000000 in
theorem opCoded_any (n : Int) (hn : -9223372036854775808 ≤ n ∧ n ≤ 9223372036854775807) (w : World) (hN : Names w) : Calls Tryd.prog 8 #[.int .i64 n] w fun e w' => e = .returned (codedV n) ∧ Keep w w' := by
  by_cases hok : 1 ≤ n ∧ n ≤ 67
  · obtain ⟨i, rfl⟩ : ∃ i : Nat, n = (i : Int) + 1 := ⟨(n - 1).toNat, by omega⟩
    have hi : i < 67 := by omega
    have hV : codedV ((i : Int) + 1) = .tuple #[.agg #[.int .i64 ((i : Int) + 1), .string (opName i), .int .i64 (opForm i)], .bool true] := by
      unfold codedV
      rw [if_pos hok, show ((i : Int) + 1).toNat - 1 = i by omega]
      rfl
    rw [hV]
    have hk := opKnown_any i hi
    unfold opV at hk
    obtain ⟨N, hNe⟩ : ∃ N, N = opName i := ⟨_, rfl⟩
    obtain ⟨F, hF⟩ : ∃ F, F = opForm i := ⟨_, rfl⟩
    rw [← hNe, ← hF] at hk ⊢
    have i0 : (0 : Int) ≤ (i : Int) := Int.natCast_nonneg _
    have i1 : (i : Int) < 67 := by omega
    have HN := Lib.hid hN
    clear hNe hF hV hok hn hN
    go_enter Tryd.func8, Tryd.ntmps8
    go_wp2_with fail
    refine (hk _ (HN.out.keep ((Keep.refl _).alloc _))).mono ?_
    rintro e w1 ⟨rfl, hk1⟩
    have BR : Box w1 w.heap.size #[.int .i64 0, .string ⟨#[]⟩, .int .i64 0] := (Box.new _ _ _).keep hk1
    have r0 := BR.cells
    have rf := BR.thawed
    have K1 := Lib.hid (((Keep.refl _).alloc _).trans hk1)
    clear hk1
    go_wp2_with fail
    refine bodyPost_ret (v := .tuple #[.agg #[.int .i64 ((i : Int) + 1), .string N, .int .i64 F], .bool true]) (by simp [results, Tryd.results8, go_sem, r0]; done) rfl ⟨rfl, ?_⟩
    repeat (with_reducible refine Keep.setAt ?_ ?_ _; · first | omega | (simp; done) | (simp; omega))
    exact K1.out
  · have hV : codedV n = .tuple #[.agg #[.int .i64 0, .string ⟨#[]⟩, .int .i64 0], .bool false] := if_neg hok
    rw [hV]
    clear hV
    by_cases h1 : n < 1
    all_goals (
      go_enter Tryd.func8, Tryd.ntmps8
      go_wp2_with fail
      refine bodyPost_ret (v := .tuple #[.agg #[.int .i64 0, .string ⟨#[]⟩, .int .i64 0], .bool false]) (by simp [results, Tryd.results8, go_sem]; done) rfl ⟨rfl, ?_⟩
      repeat (with_reducible refine Keep.setAt ?_ ?_ _; · first | omega | (simp; done) | (simp; omega))
      exact (Keep.refl _).alloc _)
theorem infoString : (Tryd.prog.info? 9).map (·.size) = some 1 := by kernel_rfl
theorem index_names (NA : Array Value) (k : Nat) (hk : k < 67) (v : Value) (hv : NA[k]? = some v) (w : World) : (Instr.index 38 (.agg NA) (.int .i64 (k : Int))).run Tryd.prog w = .ok v w := by
  have hc : (0 : Int) ≤ (k : Int) ∧ (k : Int) < ((67 : Nat) : Int) := by omega
  have hagg : (isAgg 9).run Tryd.prog w = .ok false w := by
    unfold isAgg
    rw [Sem.run_bind, run_underlying Tryd.underlying9 w]
    rfl
  cases hq : Tryd.prog.info? 9 with
  | none => have := infoString; rw [hq] at this; cases this
  | some i =>
    have hs : i.size = 1 := by have := infoString; simpa [hq] using this
    simp [Instr.index, run_underlying Tryd.underlying38, asIntOf, go_sem, hc, part, sizeOf, typeInfo, hq, hs, hagg, hv]
    intro hh; omega
set_option maxHeartbeats 1000000 in
set_option maxRecDepth 100000 in
theorem opNamed_any (s : ByteArray) (w : World) (hN : Names w) : Calls Tryd.prog 6 #[.string s] w fun e w' => e = .returned (namedV s) ∧ Keep w w' := by
  obtain ⟨NV, hNV⟩ : ∃ NV, NV = namedV s := ⟨_, rfl⟩
  rw [← hNV]
  have HNV := Lib.hid hNV
  clear hNV
  have hat : ∀ k, k < 67 → nameVals.toArray[k]? = some (.string (opName k)) := fun k hk => by simpa using nameVals_at k hk
  have hsz : nameVals.toArray.size = 67 := by decide
  obtain ⟨NA, hNA⟩ : ∃ NA, NA = nameVals.toArray := ⟨_, rfl⟩
  rw [← hNA] at hat hsz
  have hload : ∀ {op : Oper} {a : Act} {W : World} {K : Act → World → Prop} {Q : Exit → Act → World → Prop}, op.op = .load 38 (.global 0) → Names W → K (a.put op.dst (.agg NA)) W → op.wp Tryd.prog a W K Q := by
    intro op a W K Q ho hW h
    subst hNA
    exact wp_load_mid _ _ ho _ 0 rfl nameVals _ hW Tryd.underlying38 rfl infoNames h
  clear hNA
  have HN := Lib.hid hN
  clear hN
  go_enter Tryd.func6, Tryd.ntmps6
  repeat' (first | refine hload rfl (HN.out.keep ((Keep.refl _).alloc _)) ?_ | go_values | go_skip | go_guarded | go_step | go_upon | go_in | go_back)
  clear hload
  go_loop [7] (fun i => ∃ k : Nat, k ≤ 67 ∧ i = .int .i64 (k : Int) ∧ ∀ j, j < k → opName j ≠ s) (fun i => 67 - (intOf i).toNat)
  case atStart => exact ⟨0, by decide, rfl, fun j hj => by omega⟩
  case round =>
    obtain ⟨k, hk, rfl, hno⟩ := hrel
    have HNO := Lib.hid hno
    clear hno
    have k0 : (0 : Int) ≤ (k : Int) := Int.natCast_nonneg _
    by_cases h : k < 67
    · have hk67 : (k : Int) < 67 := by omega
      have c0 := hat k h
      have hkn := opKnown_any k h
      unfold opV at hkn
      obtain ⟨N, hN⟩ : ∃ N, N = opName k := ⟨_, rfl⟩
      rw [← hN] at c0 hkn
      have HN2 := Lib.hid hN
      clear hN
      have ci := index_names NA k h _ c0
      by_cases he : N = s
      · have E : NV = .tuple #[.agg #[.int .i64 ((k : Int) + 1), .string s, .int .i64 (opForm k)], .bool true] := by
          have hx := opIdx_at s k h (by rw [← HN2.out]; exact he) HNO.out
          rw [HNV.out]
          unfold namedV opV
          rw [hx, if_pos h, ← HN2.out, he]
        subst E
        subst he
        clear HNV
        go_wp2_with fail
        refine (hkn _ (HN.out.keep ((Keep.refl _).alloc _))).mono ?_
        rintro e w1 ⟨rfl, hk1⟩
        have BR : Box w1 w.heap.size #[.int .i64 0, .string ⟨#[]⟩, .int .i64 0] := (Box.new _ _ _).keep hk1
        have r0 := BR.cells
        have rf := BR.thawed
        have K1 := Lib.hid (((Keep.refl _).alloc _).trans hk1)
        clear hk1
        go_wp2_with fail
        refine bodyPost_ret (v := .tuple #[.agg #[.int .i64 ((k : Int) + 1), .string N, .int .i64 (opForm k)], .bool true]) (by simp [results, Tryd.results6, go_sem, r0]; done) rfl ⟨rfl, ?_⟩
        repeat (with_reducible refine Keep.setAt ?_ ?_ _; · first | omega | (simp; done) | (simp; omega))
        exact K1.out
      · have he' : (N.toList == s.toList) = false := (str_beq N s).trans (decide_eq_false he)
        go_wp2_with fail
        refine ⟨⟨k + 1, h, by simp, fun j hj => ?_⟩, by simp [intOf]; omega⟩
        by_cases e : j = k
        · subst e; rw [← HN2.out]; exact he
        · exact HNO.out j (by omega)
    · obtain rfl : k = 67 := by omega
      have E : NV = .tuple #[.agg #[.int .i64 0, .string ⟨#[]⟩, .int .i64 0], .bool false] := by
        rw [HNV.out]
        unfold namedV
        rw [opIdx_none s HNO.out]
        rfl
      subst E
      clear HNV
      go_wp2_with fail
      refine bodyPost_ret (v := .tuple #[.agg #[.int .i64 0, .string ⟨#[]⟩, .int .i64 0], .bool false]) (by simp [results, Tryd.results6, go_sem]; done) rfl ⟨rfl, ?_⟩
      repeat (with_reducible refine Keep.setAt ?_ ?_ _; · first | omega | (simp; done) | (simp; omega))
      exact (Keep.refl _).alloc _
end Go.Proofs.YtbpmjegpoafhgaaDoor
