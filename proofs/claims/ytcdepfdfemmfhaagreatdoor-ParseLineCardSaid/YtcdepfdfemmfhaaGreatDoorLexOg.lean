/- The reference's one: signs; at any text. -/
import Derived.Test.YtcdepfdfemmfhaaGreatDoorLexOf
namespace Go.Proofs.YtcdepfdfemmfhaaGreatDoor
set_option linter.unusedVariables false
set_option linter.unusedSimpArgs false
open Go.RowKit
def sgB : ByteArray := ⟨#[40, 41, 44, 58, 43, 45, 42, 38, 124, 94, 126]⟩
def sgD (k : Nat) : UInt8 := ([40, 41, 44, 58, 43, 45, 42, 38, 124, 94, 126] : List UInt8).getD k 0
theorem sgB_size : sgB.size = 11 := by decide +kernel
theorem sgB_at : ∀ i : Fin 11, sgB.data.toList.getD i.val 0 = sgD i.val := by decide +kernel
theorem sgB_get (d : Nat) (h : d < 11) (h' : d < sgB.size) : sgB[d] = sgD d := by
  have hl : sgB.data.toList.length = 11 := by decide +kernel
  have h2 : d < sgB.data.toList.length := by omega
  have e2 : sgB[d] = sgB.data.toList.getD d 0 := by
    rw [List.getD, List.getElem?_eq_getElem h2]; rfl
  rw [e2, sgB_at ⟨d, h⟩]
theorem sgD_in : ∀ i : Fin 11, ((sgD i.val).toNat : Int) ∈ lxSigns := by decide
theorem sgD_out (c : Int) (h : ∀ j, j < 11 → ((sgD j).toNat : Int) ≠ c) : ¬ c ∈ lxSigns := by
  intro hm
  simp only [lxSigns, List.mem_cons, List.not_mem_nil, or_false] at hm
  rcases hm with e | e | e | e | e | e | e | e | e | e | e
  · exact h 0 (by decide) (by rw [e]; rfl)
  · exact h 1 (by decide) (by rw [e]; rfl)
  · exact h 2 (by decide) (by rw [e]; rfl)
  · exact h 3 (by decide) (by rw [e]; rfl)
  · exact h 4 (by decide) (by rw [e]; rfl)
  · exact h 5 (by decide) (by rw [e]; rfl)
  · exact h 6 (by decide) (by rw [e]; rfl)
  · exact h 7 (by decide) (by rw [e]; rfl)
  · exact h 8 (by decide) (by rw [e]; rfl)
  · exact h 9 (by decide) (by rw [e]; rfl)
  · exact h 10 (by decide) (by rw [e]; rfl)
theorem ext_two (s : ByteArray) (l : List UInt8) : ((s.extract 0 2).toList == l) = decide (s.data.toList.take 2 = l) := by
  rw [ByteArray.toList_eq, ByteArray.data_extract, Array.toList_extract]
  simp only [List.extract_eq_take_drop, List.drop_zero, Nat.sub_zero]
  by_cases h : s.data.toList.take 2 = l
  · rw [h]; simp
  · rw [decide_eq_false h, beq_eq_false_iff_ne.2 h]
/-- No name, number, point, quote. -/
def SignLike (c : Int) : Prop := lxLetter c = false ∧ lxDigit c = false ∧ c ≠ 46 ∧ c ≠ 34
theorem oneL_like {c : UInt8} {r : List UInt8} (h : SignLike c.toNat) : oneL (c :: r) = if isShift (c :: r) = true then .ok (⟨3, strL ((c :: r).take 2), 0, 0⟩, 2) else if (c.toNat : Int) ∈ lxSigns then .ok (⟨3, strL [c], 0, 0⟩, 1) else .error 11 := by
  unfold oneL; dsimp only; rw [if_neg (by rw [h.1]; decide), if_neg (by rw [h.2.1]; decide), if_neg h.2.2.1, if_neg h.2.2.2]
set_option maxHeartbeats 2000000 in
set_option maxRecDepth 100000 in
theorem rone_sign (s : ByteArray) (h0 : 0 < s.size) (hs : s.size ≤ 140737488355328) (w : World) (hk : SignLike (s[0]'h0).toNat) : Calls Tryz.prog 31 #[.string s] w fun e w' => OneR s.data.toList e ∧ Keep w w' := by
  have HL := Lib.hid (list_at s h0)
  have CL := Lib.hid (fun W => rletter_any (s[0]'h0).toNat W)
  have CD := Lib.hid (fun W => rdigit_any (s[0]'h0).toNat W)
  rw [hk.1] at CL
  rw [hk.2.1] at CD
  have p1 : (((s[0]'h0).toNat : Int) == 46) = false := beq_eq_false_iff_ne.2 hk.2.2.1
  have p2 : (((s[0]'h0).toNat : Int) == 34) = false := beq_eq_false_iff_ne.2 hk.2.2.2
  have q := oneL_like (r := s.data.toList.drop 1) hk
  rw [← HL.out] at q
  clear hk
  have B0 : Box (w.alloc (.cells #[.int .i64 0, .string ⟨#[]⟩, .int .i64 0, .int .i64 0] 56)) w.heap.size #[.int .i64 0, .string ⟨#[]⟩, .int .i64 0, .int .i64 0] := Box.new _ _ _
  have r0 := B0.cells
  have rf := B0.thawed
  by_cases h1 : 1 < s.size
  · have e1 := ext_two s [60, 60]
    have e2 := ext_two s [62, 62]
    have hs2 : isShift s.data.toList = (((s.extract 0 2).toList == [60, 60]) || ((s.extract 0 2).toList == [62, 62])) := by rw [e1, e2]; rfl
    clear e1 e2
    rcases Bool.eq_false_or_eq_true ((s.extract 0 2).toList == [60, 60]) with a | a
    · have hsh : isShift s.data.toList = true := by rw [hs2, a]; rfl
      clear hs2
      have E : oneL s.data.toList = .ok (⟨3, s.extract 0 2, 0, 0⟩, 2) := by
        rw [q, if_pos hsh, ext_take, List.drop_zero]
      have HE := Lib.hid E
      clear E q hsh
      go_enter Tryz.func31, Tryz.ntmps31
      go_wp2_with (first | ((with_reducible refine (CL.out _).mono ?_); rintro e w' ⟨rfl, rfl⟩) | ((with_reducible refine (CD.out _).mono ?_); rintro e w' ⟨rfl, rfl⟩))
      refine bodyPost_ret (v := .tuple #[.agg #[.int .i64 3, .string (s.extract 0 2), .int .i64 0, .int .i64 0], .int .i64 2, .int .i64 0]) (by simp [results, Tryz.results31, go_sem, r0]; done) rfl ⟨OneR.ok HE.out, ?_⟩
      repeat (with_reducible refine Keep.setAt ?_ ?_ _; · first | omega | (simp; done) | (simp; omega))
      exact (Keep.refl _).alloc _
    · rcases Bool.eq_false_or_eq_true ((s.extract 0 2).toList == [62, 62]) with b | b
      · have hsh : isShift s.data.toList = true := by rw [hs2, a, b]; rfl
        clear hs2
        have E : oneL s.data.toList = .ok (⟨3, s.extract 0 2, 0, 0⟩, 2) := by
          rw [q, if_pos hsh, ext_take, List.drop_zero]
        have HE := Lib.hid E
        clear E q hsh
        go_enter Tryz.func31, Tryz.ntmps31
        go_wp2_with (first | ((with_reducible refine (CL.out _).mono ?_); rintro e w' ⟨rfl, rfl⟩) | ((with_reducible refine (CD.out _).mono ?_); rintro e w' ⟨rfl, rfl⟩))
        refine bodyPost_ret (v := .tuple #[.agg #[.int .i64 3, .string (s.extract 0 2), .int .i64 0, .int .i64 0], .int .i64 2, .int .i64 0]) (by simp [results, Tryz.results31, go_sem, r0]; done) rfl ⟨OneR.ok HE.out, ?_⟩
        repeat (with_reducible refine Keep.setAt ?_ ?_ _; · first | omega | (simp; done) | (simp; omega))
        exact (Keep.refl _).alloc _
      · have hsh : isShift s.data.toList = false := by rw [hs2, a, b]; rfl
        clear hs2
        rw [if_neg (by rw [hsh]; decide)] at q
        have HQ := Lib.hid q
        clear q hsh
        go_enter Tryz.func31, Tryz.ntmps31
        go_wp2_with (first | ((with_reducible refine (CL.out _).mono ?_); rintro e w' ⟨rfl, rfl⟩) | ((with_reducible refine (CD.out _).mono ?_); rintro e w' ⟨rfl, rfl⟩))
        clear CL CD p1 p2
        go_loop [11] (fun i => ∃ k : Nat, k ≤ 11 ∧ i = .int .i64 (k : Int) ∧ ∀ j, j < k → ((sgD j).toNat : Int) ≠ (s[0]'h0).toNat) (fun i => 11 - (intOf i).toNat)
        case atStart => exact ⟨0, by decide, rfl, fun j hj => absurd hj (by omega)⟩
        case round =>
          obtain ⟨k, hk, rfl, hno⟩ := hrel
          have HN := Lib.hid hno
          clear hno
          have k0 : (0 : Int) ≤ (k : Int) := Int.natCast_nonneg _
          by_cases h : k < 11
          · have k1 : (k : Int) < 11 := by omega
            have hi := sgB_get k h (by rw [sgB_size]; exact h)
            unfold sgB at hi
            obtain ⟨v, hv⟩ : ∃ v, v = sgD k := ⟨_, rfl⟩
            rw [← hv] at hi
            have HV := Lib.hid hv
            clear hv
            rcases Bool.eq_false_or_eq_true ((v.toNat : Int) == ((s[0]'h0).toNat : Int)) with d | d
            · have E : oneL s.data.toList = .ok (⟨3, s.extract 0 1, 0, 0⟩, 1) := by
                have hm : ((s[0]'h0).toNat : Int) ∈ lxSigns := by
                  have := sgD_in ⟨k, h⟩
                  rw [← HV.out, beq_iff_eq.1 d] at this
                  exact this
                rw [HQ.out, if_pos hm, ext_take, List.drop_zero, HL.out]
                rfl
              have HE := Lib.hid E
              clear E
              go_wp2_with fail
              refine bodyPost_ret (v := .tuple #[.agg #[.int .i64 3, .string (s.extract 0 1), .int .i64 0, .int .i64 0], .int .i64 1, .int .i64 0]) (by simp [results, Tryz.results31, go_sem, r0]; done) rfl ⟨OneR.ok HE.out, ?_⟩
              repeat (with_reducible refine Keep.setAt ?_ ?_ _; · first | omega | (simp; done) | (simp; omega))
              exact (Keep.refl _).alloc _
            · have HS : Hid (∀ j, j < k + 1 → ((sgD j).toNat : Int) ≠ (s[0]'h0).toNat) := Lib.hid (fun j hj => by
                by_cases e : j = k
                · rw [e, ← HV.out]; exact beq_eq_false_iff_ne.1 d
                · exact HN.out j (by omega))
              go_wp2_with fail
              go_round
              case rel => exact ⟨k + 1, h, by go_num, HS.out⟩
              case measure => simp [intOf]; omega
          · obtain rfl : k = 11 := by omega
            have E : oneL s.data.toList = .error 11 := by
              rw [HQ.out, if_neg (sgD_out _ HN.out)]
            have HE := Lib.hid E
            clear E
            go_wp2_with fail
            refine bodyPost_ret (v := .tuple #[.agg #[.int .i64 0, .string ⟨#[]⟩, .int .i64 0, .int .i64 0], .int .i64 0, .int .i64 11]) (by simp [results, Tryz.results31, go_sem, r0]; done) rfl ⟨OneR.bad HE.out zTok 0, ?_⟩
            repeat (with_reducible refine Keep.setAt ?_ ?_ _; · first | omega | (simp; done) | (simp; omega))
            exact (Keep.refl _).alloc _
  · have hsh : isShift s.data.toList = false := by
      have hl : s.data.toList.length = s.size := by simp
      unfold isShift
      rw [decide_eq_false (fun e => by have := congrArg List.length e; simp at this; omega), decide_eq_false (fun e => by have := congrArg List.length e; simp at this; omega)]
      rfl
    rw [if_neg (by rw [hsh]; decide)] at q
    have HQ := Lib.hid q
    clear q hsh
    go_enter Tryz.func31, Tryz.ntmps31
    go_wp2_with (first | ((with_reducible refine (CL.out _).mono ?_); rintro e w' ⟨rfl, rfl⟩) | ((with_reducible refine (CD.out _).mono ?_); rintro e w' ⟨rfl, rfl⟩))
    clear CL CD p1 p2
    go_loop [11] (fun i => ∃ k : Nat, k ≤ 11 ∧ i = .int .i64 (k : Int) ∧ ∀ j, j < k → ((sgD j).toNat : Int) ≠ (s[0]'h0).toNat) (fun i => 11 - (intOf i).toNat)
    case atStart => exact ⟨0, by decide, rfl, fun j hj => absurd hj (by omega)⟩
    case round =>
      obtain ⟨k, hk, rfl, hno⟩ := hrel
      have HN := Lib.hid hno
      clear hno
      have k0 : (0 : Int) ≤ (k : Int) := Int.natCast_nonneg _
      by_cases h : k < 11
      · have k1 : (k : Int) < 11 := by omega
        have hi := sgB_get k h (by rw [sgB_size]; exact h)
        unfold sgB at hi
        obtain ⟨v, hv⟩ : ∃ v, v = sgD k := ⟨_, rfl⟩
        rw [← hv] at hi
        have HV := Lib.hid hv
        clear hv
        rcases Bool.eq_false_or_eq_true ((v.toNat : Int) == ((s[0]'h0).toNat : Int)) with d | d
        · have E : oneL s.data.toList = .ok (⟨3, s.extract 0 1, 0, 0⟩, 1) := by
            have hm : ((s[0]'h0).toNat : Int) ∈ lxSigns := by
              have := sgD_in ⟨k, h⟩
              rw [← HV.out, beq_iff_eq.1 d] at this
              exact this
            rw [HQ.out, if_pos hm, ext_take, List.drop_zero, HL.out]
            rfl
          have HE := Lib.hid E
          clear E
          go_wp2_with fail
          refine bodyPost_ret (v := .tuple #[.agg #[.int .i64 3, .string (s.extract 0 1), .int .i64 0, .int .i64 0], .int .i64 1, .int .i64 0]) (by simp [results, Tryz.results31, go_sem, r0]; done) rfl ⟨OneR.ok HE.out, ?_⟩
          repeat (with_reducible refine Keep.setAt ?_ ?_ _; · first | omega | (simp; done) | (simp; omega))
          exact (Keep.refl _).alloc _
        · have HS : Hid (∀ j, j < k + 1 → ((sgD j).toNat : Int) ≠ (s[0]'h0).toNat) := Lib.hid (fun j hj => by
            by_cases e : j = k
            · rw [e, ← HV.out]; exact beq_eq_false_iff_ne.1 d
            · exact HN.out j (by omega))
          go_wp2_with fail
          go_round
          case rel => exact ⟨k + 1, h, by go_num, HS.out⟩
          case measure => simp [intOf]; omega
      · obtain rfl : k = 11 := by omega
        have E : oneL s.data.toList = .error 11 := by
          rw [HQ.out, if_neg (sgD_out _ HN.out)]
        have HE := Lib.hid E
        clear E
        go_wp2_with fail
        refine bodyPost_ret (v := .tuple #[.agg #[.int .i64 0, .string ⟨#[]⟩, .int .i64 0, .int .i64 0], .int .i64 0, .int .i64 11]) (by simp [results, Tryz.results31, go_sem, r0]; done) rfl ⟨OneR.bad HE.out zTok 0, ?_⟩
        repeat (with_reducible refine Keep.setAt ?_ ?_ _; · first | omega | (simp; done) | (simp; omega))
        exact (Keep.refl _).alloc _
theorem rone_any (s : ByteArray) (h0 : 0 < s.size) (hs : s.size ≤ 140737488355328) (w : World) : Calls Tryz.prog 31 #[.string s] w fun e w' => OneR s.data.toList e ∧ Keep w w' := by
  rcases Bool.eq_false_or_eq_true (lxLetter (s[0]'h0).toNat) with a | a
  · exact rone_name s h0 hs w a
  · rcases Bool.eq_false_or_eq_true (lxDigit (s[0]'h0).toNat) with b | b
    · exact rone_num s h0 hs w a b
    · by_cases c : ((s[0]'h0).toNat : Int) = 46
      · exact rone_dot s h0 hs w a b c
      · by_cases d : ((s[0]'h0).toNat : Int) = 34
        · exact rone_quote s h0 hs w a b d
        · exact rone_sign s h0 hs w ⟨a, b, c, d⟩
end Go.Proofs.YtcdepfdfemmfhaaGreatDoor
