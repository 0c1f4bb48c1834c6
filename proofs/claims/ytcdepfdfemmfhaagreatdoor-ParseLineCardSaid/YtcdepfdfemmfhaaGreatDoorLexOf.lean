/- The reference's one: the word that a text begins with. -/
import Derived.Test.YtcdepfdfemmfhaaGreatDoorLexQuo
import Derived.Lib.Strings
namespace Go.Proofs.YtcdepfdfemmfhaaGreatDoor
set_option linter.unusedVariables false
set_option linter.unusedSimpArgs false
open Go.RowKit
def tokV (t : Tok) : Value := .agg #[.int .i64 t.kind, .string t.text, .int .i64 t.n, .int .i64 t.pl]
/-- What one answers. -/
def OneR (l : List UInt8) (e : Ending) : Prop := match oneL l with
  | .error x => ∃ t n, e = .returned (.tuple #[tokV t, .int .i64 n, .int .i64 x])
  | .ok (t, k) => e = .returned (.tuple #[tokV t, .int .i64 k, .int .i64 0])
theorem OneR.ok {l : List UInt8} {t : Tok} {k : Nat} (h : oneL l = .ok (t, k)) : OneR l (.returned (.tuple #[tokV t, .int .i64 k, .int .i64 0])) := by unfold OneR; rw [h]
theorem OneR.bad {l : List UInt8} {x : Int} (h : oneL l = .error x) (t : Tok) (n : Int) : OneR l (.returned (.tuple #[tokV t, .int .i64 n, .int .i64 x])) := by unfold OneR; rw [h]; exact ⟨t, n, rfl⟩
theorem ext_take (s : ByteArray) (a b : Nat) : s.extract a b = strL ((s.data.toList.drop a).take (b - a)) := by
  apply ByteArray.ext
  apply Array.ext'
  rw [ByteArray.data_extract, Array.toList_extract]
  simp [strL, List.extract_eq_take_drop]
theorem span_at {p : Int → Bool} (s : ByteArray) (k : Nat) (h : k < s.size) (hp : p (s[k]'h).toNat = true) : spanL p (s.data.toList.drop k) = spanL p (s.data.toList.drop (k + 1)) + 1 := by
  rw [drop_at s k h, spanL, if_pos hp]
theorem span_no {p : Int → Bool} (s : ByteArray) (k : Nat) (h : k < s.size) (hp : p (s[k]'h).toNat = false) : spanL p (s.data.toList.drop k) = 0 := by
  rw [drop_at s k h, spanL, if_neg (by rw [hp]; decide)]
theorem span_end {p : Int → Bool} (s : ByteArray) (k : Nat) (h : s.size ≤ k) : spanL p (s.data.toList.drop k) = 0 := by
  rw [drop_end s k h]; rfl
theorem list_at (s : ByteArray) (h : 0 < s.size) : s.data.toList = s[0] :: s.data.toList.drop 1 := by
  have := drop_at s 0 h
  rwa [List.drop_zero] at this
def zTok : Tok := ⟨0, ⟨#[]⟩, 0, 0⟩
set_option maxHeartbeats 2000000 in
set_option maxRecDepth 100000 in
theorem rone_name (s : ByteArray) (h0 : 0 < s.size) (hs : s.size ≤ 140737488355328) (w : World) (hlet : lxLetter (s[0]'h0).toNat = true) : Calls Tryz.prog 31 #[.string s] w fun e w' => OneR s.data.toList e ∧ Keep w w' := by
  have HL := Lib.hid (list_at s h0)
  have CL := Lib.hid (fun W => rletter_any (s[0]'h0).toNat W)
  rw [hlet] at CL
  have B0 : Box (w.alloc (.cells #[.int .i64 0, .string ⟨#[]⟩, .int .i64 0, .int .i64 0] 56)) w.heap.size #[.int .i64 0, .string ⟨#[]⟩, .int .i64 0, .int .i64 0] := Box.new _ _ _
  have r0 := B0.cells
  have rf := B0.thawed
  have hlet' := Lib.hid hlet
  clear hlet
  go_enter Tryz.func31, Tryz.ntmps31
  go_wp2_with ((with_reducible refine (CL.out _).mono ?_); rintro e w' ⟨rfl, rfl⟩)
  clear CL
  go_loop [6] (fun i => ∃ k : Nat, 1 ≤ k ∧ k ≤ s.size ∧ i = .int .i64 (k : Int) ∧ spanL lxWord (s.data.toList.drop 1) + 1 = k + spanL lxWord (s.data.toList.drop k)) (fun i => s.size - (intOf i).toNat)
  case atStart => exact ⟨1, by omega, by omega, rfl, by omega⟩
  case round =>
    obtain ⟨k, hk1, hk, rfl, hi⟩ := hrel
    have HN := Lib.hid hi
    clear hi
    by_cases h : k < s.size
    · obtain ⟨y, hy⟩ : ∃ y, y = lxLetter (s[k]'h).toNat := ⟨_, rfl⟩
      obtain ⟨z, hz⟩ : ∃ z, z = lxDigit (s[k]'h).toNat := ⟨_, rfl⟩
      have hw : lxWord (s[k]'h).toNat = (y || z || (((s[k]'h).toNat : Int) == 46)) := by rw [hy, hz]; rfl
      have CLk := Lib.hid (fun W => rletter_any (s[k]'h).toNat W)
      have CDk := Lib.hid (fun W => rdigit_any (s[k]'h).toNat W)
      rw [← hy] at CLk
      rw [← hz] at CDk
      clear hy hz
      cases y
      · cases z
        · rcases Bool.eq_false_or_eq_true (((s[k]'h).toNat : Int) == 46) with d | d
          · have st := span_at (p := lxWord) s k h (by rw [hw, d]; rfl)
            have HS : Hid (spanL lxWord (s.data.toList.drop 1) + 1 = k + 1 + spanL lxWord (s.data.toList.drop (k + 1))) := Lib.hid (by have := HN.out; omega)
            clear st hw
            go_wp2_with (first | ((with_reducible refine (CLk.out _).mono ?_); rintro e w' ⟨rfl, rfl⟩) | ((with_reducible refine (CDk.out _).mono ?_); rintro e w' ⟨rfl, rfl⟩))
            go_round
            case rel => exact ⟨k + 1, by omega, h, by go_num, HS.out⟩
            case measure => simp [intOf]; omega
          · have st := span_no (p := lxWord) s k h (by rw [hw, d]; rfl)
            have sp := HN.out
            rw [st, Nat.add_zero] at sp
            have hlet := hlet'.out
            clear st hw
            by_cases big : 16 < k
            · have E : oneL s.data.toList = .error 15 := by
                rw [HL.out]; unfold oneL; dsimp only; rw [if_pos hlet, if_pos (by omega)]
              have HE := Lib.hid E
              clear E sp hlet
              go_wp2_with (first | ((with_reducible refine (CLk.out _).mono ?_); rintro e w' ⟨rfl, rfl⟩) | ((with_reducible refine (CDk.out _).mono ?_); rintro e w' ⟨rfl, rfl⟩))
              refine bodyPost_ret (v := .tuple #[.agg #[.int .i64 0, .string ⟨#[]⟩, .int .i64 0, .int .i64 0], .int .i64 0, .int .i64 15]) (by simp [results, Tryz.results31, go_sem, r0]; done) rfl ⟨OneR.bad HE.out zTok 0, ?_⟩
              repeat (with_reducible refine Keep.setAt ?_ ?_ _; · first | omega | (simp; done) | (simp; omega))
              exact (Keep.refl _).alloc _
            · have E : oneL s.data.toList = .ok (⟨1, s.extract 0 k, 0, 0⟩, k) := by
                rw [ext_take, List.drop_zero, HL.out]; unfold oneL; dsimp only; rw [if_pos hlet, if_neg (by omega)]
                have : k - 0 = spanL lxWord (s.data.toList.drop 1) + 1 := by omega
                rw [this, List.take_succ_cons, show spanL lxWord (s.data.toList.drop 1) + 1 = k by omega]
              have HE := Lib.hid E
              clear E sp hlet
              go_wp2_with (first | ((with_reducible refine (CLk.out _).mono ?_); rintro e w' ⟨rfl, rfl⟩) | ((with_reducible refine (CDk.out _).mono ?_); rintro e w' ⟨rfl, rfl⟩))
              refine bodyPost_ret (v := .tuple #[.agg #[.int .i64 1, .string (s.extract 0 k), .int .i64 0, .int .i64 0], .int .i64 k, .int .i64 0]) (by simp [results, Tryz.results31, go_sem, r0]; done) rfl ⟨OneR.ok HE.out, ?_⟩
              repeat (with_reducible refine Keep.setAt ?_ ?_ _; · first | omega | (simp; done) | (simp; omega))
              exact (Keep.refl _).alloc _
        · have st := span_at (p := lxWord) s k h (by rw [hw]; rfl)
          have HS : Hid (spanL lxWord (s.data.toList.drop 1) + 1 = k + 1 + spanL lxWord (s.data.toList.drop (k + 1))) := Lib.hid (by have := HN.out; omega)
          clear st hw
          go_wp2_with (first | ((with_reducible refine (CLk.out _).mono ?_); rintro e w' ⟨rfl, rfl⟩) | ((with_reducible refine (CDk.out _).mono ?_); rintro e w' ⟨rfl, rfl⟩))
          go_round
          case rel => exact ⟨k + 1, by omega, h, by go_num, HS.out⟩
          case measure => simp [intOf]; omega
      · have st := span_at (p := lxWord) s k h (by rw [hw]; rfl)
        have HS : Hid (spanL lxWord (s.data.toList.drop 1) + 1 = k + 1 + spanL lxWord (s.data.toList.drop (k + 1))) := Lib.hid (by have := HN.out; omega)
        clear st hw
        go_wp2_with (first | ((with_reducible refine (CLk.out _).mono ?_); rintro e w' ⟨rfl, rfl⟩) | ((with_reducible refine (CDk.out _).mono ?_); rintro e w' ⟨rfl, rfl⟩))
        go_round
        case rel => exact ⟨k + 1, by omega, h, by go_num, HS.out⟩
        case measure => simp [intOf]; omega
    · have sp := HN.out
      rw [span_end s k (by omega), Nat.add_zero] at sp
      have hlet := hlet'.out
      by_cases big : 16 < k
      · have E : oneL s.data.toList = .error 15 := by
          rw [HL.out]; unfold oneL; dsimp only; rw [if_pos hlet, if_pos (by omega)]
        have HE := Lib.hid E
        clear E sp hlet
        go_wp2_with fail
        refine bodyPost_ret (v := .tuple #[.agg #[.int .i64 0, .string ⟨#[]⟩, .int .i64 0, .int .i64 0], .int .i64 0, .int .i64 15]) (by simp [results, Tryz.results31, go_sem, r0]; done) rfl ⟨OneR.bad HE.out zTok 0, ?_⟩
        repeat (with_reducible refine Keep.setAt ?_ ?_ _; · first | omega | (simp; done) | (simp; omega))
        exact (Keep.refl _).alloc _
      · have E : oneL s.data.toList = .ok (⟨1, s.extract 0 k, 0, 0⟩, k) := by
          rw [ext_take, List.drop_zero, HL.out]; unfold oneL; dsimp only; rw [if_pos hlet, if_neg (by omega)]
          have : k - 0 = spanL lxWord (s.data.toList.drop 1) + 1 := by omega
          rw [this, List.take_succ_cons, show spanL lxWord (s.data.toList.drop 1) + 1 = k by omega]
        have HE := Lib.hid E
        clear E sp hlet
        go_wp2_with fail
        refine bodyPost_ret (v := .tuple #[.agg #[.int .i64 1, .string (s.extract 0 k), .int .i64 0, .int .i64 0], .int .i64 k, .int .i64 0]) (by simp [results, Tryz.results31, go_sem, r0]; done) rfl ⟨OneR.ok HE.out, ?_⟩
        repeat (with_reducible refine Keep.setAt ?_ ?_ _; · first | omega | (simp; done) | (simp; omega))
        exact (Keep.refl _).alloc _
set_option maxHeartbeats 2000000 in
set_option maxRecDepth 100000 in
theorem rone_num (s : ByteArray) (h0 : 0 < s.size) (hs : s.size ≤ 140737488355328) (w : World) (hlet : lxLetter (s[0]'h0).toNat = false) (hdig : lxDigit (s[0]'h0).toNat = true) : Calls Tryz.prog 31 #[.string s] w fun e w' => OneR s.data.toList e ∧ Keep w w' := by
  have HL := Lib.hid (list_at s h0)
  have CL := Lib.hid (fun W => rletter_any (s[0]'h0).toNat W)
  rw [hlet] at CL
  have CD := Lib.hid (fun W => rdigit_any (s[0]'h0).toNat W)
  rw [hdig] at CD
  have hnl : numLen s.data.toList ≤ s.size := by simpa using numLen_le s.data.toList
  have E : OneR s.data.toList (.returned (.tuple #[.agg #[.int .i64 2, .string (s.extract 0 (numLen s.data.toList)), .int .i64 (if numErr s.data.toList = 0 then numVal s.data.toList else 0), .int .i64 0], .int .i64 (numLen s.data.toList), .int .i64 (numErr s.data.toList)])) := by
    have q : oneL s.data.toList = if numErr s.data.toList = 0 then .ok (⟨2, s.extract 0 (numLen s.data.toList), numVal s.data.toList, 0⟩, numLen s.data.toList) else .error (numErr s.data.toList) := by
      rw [ext_take, List.drop_zero, HL.out]; unfold oneL; dsimp only; rw [if_neg (by rw [hlet]; decide), if_pos hdig]
      rfl
    by_cases h : numErr s.data.toList = 0
    · rw [if_pos h] at q ⊢
      rw [h]
      exact OneR.ok q
    · rw [if_neg h] at q ⊢
      exact OneR.bad q ⟨2, s.extract 0 (numLen s.data.toList), 0, 0⟩ _
  have CN := Lib.hid (fun W => rnumber_any s hs W)
  unfold numV at CN
  obtain ⟨N, hN⟩ : ∃ N, N = numLen s.data.toList := ⟨_, rfl⟩
  obtain ⟨V, hV⟩ : ∃ V, V = (if numErr s.data.toList = 0 then numVal s.data.toList else 0) := ⟨_, rfl⟩
  obtain ⟨X, hX⟩ : ∃ X, X = numErr s.data.toList := ⟨_, rfl⟩
  rw [← hN, ← hV, ← hX] at CN E
  rw [← hN] at hnl
  have HE := Lib.hid E
  clear E hN hV hX hlet hdig
  have B0 : Box (w.alloc (.cells #[.int .i64 0, .string ⟨#[]⟩, .int .i64 0, .int .i64 0] 56)) w.heap.size #[.int .i64 0, .string ⟨#[]⟩, .int .i64 0, .int .i64 0] := Box.new _ _ _
  have r0 := B0.cells
  have rf := B0.thawed
  go_enter Tryz.func31, Tryz.ntmps31
  go_wp2_with (first | ((with_reducible refine (CL.out _).mono ?_); rintro e w' ⟨rfl, rfl⟩) | ((with_reducible refine (CD.out _).mono ?_); rintro e w' ⟨rfl, rfl⟩) | ((with_reducible refine (CN.out _).mono ?_); rintro e w' ⟨rfl, rfl⟩))
  refine bodyPost_ret (v := .tuple #[.agg #[.int .i64 2, .string (s.extract 0 N), .int .i64 V, .int .i64 0], .int .i64 N, .int .i64 X]) (by simp [results, Tryz.results31, go_sem, r0]; done) rfl ⟨HE.out, ?_⟩
  repeat (with_reducible refine Keep.setAt ?_ ?_ _; · first | omega | (simp; done) | (simp; omega))
  exact (Keep.refl _).alloc _
set_option maxHeartbeats 2000000 in
set_option maxRecDepth 100000 in
theorem rone_dot (s : ByteArray) (h0 : 0 < s.size) (hs : s.size ≤ 140737488355328) (w : World) (hlet : lxLetter (s[0]'h0).toNat = false) (hdig : lxDigit (s[0]'h0).toNat = false) (hp : ((s[0]'h0).toNat : Int) = 46) : Calls Tryz.prog 31 #[.string s] w fun e w' => OneR s.data.toList e ∧ Keep w w' := by
  have HL := Lib.hid (list_at s h0)
  have CL := Lib.hid (fun W => rletter_any (s[0]'h0).toNat W)
  rw [hlet] at CL
  have CD := Lib.hid (fun W => rdigit_any (s[0]'h0).toNat W)
  rw [hdig] at CD
  have hp' : (((s[0]'h0).toNat : Int) == 46) = true := beq_iff_eq.2 hp
  have HP := Lib.hid (And.intro hlet (And.intro hdig hp))
  clear hp hlet hdig
  have B0 : Box (w.alloc (.cells #[.int .i64 0, .string ⟨#[]⟩, .int .i64 0, .int .i64 0] 56)) w.heap.size #[.int .i64 0, .string ⟨#[]⟩, .int .i64 0, .int .i64 0] := Box.new _ _ _
  have r0 := B0.cells
  have rf := B0.thawed
  go_enter Tryz.func31, Tryz.ntmps31
  go_wp2_with (first | ((with_reducible refine (CL.out _).mono ?_); rintro e w' ⟨rfl, rfl⟩) | ((with_reducible refine (CD.out _).mono ?_); rintro e w' ⟨rfl, rfl⟩))
  clear CL CD hp'
  go_loop [6] (fun i => ∃ k : Nat, 1 ≤ k ∧ k ≤ s.size ∧ i = .int .i64 (k : Int) ∧ spanL lxSmall (s.data.toList.drop 1) + 1 = k + spanL lxSmall (s.data.toList.drop k)) (fun i => s.size - (intOf i).toNat)
  case atStart => exact ⟨1, by omega, by omega, rfl, by omega⟩
  case round =>
    obtain ⟨k, hk1, hk, rfl, hi⟩ := hrel
    have HN := Lib.hid hi
    clear hi
    by_cases h : k < s.size
    · obtain ⟨b0, b1⟩ := byte_bd (s[k]'h)
      have hw : lxSmall (s[k]'h).toNat = (decide (97 ≤ ((s[k]'h).toNat : Int)) && decide (((s[k]'h).toNat : Int) ≤ 122)) := rfl
      by_cases lo : 97 ≤ ((s[k]'h).toNat : Int)
      · by_cases hi : ((s[k]'h).toNat : Int) ≤ 122
        · have st := span_at (p := lxSmall) s k h (by rw [hw, decide_eq_true lo, decide_eq_true hi]; rfl)
          have HS : Hid (spanL lxSmall (s.data.toList.drop 1) + 1 = k + 1 + spanL lxSmall (s.data.toList.drop (k + 1))) := Lib.hid (by have := HN.out; omega)
          clear st hw
          go_wp2_with fail
          go_round
          case rel => exact ⟨k + 1, by omega, h, by go_num, HS.out⟩
          case measure => simp [intOf]; omega
        · have st := span_no (p := lxSmall) s k h (by rw [hw, decide_eq_false hi]; simp)
          have hi' : decide (((s[k]'h).toNat : Int) ≤ 122) = false := decide_eq_false hi
          have sp := HN.out
          rw [st, Nat.add_zero] at sp
          have hlet := HP.out.1
          have hdig := HP.out.2.1
          have hp := HP.out.2.2
          clear st hw
          by_cases one : k = 1
          · have E : oneL s.data.toList = .error 11 := by
              rw [HL.out]; unfold oneL; dsimp only; rw [if_neg (by rw [hlet]; decide), if_neg (by rw [hdig]; decide), if_pos hp, if_pos (by omega)]
            have HE := Lib.hid E
            subst one
            clear E sp hlet hdig hp
            go_wp2_with fail
            refine bodyPost_ret (v := .tuple #[.agg #[.int .i64 0, .string ⟨#[]⟩, .int .i64 0, .int .i64 0], .int .i64 0, .int .i64 11]) (by simp [results, Tryz.results31, go_sem, r0]; done) rfl ⟨OneR.bad HE.out zTok 0, ?_⟩
            repeat (with_reducible refine Keep.setAt ?_ ?_ _; · first | omega | (simp; done) | (simp; omega))
            exact (Keep.refl _).alloc _
          · have E : oneL s.data.toList = .ok (⟨4, s.extract 1 k, 0, 0⟩, k) := by
              rw [ext_take, HL.out]; unfold oneL; dsimp only; rw [if_neg (by rw [hlet]; decide), if_neg (by rw [hdig]; decide), if_pos hp, if_neg (by omega)]
              rw [show k - 1 = spanL lxSmall (s.data.toList.drop 1) by omega, List.drop_succ_cons, List.drop_zero, show spanL lxSmall (s.data.toList.drop 1) + 1 = k by omega]
            have HE := Lib.hid E
            have one' : (((k : Nat) : Int) == 1) = false := by simp; omega
            have k1 : (1 : Int) ≤ (k : Int) := by omega
            have k2 : (k : Int) ≤ (s.size : Int) := by omega
            clear E sp hlet hdig hp one
            go_wp2_with fail
            refine bodyPost_ret (v := .tuple #[.agg #[.int .i64 4, .string (s.extract 1 k), .int .i64 0, .int .i64 0], .int .i64 k, .int .i64 0]) (by simp [results, Tryz.results31, go_sem, r0]; done) rfl ⟨OneR.ok HE.out, ?_⟩
            repeat (with_reducible refine Keep.setAt ?_ ?_ _; · first | omega | (simp; done) | (simp; omega))
            exact (Keep.refl _).alloc _
      · have st := span_no (p := lxSmall) s k h (by rw [hw, decide_eq_false lo]; simp)
        have lo' : decide (97 ≤ ((s[k]'h).toNat : Int)) = false := decide_eq_false lo
        have sp := HN.out
        rw [st, Nat.add_zero] at sp
        have hlet := HP.out.1
        have hdig := HP.out.2.1
        have hp := HP.out.2.2
        clear st hw
        by_cases one : k = 1
        · have E : oneL s.data.toList = .error 11 := by
            rw [HL.out]; unfold oneL; dsimp only; rw [if_neg (by rw [hlet]; decide), if_neg (by rw [hdig]; decide), if_pos hp, if_pos (by omega)]
          have HE := Lib.hid E
          subst one
          clear E sp hlet hdig hp
          go_wp2_with fail
          refine bodyPost_ret (v := .tuple #[.agg #[.int .i64 0, .string ⟨#[]⟩, .int .i64 0, .int .i64 0], .int .i64 0, .int .i64 11]) (by simp [results, Tryz.results31, go_sem, r0]; done) rfl ⟨OneR.bad HE.out zTok 0, ?_⟩
          repeat (with_reducible refine Keep.setAt ?_ ?_ _; · first | omega | (simp; done) | (simp; omega))
          exact (Keep.refl _).alloc _
        · have E : oneL s.data.toList = .ok (⟨4, s.extract 1 k, 0, 0⟩, k) := by
            rw [ext_take, HL.out]; unfold oneL; dsimp only; rw [if_neg (by rw [hlet]; decide), if_neg (by rw [hdig]; decide), if_pos hp, if_neg (by omega)]
            rw [show k - 1 = spanL lxSmall (s.data.toList.drop 1) by omega, List.drop_succ_cons, List.drop_zero, show spanL lxSmall (s.data.toList.drop 1) + 1 = k by omega]
          have HE := Lib.hid E
          have one' : (((k : Nat) : Int) == 1) = false := by simp; omega
          have k1 : (1 : Int) ≤ (k : Int) := by omega
          have k2 : (k : Int) ≤ (s.size : Int) := by omega
          clear E sp hlet hdig hp one
          go_wp2_with fail
          refine bodyPost_ret (v := .tuple #[.agg #[.int .i64 4, .string (s.extract 1 k), .int .i64 0, .int .i64 0], .int .i64 k, .int .i64 0]) (by simp [results, Tryz.results31, go_sem, r0]; done) rfl ⟨OneR.ok HE.out, ?_⟩
          repeat (with_reducible refine Keep.setAt ?_ ?_ _; · first | omega | (simp; done) | (simp; omega))
          exact (Keep.refl _).alloc _
    · have sp := HN.out
      rw [span_end s k (by omega), Nat.add_zero] at sp
      have hlet := HP.out.1
      have hdig := HP.out.2.1
      have hp := HP.out.2.2
      by_cases one : k = 1
      · have E : oneL s.data.toList = .error 11 := by
          rw [HL.out]; unfold oneL; dsimp only; rw [if_neg (by rw [hlet]; decide), if_neg (by rw [hdig]; decide), if_pos hp, if_pos (by omega)]
        have HE := Lib.hid E
        subst one
        clear E sp hlet hdig hp
        go_wp2_with fail
        refine bodyPost_ret (v := .tuple #[.agg #[.int .i64 0, .string ⟨#[]⟩, .int .i64 0, .int .i64 0], .int .i64 0, .int .i64 11]) (by simp [results, Tryz.results31, go_sem, r0]; done) rfl ⟨OneR.bad HE.out zTok 0, ?_⟩
        repeat (with_reducible refine Keep.setAt ?_ ?_ _; · first | omega | (simp; done) | (simp; omega))
        exact (Keep.refl _).alloc _
      · have E : oneL s.data.toList = .ok (⟨4, s.extract 1 k, 0, 0⟩, k) := by
          rw [ext_take, HL.out]; unfold oneL; dsimp only; rw [if_neg (by rw [hlet]; decide), if_neg (by rw [hdig]; decide), if_pos hp, if_neg (by omega)]
          rw [show k - 1 = spanL lxSmall (s.data.toList.drop 1) by omega, List.drop_succ_cons, List.drop_zero, show spanL lxSmall (s.data.toList.drop 1) + 1 = k by omega]
        have HE := Lib.hid E
        have one' : (((k : Nat) : Int) == 1) = false := by simp; omega
        have k1 : (1 : Int) ≤ (k : Int) := by omega
        have k2 : (k : Int) ≤ (s.size : Int) := by omega
        clear E sp hlet hdig hp one
        go_wp2_with fail
        refine bodyPost_ret (v := .tuple #[.agg #[.int .i64 4, .string (s.extract 1 k), .int .i64 0, .int .i64 0], .int .i64 k, .int .i64 0]) (by simp [results, Tryz.results31, go_sem, r0]; done) rfl ⟨OneR.ok HE.out, ?_⟩
        repeat (with_reducible refine Keep.setAt ?_ ?_ _; · first | omega | (simp; done) | (simp; omega))
        exact (Keep.refl _).alloc _
set_option maxHeartbeats 2000000 in
set_option maxRecDepth 100000 in
theorem rone_quote (s : ByteArray) (h0 : 0 < s.size) (hs : s.size ≤ 140737488355328) (w : World) (hlet : lxLetter (s[0]'h0).toNat = false) (hdig : lxDigit (s[0]'h0).toNat = false) (hp : ((s[0]'h0).toNat : Int) = 34) : Calls Tryz.prog 31 #[.string s] w fun e w' => OneR s.data.toList e ∧ Keep w w' := by
  have HL := Lib.hid (list_at s h0)
  have CL := Lib.hid (fun W => rletter_any (s[0]'h0).toNat W)
  rw [hlet] at CL
  have CD := Lib.hid (fun W => rdigit_any (s[0]'h0).toNat W)
  rw [hdig] at CD
  have hp1 : (((s[0]'h0).toNat : Int) == 46) = false := by rw [hp]; rfl
  have hp2 : (((s[0]'h0).toNat : Int) == 34) = true := beq_iff_eq.2 hp
  have CN := Lib.hid (fun W => rquoted_any s _ _ HL.out hs W)
  have B0 : Box (w.alloc (.cells #[.int .i64 0, .string ⟨#[]⟩, .int .i64 0, .int .i64 0] 56)) w.heap.size #[.int .i64 0, .string ⟨#[]⟩, .int .i64 0, .int .i64 0] := Box.new _ _ _
  have r0 := B0.cells
  have rf := B0.thawed
  cases hq : quoteEnd (s.data.toList.drop 1) with
  | none =>
    have E : oneL s.data.toList = .error 11 := by
      rw [HL.out]; unfold oneL; dsimp only; rw [if_neg (by rw [hlet]; decide), if_neg (by rw [hdig]; decide), if_neg (by omega), if_pos hp]; simp only [hq]
    have HE := Lib.hid E
    unfold quoV at CN
    rw [hq] at CN
    dsimp only at CN
    clear E hq hlet hdig hp
    go_enter Tryz.func31, Tryz.ntmps31
    go_wp2_with (first | ((with_reducible refine (CL.out _).mono ?_); rintro e w' ⟨rfl, rfl⟩) | ((with_reducible refine (CD.out _).mono ?_); rintro e w' ⟨rfl, rfl⟩) | ((with_reducible refine (CN.out _).mono ?_); rintro e w' ⟨rfl, rfl⟩))
    refine bodyPost_ret (v := .tuple #[.agg #[.int .i64 0, .string ⟨#[]⟩, .int .i64 0, .int .i64 0], .int .i64 0, .int .i64 11]) (by simp [results, Tryz.results31, go_sem, r0]; done) rfl ⟨OneR.bad HE.out zTok 0, ?_⟩
    repeat (with_reducible refine Keep.setAt ?_ ?_ _; · first | omega | (simp; done) | (simp; omega))
    exact (Keep.refl _).alloc _
  | some j =>
    have hj := quoteEnd_lt _ _ hq
    have hj2 : j + 2 ≤ s.size := by simp at hj; omega
    have E : oneL s.data.toList = .ok (⟨5, s.extract 1 (j + 1), 0, 0⟩, j + 2) := by
      rw [ext_take, HL.out]; unfold oneL; dsimp only; rw [if_neg (by rw [hlet]; decide), if_neg (by rw [hdig]; decide), if_neg (by omega), if_pos hp]; simp only [hq]
      rw [show j + 1 - 1 = j by omega, List.drop_succ_cons, List.drop_zero]
    have HE := Lib.hid E
    unfold quoV at CN
    rw [hq] at CN
    dsimp only at CN
    have j0 : (0 : Int) ≤ (j : Int) := Int.natCast_nonneg _
    have e1 : ((j : Int) + 2 - 1).toNat = j + 1 := by omega
    have e2 : (j : Int) + 2 - 1 ≤ (s.size : Int) := by omega
    have e3 : (1 : Int) ≤ (j : Int) + 2 - 1 := by omega
    clear E hq hlet hdig hp hj
    go_enter Tryz.func31, Tryz.ntmps31
    go_wp2_with (first | ((with_reducible refine (CL.out _).mono ?_); rintro e w' ⟨rfl, rfl⟩) | ((with_reducible refine (CD.out _).mono ?_); rintro e w' ⟨rfl, rfl⟩) | ((with_reducible refine (CN.out _).mono ?_); rintro e w' ⟨rfl, rfl⟩))
    refine bodyPost_ret (v := .tuple #[.agg #[.int .i64 5, .string (s.extract 1 (j + 1)), .int .i64 0, .int .i64 0], .int .i64 ((j + 2 : Nat) : Int), .int .i64 0]) (by simp [results, Tryz.results31, go_sem, r0]; done) rfl ⟨OneR.ok HE.out, ?_⟩
    repeat (with_reducible refine Keep.setAt ?_ ?_ _; · first | omega | (simp; done) | (simp; omega))
    exact (Keep.refl _).alloc _
end Go.Proofs.YtcdepfdfemmfhaaGreatDoor
