/- The program's name, dot, quoted: the word that a text begins with. -/
import Derived.Test.YtcdepfdfemmfhaaDoorLexSpn
import Derived.Test.YtcdepfdfemmfhaaDoorLexSpan
import Derived.Test.YtcdepfdfemmfhaaDoorLexOf
import Derived.Test.YtcdepfdfemmfhaaDoorGBase
namespace Go.Proofs.YtcdepfdfemmfhaaDoor
set_option linter.unusedVariables false
set_option linter.unusedSimpArgs false
open Go.RowKit
def errnoV (x : Int) : Value := .iface 55 (.int .i64 x)
/-- What the program's readers of one word answer. -/
def PoneR (l : List UInt8) (e : Ending) : Prop := match oneL l with
  | .error x => ∃ t n, e = .returned (.tuple #[tokV t, .int .i64 n, errnoV x])
  | .ok (t, k) => e = .returned (.tuple #[tokV t, .int .i64 k, .nilIface])
theorem PoneR.ok {l : List UInt8} {t : Tok} {k : Nat} (h : oneL l = .ok (t, k)) : PoneR l (.returned (.tuple #[tokV t, .int .i64 k, .nilIface])) := by unfold PoneR; rw [h]
theorem PoneR.bad {l : List UInt8} {x : Int} (h : oneL l = .error x) (t : Tok) (n : Int) : PoneR l (.returned (.tuple #[tokV t, .int .i64 n, errnoV x])) := by unfold PoneR; rw [h]; exact ⟨t, n, rfl⟩
theorem drop_ext (s : ByteArray) (k : Nat) : (s.extract k s.size).data.toList = s.data.toList.drop k := by
  rw [ByteArray.data_extract, Array.toList_extract]
  simp only [List.extract_eq_take_drop]
  exact List.take_of_length_le (by simp)
theorem tok_new (w : World) : Box (w.alloc (.cells #[.int .i64 0, .string ⟨#[]⟩, .int .i64 0, .int .i64 0] 45)) w.heap.size #[.int .i64 0, .string ⟨#[]⟩, .int .i64 0, .int .i64 0] := Box.new _ _ _
theorem oneL_name {c : UInt8} {r : List UInt8} (h : lxLetter c.toNat = true) : oneL (c :: r) = if 16 < spanL lxWord (c :: r) then .error 15 else .ok (⟨1, strL ((c :: r).take (spanL lxWord (c :: r))), 0, 0⟩, spanL lxWord (c :: r)) := by
  have e : spanL lxWord (c :: r) = spanL lxWord r + 1 := by
    have : lxWord c.toNat = true := by simp [lxWord, h]
    simp [spanL, this]
  rw [e]
  unfold oneL; dsimp only; rw [if_pos h, List.take_succ_cons]
set_option maxHeartbeats 1000000 in
set_option maxRecDepth 100000 in
theorem pname_any (s : ByteArray) (h0 : 0 < s.size) (hs : s.size ≤ 1000000) (w : World) (hE : lxLetter (s[0]'h0).toNat = false → oneL s.data.toList = .error 11) : Calls Tryd.prog 37 #[.string s] w fun e w' => PoneR s.data.toList e ∧ Keep w w' := by
  have CL := Lib.hid (fun W => pletter_any (s[0]'h0).toNat W)
  have B0 := tok_new w
  have r0 := B0.cells
  have rf := B0.thawed
  rcases Bool.eq_false_or_eq_true (lxLetter (s[0]'h0).toNat) with d | d
  · have E := oneL_name (r := s.data.toList.drop 1) d
    rw [← list_at s h0] at E
    rw [d] at CL
    have CS := Lib.hid (fun W => pspan_any _ _ tWord s (by omega) W)
    unfold fnV at CS
    have hk := spanL_le lxWord s.data.toList
    have hk2 : (spanL lxWord s.data.toList : Int) ≤ (s.size : Int) := by simp at hk; omega
    generalize hK : spanL lxWord s.data.toList = k at CS E hk2
    clear hk hK d hE
    by_cases big : 16 < k
    · rw [if_pos big] at E
      have HE := Lib.hid E
      clear E
      go_enter Tryd.func37, Tryd.ntmps37
      go_wp2_with (first | ((with_reducible refine (CL.out _).mono ?_); rintro e w' ⟨rfl, rfl⟩) | ((with_reducible refine (CS.out _).mono ?_); rintro e w' ⟨rfl, rfl⟩))
      refine bodyPost_ret (v := .tuple #[.agg #[.int .i64 0, .string ⟨#[]⟩, .int .i64 0, .int .i64 0], .int .i64 0, .iface 55 (.int .i64 15)]) (by simp [results, Tryd.results37, go_sem, r0]; done) rfl ⟨PoneR.bad HE.out zTok 0, ?_⟩
      repeat (with_reducible refine Keep.setAt ?_ ?_ _; · first | omega | (simp; done) | (simp; omega))
      exact (Keep.refl _).alloc _
    · rw [if_neg big] at E
      have HE : Hid (oneL s.data.toList = .ok (⟨1, s.extract 0 k, 0, 0⟩, k)) := Lib.hid (by rw [E, ext_take, List.drop_zero]; rfl)
      have big' : (k : Int) ≤ 16 := by omega
      clear E
      go_enter Tryd.func37, Tryd.ntmps37
      go_wp2_with (first | ((with_reducible refine (CL.out _).mono ?_); rintro e w' ⟨rfl, rfl⟩) | ((with_reducible refine (CS.out _).mono ?_); rintro e w' ⟨rfl, rfl⟩))
      refine bodyPost_ret (v := .tuple #[.agg #[.int .i64 1, .string (s.extract 0 k), .int .i64 0, .int .i64 0], .int .i64 k, .nilIface]) (by simp [results, Tryd.results37, go_sem, r0]; done) rfl ⟨PoneR.ok HE.out, ?_⟩
      repeat (with_reducible refine Keep.setAt ?_ ?_ _; · first | omega | (simp; done) | (simp; omega))
      exact (Keep.refl _).alloc _
  · have HE := Lib.hid (hE d)
    rw [d] at CL
    clear d hE
    go_enter Tryd.func37, Tryd.ntmps37
    go_wp2_with ((with_reducible refine (CL.out _).mono ?_); rintro e w' ⟨rfl, rfl⟩)
    refine bodyPost_ret (v := .tuple #[.agg #[.int .i64 0, .string ⟨#[]⟩, .int .i64 0, .int .i64 0], .int .i64 0, .iface 55 (.int .i64 11)]) (by simp [results, Tryd.results37, go_sem, r0]; done) rfl ⟨PoneR.bad HE.out zTok 0, ?_⟩
    repeat (with_reducible refine Keep.setAt ?_ ?_ _; · first | omega | (simp; done) | (simp; omega))
    exact (Keep.refl _).alloc _
theorem oneL_dot {c : UInt8} {r : List UInt8} (h : (c.toNat : Int) = 46) : oneL (c :: r) = if spanL lxSmall r = 0 then .error 11 else .ok (⟨4, strL (r.take (spanL lxSmall r)), 0, 0⟩, spanL lxSmall r + 1) := by
  unfold oneL; dsimp only
  rw [if_neg (by rw [h]; decide), if_neg (by rw [h]; decide), if_pos h]
theorem oneL_quote {c : UInt8} {r : List UInt8} (h : (c.toNat : Int) = 34) : oneL (c :: r) = match quoteEnd r with
    | none => .error 11
    | some j => .ok (⟨5, strL (r.take j), 0, 0⟩, j + 2) := by
  conv => lhs; unfold oneL
  dsimp only
  rw [if_neg (by rw [h]; decide), if_neg (by rw [h]; decide), if_neg (by omega), if_pos h]
  cases quoteEnd r <;> rfl
set_option maxHeartbeats 1000000 in
set_option maxRecDepth 100000 in
theorem pdot_any (s : ByteArray) (h0 : 0 < s.size) (hs : s.size ≤ 1000000) (w : World) (hp : ((s[0]'h0).toNat : Int) = 46) : Calls Tryd.prog 33 #[.string s] w fun e w' => PoneR s.data.toList e ∧ Keep w w' := by
  have B0 := tok_new w
  have r0 := B0.cells
  have rf := B0.thawed
  have E := oneL_dot (r := s.data.toList.drop 1) hp
  rw [← list_at s h0] at E
  have CS := Lib.hid (fun W => pspan_any _ _ tSmall (s.extract 1 s.size) (by rw [ByteArray.size_extract]; omega) W)
  unfold fnV at CS
  rw [drop_ext] at CS
  have hk := spanL_le lxSmall (s.data.toList.drop 1)
  rw [List.length_drop] at hk
  have hk2 : 1 + (spanL lxSmall (s.data.toList.drop 1) : Int) ≤ (s.size : Int) := by rw [show s.data.toList.length = s.size by simp] at hk; omega
  generalize hK : spanL lxSmall (s.data.toList.drop 1) = k at CS E hk2
  clear hk hK hp
  by_cases z : k = 0
  · rw [if_pos z] at E
    have HE := Lib.hid E
    subst z
    clear E
    go_enter Tryd.func33, Tryd.ntmps33
    go_wp2_with ((with_reducible refine (CS.out _).mono ?_); rintro e w' ⟨rfl, rfl⟩)
    refine bodyPost_ret (v := .tuple #[.agg #[.int .i64 0, .string ⟨#[]⟩, .int .i64 0, .int .i64 0], .int .i64 0, .iface 55 (.int .i64 11)]) (by simp [results, Tryd.results33, go_sem, r0]; done) rfl ⟨PoneR.bad HE.out zTok 0, ?_⟩
    repeat (with_reducible refine Keep.setAt ?_ ?_ _; · first | omega | (simp; done) | (simp; omega))
    exact (Keep.refl _).alloc _
  · rw [if_neg z] at E
    have HE : Hid (oneL s.data.toList = .ok (⟨4, s.extract 1 (1 + k), 0, 0⟩, k + 1)) := Lib.hid (by rw [E, ext_take, show 1 + k - 1 = k by omega])
    have z1 : ((1 : Int) + (k : Int) == 1) = false := by simp; omega
    have z2 : ((k : Int) == 0) = false := by simp; omega
    have z3 : (1 + (k : Int)).toNat = 1 + k := by omega
    have z4 : (1 : Int) ≤ 1 + (k : Int) := by omega
    clear E z
    go_enter Tryd.func33, Tryd.ntmps33
    go_wp2_with ((with_reducible refine (CS.out _).mono ?_); rintro e w' ⟨rfl, rfl⟩)
    refine bodyPost_ret (v := .tuple #[.agg #[.int .i64 4, .string (s.extract 1 (1 + k)), .int .i64 0, .int .i64 0], .int .i64 ((k + 1 : Nat) : Int), .nilIface]) (by simp [results, Tryd.results33, go_sem, r0]; first | done | omega) rfl ⟨PoneR.ok HE.out, ?_⟩
    repeat (with_reducible refine Keep.setAt ?_ ?_ _; · first | omega | (simp; done) | (simp; omega))
    exact (Keep.refl _).alloc _
set_option maxHeartbeats 1000000 in
set_option maxRecDepth 100000 in
theorem pquoted_any (s : ByteArray) (h0 : 0 < s.size) (hs : s.size ≤ 1000000) (w : World) (hp : ((s[0]'h0).toNat : Int) = 34) : Calls Tryd.prog 32 #[.string s] w fun e w' => PoneR s.data.toList e ∧ Keep w w' := by
  have B0 := tok_new w
  have r0 := B0.cells
  have rf := B0.thawed
  have E := oneL_quote (r := s.data.toList.drop 1) hp
  rw [← list_at s h0] at E
  have CS := Lib.hid (fun W => pspan_any _ _ tPlain (s.extract 1 s.size) (by rw [ByteArray.size_extract]; omega) W)
  unfold fnV at CS
  rw [drop_ext] at CS
  have hk := spanL_le lxPlain (s.data.toList.drop 1)
  rw [List.length_drop] at hk
  have hk2 : 1 + spanL lxPlain (s.data.toList.drop 1) ≤ s.size := by rw [show s.data.toList.length = s.size by simp] at hk; omega
  obtain ⟨q1, q2⟩ := quote_span (s.data.toList.drop 1)
  generalize hK : spanL lxPlain (s.data.toList.drop 1) = k at CS hk2 q1 q2
  have hl : (s.data.toList.drop 1).length = s.size - 1 := by simp
  clear hk hK hp
  by_cases z : 1 + k = s.size
  · have HE : Hid (oneL s.data.toList = .error 11) := Lib.hid (by rw [E, q2 (fun h => by omega)])
    have z1 : ((1 : Int) + (k : Int) == (s.size : Int)) = true := by simp; omega
    clear E q1 q2 hl
    go_enter Tryd.func32, Tryd.ntmps32
    go_wp2_with ((with_reducible refine (CS.out _).mono ?_); rintro e w' ⟨rfl, rfl⟩)
    refine bodyPost_ret (v := .tuple #[.agg #[.int .i64 0, .string ⟨#[]⟩, .int .i64 0, .int .i64 0], .int .i64 0, .iface 55 (.int .i64 11)]) (by simp [results, Tryd.results32, go_sem, r0]; done) rfl ⟨PoneR.bad HE.out zTok 0, ?_⟩
    repeat (with_reducible refine Keep.setAt ?_ ?_ _; · first | omega | (simp; done) | (simp; omega))
    exact (Keep.refl _).alloc _
  · have hlt : 1 + k < s.size := by omega
    have hg : ∀ h, (s.data.toList.drop 1)[k]'h = s[1 + k]'hlt := fun h => by rw [List.getElem_drop]; rfl
    have z1 : ((1 : Int) + (k : Int) == (s.size : Int)) = false := by simp; omega
    have z3 : (1 + (k : Int)).toNat = 1 + k := by omega
    have z4 : (1 : Int) ≤ 1 + (k : Int) := by omega
    have z5 : 1 + (k : Int) < (s.size : Int) := by omega
    have z6 : 1 + (k : Int) ≤ (s.size : Int) := by omega
    rcases Bool.eq_false_or_eq_true (((s[1 + k]'hlt).toNat : Int) == 34) with d | d
    · have d' : (((s[1 + k]'hlt).toNat : Int) != 34) = false := by rw [bne, d]; rfl
      have HE : Hid (oneL s.data.toList = .ok (⟨5, s.extract 1 (1 + k), 0, 0⟩, k + 2)) := Lib.hid (by rw [E, q1 (by omega) (by rw [hg]; exact beq_iff_eq.1 d), ext_take, show 1 + k - 1 = k by omega])
      clear E q1 q2 hl hg z
      go_enter Tryd.func32, Tryd.ntmps32
      go_wp2_with ((with_reducible refine (CS.out _).mono ?_); rintro e w' ⟨rfl, rfl⟩)
      refine bodyPost_ret (v := .tuple #[.agg #[.int .i64 5, .string (s.extract 1 (1 + k)), .int .i64 0, .int .i64 0], .int .i64 ((k + 2 : Nat) : Int), .nilIface]) (by simp [results, Tryd.results32, go_sem, r0]; omega) rfl ⟨PoneR.ok HE.out, ?_⟩
      repeat (with_reducible refine Keep.setAt ?_ ?_ _; · first | omega | (simp; done) | (simp; omega))
      exact (Keep.refl _).alloc _
    · have d' : (((s[1 + k]'hlt).toNat : Int) != 34) = true := by rw [bne, d]; rfl
      have HE : Hid (oneL s.data.toList = .error 11) := Lib.hid (by rw [E, q2 (fun h => by rw [hg]; exact beq_eq_false_iff_ne.1 d)])
      clear E q1 q2 hl hg z
      go_enter Tryd.func32, Tryd.ntmps32
      go_wp2_with ((with_reducible refine (CS.out _).mono ?_); rintro e w' ⟨rfl, rfl⟩)
      refine bodyPost_ret (v := .tuple #[.agg #[.int .i64 0, .string ⟨#[]⟩, .int .i64 0, .int .i64 0], .int .i64 0, .iface 55 (.int .i64 11)]) (by simp [results, Tryd.results32, go_sem, r0]; done) rfl ⟨PoneR.bad HE.out zTok 0, ?_⟩
      repeat (with_reducible refine Keep.setAt ?_ ?_ _; · first | omega | (simp; done) | (simp; omega))
      exact (Keep.refl _).alloc _
end Go.Proofs.YtcdepfdfemmfhaaDoor
