/- The program's first: the word that a text begins with, by its first byte. -/
import Derived.Test.YtcdepfdfemmfhaaDoorLexP2
import Derived.Test.YtcdepfdfemmfhaaDoorLexOg
namespace Go.Proofs.YtcdepfdfemmfhaaDoor
set_option linter.unusedVariables false
set_option linter.unusedSimpArgs false
open Go.RowKit
theorem oneL_sign1 {c : UInt8} {r : List UInt8} (hl : SignLike c.toNat) (h1 : (c.toNat : Int) ∈ lxSigns) (h2 : (c.toNat : Int) ≠ 60) (h3 : (c.toNat : Int) ≠ 62) : oneL (c :: r) = .ok (⟨3, strL [c], 0, 0⟩, 1) := by
  rw [oneL_like hl]
  have n60 : c ≠ 60 := by rintro rfl; exact h2 rfl
  have n62 : c ≠ 62 := by rintro rfl; exact h3 rfl
  have hs : isShift (c :: r) = false := by cases r <;> simp [isShift, n60, n62]
  rw [if_neg (by rw [hs]; decide), if_pos h1]
theorem oneL_none {c : UInt8} {r : List UInt8} (hl : lxLetter c.toNat = false) (hd : lxDigit c.toNat = false) (h0 : (c.toNat : Int) ≠ 46 ∧ (c.toNat : Int) ≠ 34) (h1 : ¬ (c.toNat : Int) ∈ lxSigns) (h2 : (c.toNat : Int) ≠ 60) (h3 : (c.toNat : Int) ≠ 62) : oneL (c :: r) = .error 11 := by
  rw [oneL_like ⟨hl, hd, h0.1, h0.2⟩]
  have n60 : c ≠ 60 := by rintro rfl; exact h2 rfl
  have n62 : c ≠ 62 := by rintro rfl; exact h3 rfl
  have hs : isShift (c :: r) = false := by cases r <;> simp [isShift, n60, n62]
  rw [if_neg (by rw [hs]; decide), if_neg h1]
theorem oneL_half {c d : UInt8} {r : List UInt8} (hc : (c.toNat : Int) = 60 ∨ (c.toNat : Int) = 62) (hn : d ≠ c) : oneL (c :: d :: r) = .error 11 ∧ oneL [c] = .error 11 := by
  have hl : SignLike c.toNat := by unfold SignLike; rcases hc with h | h <;> rw [h] <;> decide
  have hm : ¬ (c.toNat : Int) ∈ lxSigns := by rcases hc with h | h <;> rw [h] <;> decide
  refine ⟨?_, ?_⟩
  · rw [oneL_like hl]
    have hs : isShift (c :: d :: r) = false := by
      simp only [isShift, List.take_succ_cons, List.take_zero, List.cons.injEq, and_true, Bool.or_eq_false_iff, decide_eq_false_iff_not]
      exact ⟨fun h => hn (by rw [h.1, h.2]), fun h => hn (by rw [h.1, h.2])⟩
    rw [if_neg (by rw [hs]; decide), if_neg hm]
  · rw [oneL_like hl]
    have hs : isShift [c] = false := by simp [isShift]
    rw [if_neg (by rw [hs]; decide), if_neg hm]
theorem oneL_shift {c : UInt8} {r : List UInt8} (hc : (c.toNat : Int) = 60 ∨ (c.toNat : Int) = 62) : oneL (c :: c :: r) = .ok (⟨3, strL [c, c], 0, 0⟩, 2) := by
  have hl : SignLike c.toNat := by unfold SignLike; rcases hc with h | h <;> rw [h] <;> decide
  rw [oneL_like hl]
  have e : c = 60 ∨ c = 62 := by
    rcases hc with h | h
    · exact .inl (UInt8.toNat_inj.1 (by have h2 : (60 : UInt8).toNat = 60 := rfl; omega))
    · exact .inr (UInt8.toNat_inj.1 (by have h2 : (62 : UInt8).toNat = 62 := rfl; omega))
  have hs : isShift (c :: c :: r) = true := by
    rcases e with rfl | rfl <;> rfl
  rw [if_pos hs]; rfl
theorem byte_nat {c : UInt8} {n : Nat} (h : c.toNat = n) : (c.toNat : Int) = (n : Int) := by rw [h]
set_option maxHeartbeats 2000000 in
set_option maxRecDepth 100000 in
theorem pfirst_34 (s : ByteArray) (h0 : 0 < s.size) (hs : s.size ≤ 1000000) (hx : (s[0]'h0).toNat = 34) (b : Addr) (w : World) (hG : ErrG w b) : Calls Tryd.prog 18 #[.string s] w fun e w' => PoneR s.data.toList e ∧ Keep w w' := by
  have HL := Lib.hid (list_at s h0)
  have B0 := tok_new w
  have r0 := B0.cells
  have rf := B0.thawed
  have K0 := Lib.hid ((Keep.refl w).alloc (.cells #[.int .i64 0, .string ⟨#[]⟩, .int .i64 0, .int .i64 0] 45))
  have HC := Lib.hid (fun W => pquoted_any s h0 hs W (byte_nat hx))
  clear hG
  go_enter Tryd.func18, Tryd.ntmps18
  go_wp2_with fail
  refine (HC.out _).mono ?_
  rintro e w1 ⟨hr, hk⟩
  have B1 := B0.keep hk
  have r1 := B1.cells
  have rg := B1.thawed
  have K1 := Lib.hid (K0.out.trans hk)
  clear r0 rf hk
  unfold PoneR at hr
  cases ho : oneL s.data.toList with
  | error x =>
    rw [ho] at hr
    obtain ⟨t, n, rfl⟩ := hr
    have HO := Lib.hid ho
    clear ho
    unfold tokV errnoV
    go_wp2_with fail
    refine bodyPost_ret (v := .tuple #[.agg #[.int .i64 t.kind, .string t.text, .int .i64 t.n, .int .i64 t.pl], .int .i64 n, .iface 55 (.int .i64 x)]) (by simp [results, Tryd.results18, go_sem, r1]; done) rfl ⟨PoneR.bad HO.out t n, ?_⟩
    repeat (with_reducible refine Keep.setAt ?_ ?_ _; · first | omega | (simp; done) | (simp; omega))
    first | exact K1.out | exact (Keep.refl _).alloc _ | exact ((Keep.refl _).alloc _).drew
  | ok x =>
    obtain ⟨t, n⟩ := x
    rw [ho] at hr
    subst hr
    have HO := Lib.hid ho
    clear ho
    unfold tokV
    go_wp2_with fail
    refine bodyPost_ret (v := .tuple #[.agg #[.int .i64 t.kind, .string t.text, .int .i64 t.n, .int .i64 t.pl], .int .i64 n, .nilIface]) (by simp [results, Tryd.results18, go_sem, r1]; done) rfl ⟨PoneR.ok HO.out, ?_⟩
    repeat (with_reducible refine Keep.setAt ?_ ?_ _; · first | omega | (simp; done) | (simp; omega))
    first | exact K1.out | exact (Keep.refl _).alloc _ | exact ((Keep.refl _).alloc _).drew
set_option maxHeartbeats 2000000 in
set_option maxRecDepth 100000 in
theorem pfirst_46 (s : ByteArray) (h0 : 0 < s.size) (hs : s.size ≤ 1000000) (hx : (s[0]'h0).toNat = 46) (b : Addr) (w : World) (hG : ErrG w b) : Calls Tryd.prog 18 #[.string s] w fun e w' => PoneR s.data.toList e ∧ Keep w w' := by
  have HL := Lib.hid (list_at s h0)
  have B0 := tok_new w
  have r0 := B0.cells
  have rf := B0.thawed
  have K0 := Lib.hid ((Keep.refl w).alloc (.cells #[.int .i64 0, .string ⟨#[]⟩, .int .i64 0, .int .i64 0] 45))
  have HC := Lib.hid (fun W => pdot_any s h0 hs W (byte_nat hx))
  clear hG
  go_enter Tryd.func18, Tryd.ntmps18
  go_wp2_with fail
  refine (HC.out _).mono ?_
  rintro e w1 ⟨hr, hk⟩
  have B1 := B0.keep hk
  have r1 := B1.cells
  have rg := B1.thawed
  have K1 := Lib.hid (K0.out.trans hk)
  clear r0 rf hk
  unfold PoneR at hr
  cases ho : oneL s.data.toList with
  | error x =>
    rw [ho] at hr
    obtain ⟨t, n, rfl⟩ := hr
    have HO := Lib.hid ho
    clear ho
    unfold tokV errnoV
    go_wp2_with fail
    refine bodyPost_ret (v := .tuple #[.agg #[.int .i64 t.kind, .string t.text, .int .i64 t.n, .int .i64 t.pl], .int .i64 n, .iface 55 (.int .i64 x)]) (by simp [results, Tryd.results18, go_sem, r1]; done) rfl ⟨PoneR.bad HO.out t n, ?_⟩
    repeat (with_reducible refine Keep.setAt ?_ ?_ _; · first | omega | (simp; done) | (simp; omega))
    first | exact K1.out | exact (Keep.refl _).alloc _ | exact ((Keep.refl _).alloc _).drew
  | ok x =>
    obtain ⟨t, n⟩ := x
    rw [ho] at hr
    subst hr
    have HO := Lib.hid ho
    clear ho
    unfold tokV
    go_wp2_with fail
    refine bodyPost_ret (v := .tuple #[.agg #[.int .i64 t.kind, .string t.text, .int .i64 t.n, .int .i64 t.pl], .int .i64 n, .nilIface]) (by simp [results, Tryd.results18, go_sem, r1]; done) rfl ⟨PoneR.ok HO.out, ?_⟩
    repeat (with_reducible refine Keep.setAt ?_ ?_ _; · first | omega | (simp; done) | (simp; omega))
    first | exact K1.out | exact (Keep.refl _).alloc _ | exact ((Keep.refl _).alloc _).drew
set_option maxHeartbeats 2000000 in
set_option maxRecDepth 100000 in
theorem pfirst_40 (s : ByteArray) (h0 : 0 < s.size) (hs : s.size ≤ 1000000) (hx : (s[0]'h0).toNat = 40) (b : Addr) (w : World) (hG : ErrG w b) : Calls Tryd.prog 18 #[.string s] w fun e w' => PoneR s.data.toList e ∧ Keep w w' := by
  have HL := Lib.hid (list_at s h0)
  have B0 := tok_new w
  have r0 := B0.cells
  have rf := B0.thawed
  have K0 := Lib.hid ((Keep.refl w).alloc (.cells #[.int .i64 0, .string ⟨#[]⟩, .int .i64 0, .int .i64 0] 45))
  have HE : Hid (oneL s.data.toList = .ok (⟨3, s.extract 0 1, 0, 0⟩, 1)) := Lib.hid (by
    have h := byte_nat hx
    have e := oneL_sign1 (c := s[0]'h0) (r := s.data.toList.drop 1) (by unfold SignLike; rw [h]; decide) (by rw [h]; decide) (by rw [h]; decide) (by rw [h]; decide)
    rw [← HL.out] at e
    rw [e, ext_take, HL.out]; rfl)
  have hs1 : (1 : Int) ≤ (s.size : Int) := by omega
  clear hG
  go_enter Tryd.func18, Tryd.ntmps18
  go_wp2_with fail
  refine bodyPost_ret (v := .tuple #[.agg #[.int .i64 3, .string (s.extract 0 1), .int .i64 0, .int .i64 0], .int .i64 1, .nilIface]) (by simp [results, Tryd.results18, go_sem, r0]; done) rfl ⟨PoneR.ok HE.out, ?_⟩
  repeat (with_reducible refine Keep.setAt ?_ ?_ _; · first | omega | (simp; done) | (simp; omega))
  first | exact K0.out | exact (Keep.refl _).alloc _ | exact ((Keep.refl _).alloc _).drew
set_option maxHeartbeats 2000000 in
set_option maxRecDepth 100000 in
theorem pfirst_41 (s : ByteArray) (h0 : 0 < s.size) (hs : s.size ≤ 1000000) (hx : (s[0]'h0).toNat = 41) (b : Addr) (w : World) (hG : ErrG w b) : Calls Tryd.prog 18 #[.string s] w fun e w' => PoneR s.data.toList e ∧ Keep w w' := by
  have HL := Lib.hid (list_at s h0)
  have B0 := tok_new w
  have r0 := B0.cells
  have rf := B0.thawed
  have K0 := Lib.hid ((Keep.refl w).alloc (.cells #[.int .i64 0, .string ⟨#[]⟩, .int .i64 0, .int .i64 0] 45))
  have HE : Hid (oneL s.data.toList = .ok (⟨3, s.extract 0 1, 0, 0⟩, 1)) := Lib.hid (by
    have h := byte_nat hx
    have e := oneL_sign1 (c := s[0]'h0) (r := s.data.toList.drop 1) (by unfold SignLike; rw [h]; decide) (by rw [h]; decide) (by rw [h]; decide) (by rw [h]; decide)
    rw [← HL.out] at e
    rw [e, ext_take, HL.out]; rfl)
  have hs1 : (1 : Int) ≤ (s.size : Int) := by omega
  clear hG
  go_enter Tryd.func18, Tryd.ntmps18
  go_wp2_with fail
  refine bodyPost_ret (v := .tuple #[.agg #[.int .i64 3, .string (s.extract 0 1), .int .i64 0, .int .i64 0], .int .i64 1, .nilIface]) (by simp [results, Tryd.results18, go_sem, r0]; done) rfl ⟨PoneR.ok HE.out, ?_⟩
  repeat (with_reducible refine Keep.setAt ?_ ?_ _; · first | omega | (simp; done) | (simp; omega))
  first | exact K0.out | exact (Keep.refl _).alloc _ | exact ((Keep.refl _).alloc _).drew
set_option maxHeartbeats 2000000 in
set_option maxRecDepth 100000 in
theorem pfirst_44 (s : ByteArray) (h0 : 0 < s.size) (hs : s.size ≤ 1000000) (hx : (s[0]'h0).toNat = 44) (b : Addr) (w : World) (hG : ErrG w b) : Calls Tryd.prog 18 #[.string s] w fun e w' => PoneR s.data.toList e ∧ Keep w w' := by
  have HL := Lib.hid (list_at s h0)
  have B0 := tok_new w
  have r0 := B0.cells
  have rf := B0.thawed
  have K0 := Lib.hid ((Keep.refl w).alloc (.cells #[.int .i64 0, .string ⟨#[]⟩, .int .i64 0, .int .i64 0] 45))
  have HE : Hid (oneL s.data.toList = .ok (⟨3, s.extract 0 1, 0, 0⟩, 1)) := Lib.hid (by
    have h := byte_nat hx
    have e := oneL_sign1 (c := s[0]'h0) (r := s.data.toList.drop 1) (by unfold SignLike; rw [h]; decide) (by rw [h]; decide) (by rw [h]; decide) (by rw [h]; decide)
    rw [← HL.out] at e
    rw [e, ext_take, HL.out]; rfl)
  have hs1 : (1 : Int) ≤ (s.size : Int) := by omega
  clear hG
  go_enter Tryd.func18, Tryd.ntmps18
  go_wp2_with fail
  refine bodyPost_ret (v := .tuple #[.agg #[.int .i64 3, .string (s.extract 0 1), .int .i64 0, .int .i64 0], .int .i64 1, .nilIface]) (by simp [results, Tryd.results18, go_sem, r0]; done) rfl ⟨PoneR.ok HE.out, ?_⟩
  repeat (with_reducible refine Keep.setAt ?_ ?_ _; · first | omega | (simp; done) | (simp; omega))
  first | exact K0.out | exact (Keep.refl _).alloc _ | exact ((Keep.refl _).alloc _).drew
set_option maxHeartbeats 2000000 in
set_option maxRecDepth 100000 in
theorem pfirst_58 (s : ByteArray) (h0 : 0 < s.size) (hs : s.size ≤ 1000000) (hx : (s[0]'h0).toNat = 58) (b : Addr) (w : World) (hG : ErrG w b) : Calls Tryd.prog 18 #[.string s] w fun e w' => PoneR s.data.toList e ∧ Keep w w' := by
  have HL := Lib.hid (list_at s h0)
  have B0 := tok_new w
  have r0 := B0.cells
  have rf := B0.thawed
  have K0 := Lib.hid ((Keep.refl w).alloc (.cells #[.int .i64 0, .string ⟨#[]⟩, .int .i64 0, .int .i64 0] 45))
  have HE : Hid (oneL s.data.toList = .ok (⟨3, s.extract 0 1, 0, 0⟩, 1)) := Lib.hid (by
    have h := byte_nat hx
    have e := oneL_sign1 (c := s[0]'h0) (r := s.data.toList.drop 1) (by unfold SignLike; rw [h]; decide) (by rw [h]; decide) (by rw [h]; decide) (by rw [h]; decide)
    rw [← HL.out] at e
    rw [e, ext_take, HL.out]; rfl)
  have hs1 : (1 : Int) ≤ (s.size : Int) := by omega
  clear hG
  go_enter Tryd.func18, Tryd.ntmps18
  go_wp2_with fail
  refine bodyPost_ret (v := .tuple #[.agg #[.int .i64 3, .string (s.extract 0 1), .int .i64 0, .int .i64 0], .int .i64 1, .nilIface]) (by simp [results, Tryd.results18, go_sem, r0]; done) rfl ⟨PoneR.ok HE.out, ?_⟩
  repeat (with_reducible refine Keep.setAt ?_ ?_ _; · first | omega | (simp; done) | (simp; omega))
  first | exact K0.out | exact (Keep.refl _).alloc _ | exact ((Keep.refl _).alloc _).drew
set_option maxHeartbeats 2000000 in
set_option maxRecDepth 100000 in
theorem pfirst_43 (s : ByteArray) (h0 : 0 < s.size) (hs : s.size ≤ 1000000) (hx : (s[0]'h0).toNat = 43) (b : Addr) (w : World) (hG : ErrG w b) : Calls Tryd.prog 18 #[.string s] w fun e w' => PoneR s.data.toList e ∧ Keep w w' := by
  have HL := Lib.hid (list_at s h0)
  have B0 := tok_new w
  have r0 := B0.cells
  have rf := B0.thawed
  have K0 := Lib.hid ((Keep.refl w).alloc (.cells #[.int .i64 0, .string ⟨#[]⟩, .int .i64 0, .int .i64 0] 45))
  have HE : Hid (oneL s.data.toList = .ok (⟨3, s.extract 0 1, 0, 0⟩, 1)) := Lib.hid (by
    have h := byte_nat hx
    have e := oneL_sign1 (c := s[0]'h0) (r := s.data.toList.drop 1) (by unfold SignLike; rw [h]; decide) (by rw [h]; decide) (by rw [h]; decide) (by rw [h]; decide)
    rw [← HL.out] at e
    rw [e, ext_take, HL.out]; rfl)
  have hs1 : (1 : Int) ≤ (s.size : Int) := by omega
  clear hG
  go_enter Tryd.func18, Tryd.ntmps18
  go_wp2_with fail
  refine bodyPost_ret (v := .tuple #[.agg #[.int .i64 3, .string (s.extract 0 1), .int .i64 0, .int .i64 0], .int .i64 1, .nilIface]) (by simp [results, Tryd.results18, go_sem, r0]; done) rfl ⟨PoneR.ok HE.out, ?_⟩
  repeat (with_reducible refine Keep.setAt ?_ ?_ _; · first | omega | (simp; done) | (simp; omega))
  first | exact K0.out | exact (Keep.refl _).alloc _ | exact ((Keep.refl _).alloc _).drew
set_option maxHeartbeats 2000000 in
set_option maxRecDepth 100000 in
theorem pfirst_45 (s : ByteArray) (h0 : 0 < s.size) (hs : s.size ≤ 1000000) (hx : (s[0]'h0).toNat = 45) (b : Addr) (w : World) (hG : ErrG w b) : Calls Tryd.prog 18 #[.string s] w fun e w' => PoneR s.data.toList e ∧ Keep w w' := by
  have HL := Lib.hid (list_at s h0)
  have B0 := tok_new w
  have r0 := B0.cells
  have rf := B0.thawed
  have K0 := Lib.hid ((Keep.refl w).alloc (.cells #[.int .i64 0, .string ⟨#[]⟩, .int .i64 0, .int .i64 0] 45))
  have HE : Hid (oneL s.data.toList = .ok (⟨3, s.extract 0 1, 0, 0⟩, 1)) := Lib.hid (by
    have h := byte_nat hx
    have e := oneL_sign1 (c := s[0]'h0) (r := s.data.toList.drop 1) (by unfold SignLike; rw [h]; decide) (by rw [h]; decide) (by rw [h]; decide) (by rw [h]; decide)
    rw [← HL.out] at e
    rw [e, ext_take, HL.out]; rfl)
  have hs1 : (1 : Int) ≤ (s.size : Int) := by omega
  clear hG
  go_enter Tryd.func18, Tryd.ntmps18
  go_wp2_with fail
  refine bodyPost_ret (v := .tuple #[.agg #[.int .i64 3, .string (s.extract 0 1), .int .i64 0, .int .i64 0], .int .i64 1, .nilIface]) (by simp [results, Tryd.results18, go_sem, r0]; done) rfl ⟨PoneR.ok HE.out, ?_⟩
  repeat (with_reducible refine Keep.setAt ?_ ?_ _; · first | omega | (simp; done) | (simp; omega))
  first | exact K0.out | exact (Keep.refl _).alloc _ | exact ((Keep.refl _).alloc _).drew
set_option maxHeartbeats 2000000 in
set_option maxRecDepth 100000 in
theorem pfirst_42 (s : ByteArray) (h0 : 0 < s.size) (hs : s.size ≤ 1000000) (hx : (s[0]'h0).toNat = 42) (b : Addr) (w : World) (hG : ErrG w b) : Calls Tryd.prog 18 #[.string s] w fun e w' => PoneR s.data.toList e ∧ Keep w w' := by
  have HL := Lib.hid (list_at s h0)
  have B0 := tok_new w
  have r0 := B0.cells
  have rf := B0.thawed
  have K0 := Lib.hid ((Keep.refl w).alloc (.cells #[.int .i64 0, .string ⟨#[]⟩, .int .i64 0, .int .i64 0] 45))
  have HE : Hid (oneL s.data.toList = .ok (⟨3, s.extract 0 1, 0, 0⟩, 1)) := Lib.hid (by
    have h := byte_nat hx
    have e := oneL_sign1 (c := s[0]'h0) (r := s.data.toList.drop 1) (by unfold SignLike; rw [h]; decide) (by rw [h]; decide) (by rw [h]; decide) (by rw [h]; decide)
    rw [← HL.out] at e
    rw [e, ext_take, HL.out]; rfl)
  have hs1 : (1 : Int) ≤ (s.size : Int) := by omega
  clear hG
  go_enter Tryd.func18, Tryd.ntmps18
  go_wp2_with fail
  refine bodyPost_ret (v := .tuple #[.agg #[.int .i64 3, .string (s.extract 0 1), .int .i64 0, .int .i64 0], .int .i64 1, .nilIface]) (by simp [results, Tryd.results18, go_sem, r0]; done) rfl ⟨PoneR.ok HE.out, ?_⟩
  repeat (with_reducible refine Keep.setAt ?_ ?_ _; · first | omega | (simp; done) | (simp; omega))
  first | exact K0.out | exact (Keep.refl _).alloc _ | exact ((Keep.refl _).alloc _).drew
set_option maxHeartbeats 2000000 in
set_option maxRecDepth 100000 in
theorem pfirst_38 (s : ByteArray) (h0 : 0 < s.size) (hs : s.size ≤ 1000000) (hx : (s[0]'h0).toNat = 38) (b : Addr) (w : World) (hG : ErrG w b) : Calls Tryd.prog 18 #[.string s] w fun e w' => PoneR s.data.toList e ∧ Keep w w' := by
  have HL := Lib.hid (list_at s h0)
  have B0 := tok_new w
  have r0 := B0.cells
  have rf := B0.thawed
  have K0 := Lib.hid ((Keep.refl w).alloc (.cells #[.int .i64 0, .string ⟨#[]⟩, .int .i64 0, .int .i64 0] 45))
  have HE : Hid (oneL s.data.toList = .ok (⟨3, s.extract 0 1, 0, 0⟩, 1)) := Lib.hid (by
    have h := byte_nat hx
    have e := oneL_sign1 (c := s[0]'h0) (r := s.data.toList.drop 1) (by unfold SignLike; rw [h]; decide) (by rw [h]; decide) (by rw [h]; decide) (by rw [h]; decide)
    rw [← HL.out] at e
    rw [e, ext_take, HL.out]; rfl)
  have hs1 : (1 : Int) ≤ (s.size : Int) := by omega
  clear hG
  go_enter Tryd.func18, Tryd.ntmps18
  go_wp2_with fail
  refine bodyPost_ret (v := .tuple #[.agg #[.int .i64 3, .string (s.extract 0 1), .int .i64 0, .int .i64 0], .int .i64 1, .nilIface]) (by simp [results, Tryd.results18, go_sem, r0]; done) rfl ⟨PoneR.ok HE.out, ?_⟩
  repeat (with_reducible refine Keep.setAt ?_ ?_ _; · first | omega | (simp; done) | (simp; omega))
  first | exact K0.out | exact (Keep.refl _).alloc _ | exact ((Keep.refl _).alloc _).drew
set_option maxHeartbeats 2000000 in
set_option maxRecDepth 100000 in
theorem pfirst_124 (s : ByteArray) (h0 : 0 < s.size) (hs : s.size ≤ 1000000) (hx : (s[0]'h0).toNat = 124) (b : Addr) (w : World) (hG : ErrG w b) : Calls Tryd.prog 18 #[.string s] w fun e w' => PoneR s.data.toList e ∧ Keep w w' := by
  have HL := Lib.hid (list_at s h0)
  have B0 := tok_new w
  have r0 := B0.cells
  have rf := B0.thawed
  have K0 := Lib.hid ((Keep.refl w).alloc (.cells #[.int .i64 0, .string ⟨#[]⟩, .int .i64 0, .int .i64 0] 45))
  have HE : Hid (oneL s.data.toList = .ok (⟨3, s.extract 0 1, 0, 0⟩, 1)) := Lib.hid (by
    have h := byte_nat hx
    have e := oneL_sign1 (c := s[0]'h0) (r := s.data.toList.drop 1) (by unfold SignLike; rw [h]; decide) (by rw [h]; decide) (by rw [h]; decide) (by rw [h]; decide)
    rw [← HL.out] at e
    rw [e, ext_take, HL.out]; rfl)
  have hs1 : (1 : Int) ≤ (s.size : Int) := by omega
  clear hG
  go_enter Tryd.func18, Tryd.ntmps18
  go_wp2_with fail
  refine bodyPost_ret (v := .tuple #[.agg #[.int .i64 3, .string (s.extract 0 1), .int .i64 0, .int .i64 0], .int .i64 1, .nilIface]) (by simp [results, Tryd.results18, go_sem, r0]; done) rfl ⟨PoneR.ok HE.out, ?_⟩
  repeat (with_reducible refine Keep.setAt ?_ ?_ _; · first | omega | (simp; done) | (simp; omega))
  first | exact K0.out | exact (Keep.refl _).alloc _ | exact ((Keep.refl _).alloc _).drew
set_option maxHeartbeats 2000000 in
set_option maxRecDepth 100000 in
theorem pfirst_94 (s : ByteArray) (h0 : 0 < s.size) (hs : s.size ≤ 1000000) (hx : (s[0]'h0).toNat = 94) (b : Addr) (w : World) (hG : ErrG w b) : Calls Tryd.prog 18 #[.string s] w fun e w' => PoneR s.data.toList e ∧ Keep w w' := by
  have HL := Lib.hid (list_at s h0)
  have B0 := tok_new w
  have r0 := B0.cells
  have rf := B0.thawed
  have K0 := Lib.hid ((Keep.refl w).alloc (.cells #[.int .i64 0, .string ⟨#[]⟩, .int .i64 0, .int .i64 0] 45))
  have HE : Hid (oneL s.data.toList = .ok (⟨3, s.extract 0 1, 0, 0⟩, 1)) := Lib.hid (by
    have h := byte_nat hx
    have e := oneL_sign1 (c := s[0]'h0) (r := s.data.toList.drop 1) (by unfold SignLike; rw [h]; decide) (by rw [h]; decide) (by rw [h]; decide) (by rw [h]; decide)
    rw [← HL.out] at e
    rw [e, ext_take, HL.out]; rfl)
  have hs1 : (1 : Int) ≤ (s.size : Int) := by omega
  clear hG
  go_enter Tryd.func18, Tryd.ntmps18
  go_wp2_with fail
  refine bodyPost_ret (v := .tuple #[.agg #[.int .i64 3, .string (s.extract 0 1), .int .i64 0, .int .i64 0], .int .i64 1, .nilIface]) (by simp [results, Tryd.results18, go_sem, r0]; done) rfl ⟨PoneR.ok HE.out, ?_⟩
  repeat (with_reducible refine Keep.setAt ?_ ?_ _; · first | omega | (simp; done) | (simp; omega))
  first | exact K0.out | exact (Keep.refl _).alloc _ | exact ((Keep.refl _).alloc _).drew
set_option maxHeartbeats 2000000 in
set_option maxRecDepth 100000 in
theorem pfirst_126 (s : ByteArray) (h0 : 0 < s.size) (hs : s.size ≤ 1000000) (hx : (s[0]'h0).toNat = 126) (b : Addr) (w : World) (hG : ErrG w b) : Calls Tryd.prog 18 #[.string s] w fun e w' => PoneR s.data.toList e ∧ Keep w w' := by
  have HL := Lib.hid (list_at s h0)
  have B0 := tok_new w
  have r0 := B0.cells
  have rf := B0.thawed
  have K0 := Lib.hid ((Keep.refl w).alloc (.cells #[.int .i64 0, .string ⟨#[]⟩, .int .i64 0, .int .i64 0] 45))
  have HE : Hid (oneL s.data.toList = .ok (⟨3, s.extract 0 1, 0, 0⟩, 1)) := Lib.hid (by
    have h := byte_nat hx
    have e := oneL_sign1 (c := s[0]'h0) (r := s.data.toList.drop 1) (by unfold SignLike; rw [h]; decide) (by rw [h]; decide) (by rw [h]; decide) (by rw [h]; decide)
    rw [← HL.out] at e
    rw [e, ext_take, HL.out]; rfl)
  have hs1 : (1 : Int) ≤ (s.size : Int) := by omega
  clear hG
  go_enter Tryd.func18, Tryd.ntmps18
  go_wp2_with fail
  refine bodyPost_ret (v := .tuple #[.agg #[.int .i64 3, .string (s.extract 0 1), .int .i64 0, .int .i64 0], .int .i64 1, .nilIface]) (by simp [results, Tryd.results18, go_sem, r0]; done) rfl ⟨PoneR.ok HE.out, ?_⟩
  repeat (with_reducible refine Keep.setAt ?_ ?_ _; · first | omega | (simp; done) | (simp; omega))
  first | exact K0.out | exact (Keep.refl _).alloc _ | exact ((Keep.refl _).alloc _).drew
set_option maxHeartbeats 2000000 in
set_option maxRecDepth 100000 in
theorem pfirst_60 (s : ByteArray) (h0 : 0 < s.size) (hs : s.size ≤ 1000000) (hx : (s[0]'h0).toNat = 60) (b : Addr) (w : World) (hG : ErrG w b) : Calls Tryd.prog 18 #[.string s] w fun e w' => PoneR s.data.toList e ∧ Keep w w' := by
  have HL := Lib.hid (list_at s h0)
  have B0 := tok_new w
  have r0 := B0.cells
  have rf := B0.thawed
  have K0 := Lib.hid ((Keep.refl w).alloc (.cells #[.int .i64 0, .string ⟨#[]⟩, .int .i64 0, .int .i64 0] 45))
  have h := byte_nat hx
  clear hG
  by_cases h1 : s.size = 1
  · have HE : Hid (oneL s.data.toList = .error 11) := Lib.hid (by
      rw [HL.out, drop_end s 1 (by omega)]
      exact (oneL_half (d := (s[0]'h0) + 1) (r := []) (.inl h) (by intro e; have := congrArg UInt8.toNat e; rw [UInt8.toNat_add, hx] at this; exact absurd this (by decide))).2)
    have q : ((s.size : Int) == 1) = true := by simp; omega
    clear h
    go_enter Tryd.func18, Tryd.ntmps18
    go_wp2_with fail
    go_region
    go_wp2_with fail
    refine bodyPost_ret (v := .tuple #[.agg #[.int .i64 0, .string ⟨#[]⟩, .int .i64 0, .int .i64 0], .int .i64 0, .iface 55 (.int .i64 11)]) (by simp [results, Tryd.results18, go_sem, r0]; done) rfl ⟨PoneR.bad HE.out zTok 0, ?_⟩
    repeat (with_reducible refine Keep.setAt ?_ ?_ _; · first | omega | (simp; done) | (simp; omega))
    first | exact K0.out | exact (Keep.refl _).alloc _ | exact ((Keep.refl _).alloc _).drew
  · have h2 : 1 < s.size := by omega
    have q : ((s.size : Int) == 1) = false := by simp; omega
    have q2 : (1 : Int) < (s.size : Int) := by omega
    have q3 : (2 : Int) ≤ (s.size : Int) := by omega
    have dl : s.data.toList = s[0] :: s[1] :: s.data.toList.drop 2 := by rw [HL.out, drop_at s 1 h2]; rfl
    rcases Bool.eq_false_or_eq_true (((s[1]'h2).toNat : Int) == 60) with d | d
    · have d' : (((s[1]'h2).toNat : Int) != 60) = false := by rw [bne, d]; rfl
      have e1 : s[1] = s[0] := UInt8.toNat_inj.1 (by have := beq_iff_eq.1 d; omega)
      have HE : Hid (oneL s.data.toList = .ok (⟨3, s.extract 0 2, 0, 0⟩, 2)) := Lib.hid (by
        rw [ext_take, dl, e1, oneL_shift (.inl h)]; rfl)
      clear h dl e1
      go_enter Tryd.func18, Tryd.ntmps18
      go_wp2_with fail
      go_region
      go_wp2_with fail
      refine bodyPost_ret (v := .tuple #[.agg #[.int .i64 3, .string (s.extract 0 2), .int .i64 0, .int .i64 0], .int .i64 2, .nilIface]) (by simp [results, Tryd.results18, go_sem, r0]; done) rfl ⟨PoneR.ok HE.out, ?_⟩
      repeat (with_reducible refine Keep.setAt ?_ ?_ _; · first | omega | (simp; done) | (simp; omega))
      first | exact K0.out | exact (Keep.refl _).alloc _ | exact ((Keep.refl _).alloc _).drew
    · have d' : (((s[1]'h2).toNat : Int) != 60) = true := by rw [bne, d]; rfl
      have e1 : s[1] ≠ s[0] := by
        intro e
        have := beq_eq_false_iff_ne.1 d
        rw [e] at this
        exact this h
      have HE : Hid (oneL s.data.toList = .error 11) := Lib.hid (by
        rw [dl]
        exact (oneL_half (.inl h) e1).1)
      clear h dl e1
      go_enter Tryd.func18, Tryd.ntmps18
      go_wp2_with fail
      go_region
      go_wp2_with fail
      refine bodyPost_ret (v := .tuple #[.agg #[.int .i64 0, .string ⟨#[]⟩, .int .i64 0, .int .i64 0], .int .i64 0, .iface 55 (.int .i64 11)]) (by simp [results, Tryd.results18, go_sem, r0]; done) rfl ⟨PoneR.bad HE.out zTok 0, ?_⟩
      repeat (with_reducible refine Keep.setAt ?_ ?_ _; · first | omega | (simp; done) | (simp; omega))
      first | exact K0.out | exact (Keep.refl _).alloc _ | exact ((Keep.refl _).alloc _).drew
set_option maxHeartbeats 2000000 in
set_option maxRecDepth 100000 in
theorem pfirst_62 (s : ByteArray) (h0 : 0 < s.size) (hs : s.size ≤ 1000000) (hx : (s[0]'h0).toNat = 62) (b : Addr) (w : World) (hG : ErrG w b) : Calls Tryd.prog 18 #[.string s] w fun e w' => PoneR s.data.toList e ∧ Keep w w' := by
  have HL := Lib.hid (list_at s h0)
  have B0 := tok_new w
  have r0 := B0.cells
  have rf := B0.thawed
  have K0 := Lib.hid ((Keep.refl w).alloc (.cells #[.int .i64 0, .string ⟨#[]⟩, .int .i64 0, .int .i64 0] 45))
  have h := byte_nat hx
  clear hG
  by_cases h1 : s.size = 1
  · have HE : Hid (oneL s.data.toList = .error 11) := Lib.hid (by
      rw [HL.out, drop_end s 1 (by omega)]
      exact (oneL_half (d := (s[0]'h0) + 1) (r := []) (.inr h) (by intro e; have := congrArg UInt8.toNat e; rw [UInt8.toNat_add, hx] at this; exact absurd this (by decide))).2)
    have q : ((s.size : Int) == 1) = true := by simp; omega
    clear h
    go_enter Tryd.func18, Tryd.ntmps18
    go_wp2_with fail
    go_region
    go_wp2_with fail
    refine bodyPost_ret (v := .tuple #[.agg #[.int .i64 0, .string ⟨#[]⟩, .int .i64 0, .int .i64 0], .int .i64 0, .iface 55 (.int .i64 11)]) (by simp [results, Tryd.results18, go_sem, r0]; done) rfl ⟨PoneR.bad HE.out zTok 0, ?_⟩
    repeat (with_reducible refine Keep.setAt ?_ ?_ _; · first | omega | (simp; done) | (simp; omega))
    first | exact K0.out | exact (Keep.refl _).alloc _ | exact ((Keep.refl _).alloc _).drew
  · have h2 : 1 < s.size := by omega
    have q : ((s.size : Int) == 1) = false := by simp; omega
    have q2 : (1 : Int) < (s.size : Int) := by omega
    have q3 : (2 : Int) ≤ (s.size : Int) := by omega
    have dl : s.data.toList = s[0] :: s[1] :: s.data.toList.drop 2 := by rw [HL.out, drop_at s 1 h2]; rfl
    rcases Bool.eq_false_or_eq_true (((s[1]'h2).toNat : Int) == 62) with d | d
    · have d' : (((s[1]'h2).toNat : Int) != 62) = false := by rw [bne, d]; rfl
      have e1 : s[1] = s[0] := UInt8.toNat_inj.1 (by have := beq_iff_eq.1 d; omega)
      have HE : Hid (oneL s.data.toList = .ok (⟨3, s.extract 0 2, 0, 0⟩, 2)) := Lib.hid (by
        rw [ext_take, dl, e1, oneL_shift (.inr h)]; rfl)
      clear h dl e1
      go_enter Tryd.func18, Tryd.ntmps18
      go_wp2_with fail
      go_region
      go_wp2_with fail
      refine bodyPost_ret (v := .tuple #[.agg #[.int .i64 3, .string (s.extract 0 2), .int .i64 0, .int .i64 0], .int .i64 2, .nilIface]) (by simp [results, Tryd.results18, go_sem, r0]; done) rfl ⟨PoneR.ok HE.out, ?_⟩
      repeat (with_reducible refine Keep.setAt ?_ ?_ _; · first | omega | (simp; done) | (simp; omega))
      first | exact K0.out | exact (Keep.refl _).alloc _ | exact ((Keep.refl _).alloc _).drew
    · have d' : (((s[1]'h2).toNat : Int) != 62) = true := by rw [bne, d]; rfl
      have e1 : s[1] ≠ s[0] := by
        intro e
        have := beq_eq_false_iff_ne.1 d
        rw [e] at this
        exact this h
      have HE : Hid (oneL s.data.toList = .error 11) := Lib.hid (by
        rw [dl]
        exact (oneL_half (.inr h) e1).1)
      clear h dl e1
      go_enter Tryd.func18, Tryd.ntmps18
      go_wp2_with fail
      go_region
      go_wp2_with fail
      refine bodyPost_ret (v := .tuple #[.agg #[.int .i64 0, .string ⟨#[]⟩, .int .i64 0, .int .i64 0], .int .i64 0, .iface 55 (.int .i64 11)]) (by simp [results, Tryd.results18, go_sem, r0]; done) rfl ⟨PoneR.bad HE.out zTok 0, ?_⟩
      repeat (with_reducible refine Keep.setAt ?_ ?_ _; · first | omega | (simp; done) | (simp; omega))
      first | exact K0.out | exact (Keep.refl _).alloc _ | exact ((Keep.refl _).alloc _).drew
set_option maxHeartbeats 2000000 in
set_option maxRecDepth 100000 in
theorem pfirst_49 (s : ByteArray) (h0 : 0 < s.size) (hs : s.size ≤ 1000000) (hx : (s[0]'h0).toNat = 49) (b : Addr) (w : World) (hG : ErrG w b) : Calls Tryd.prog 18 #[.string s] w fun e w' => PoneR s.data.toList e ∧ Keep w w' := by
  have HL := Lib.hid (list_at s h0)
  have B0 := tok_new w
  have r0 := B0.cells
  have rf := B0.thawed
  have K0 := Lib.hid ((Keep.refl w).alloc (.cells #[.int .i64 0, .string ⟨#[]⟩, .int .i64 0, .int .i64 0] 45))
  have hxx : isHexL s.data.toList = false := by
    rcases Nat.lt_or_ge 2 s.size with h | h
    · rw [isHexL_at s h, byte_nat hx]; rfl
    · exact isHexL_short s h
  have hdig : lxDigit (s[0]'h0).toNat = true := by rw [byte_nat hx]; rfl
  have CN : Hid (∀ W, ErrG W b → Calls Tryd.prog 35 #[.string s, .int .i64 0, .int .i64 (numLen s.data.toList), .int .i64 10] W fun e w' => PoneR s.data.toList e ∧ Keep W w') := Lib.hid (by
    intro W hW
    have := pnumber_any s h0 hs hdig b W hW
    unfold numAt numBase at this
    rw [hxx] at this
    exact this)
  have CS := Lib.hid (fun W => pspan_any _ _ tDigit s (by omega) W)
  unfold fnV at CS
  have e := numLen_span s.data.toList
  unfold numAt numP at e
  rw [hxx] at e
  have e' : spanL lxDigit s.data.toList = numLen s.data.toList := by rw [e]; show _ = 0 + spanL lxDigit (s.data.toList.drop 0); rw [List.drop_zero]; omega
  rw [e'] at CS
  have HG := Lib.hid (hG.keep K0.out)
  generalize numLen s.data.toList = N at CS CN
  clear e e' hxx hdig hG
  go_enter Tryd.func18, Tryd.ntmps18
  go_wp2_with ((with_reducible refine (CS.out _).mono ?_); rintro e w' ⟨rfl, rfl⟩)
  refine (CN.out _ HG.out).mono ?_
  rintro e w1 ⟨hr, hk⟩
  have B1 := B0.keep hk
  have r1 := B1.cells
  have rg := B1.thawed
  have K1 := Lib.hid (K0.out.trans hk)
  clear r0 rf hk
  unfold PoneR at hr
  cases ho : oneL s.data.toList with
  | error x =>
    rw [ho] at hr
    obtain ⟨t, n, rfl⟩ := hr
    have HO := Lib.hid ho
    clear ho
    unfold tokV errnoV
    go_wp2_with fail
    refine bodyPost_ret (v := .tuple #[.agg #[.int .i64 t.kind, .string t.text, .int .i64 t.n, .int .i64 t.pl], .int .i64 n, .iface 55 (.int .i64 x)]) (by simp [results, Tryd.results18, go_sem, r1]; done) rfl ⟨PoneR.bad HO.out t n, ?_⟩
    repeat (with_reducible refine Keep.setAt ?_ ?_ _; · first | omega | (simp; done) | (simp; omega))
    first | exact K1.out | exact (Keep.refl _).alloc _ | exact ((Keep.refl _).alloc _).drew
  | ok x =>
    obtain ⟨t, n⟩ := x
    rw [ho] at hr
    subst hr
    have HO := Lib.hid ho
    clear ho
    unfold tokV
    go_wp2_with fail
    refine bodyPost_ret (v := .tuple #[.agg #[.int .i64 t.kind, .string t.text, .int .i64 t.n, .int .i64 t.pl], .int .i64 n, .nilIface]) (by simp [results, Tryd.results18, go_sem, r1]; done) rfl ⟨PoneR.ok HO.out, ?_⟩
    repeat (with_reducible refine Keep.setAt ?_ ?_ _; · first | omega | (simp; done) | (simp; omega))
    first | exact K1.out | exact (Keep.refl _).alloc _ | exact ((Keep.refl _).alloc _).drew
set_option maxHeartbeats 2000000 in
set_option maxRecDepth 100000 in
theorem pfirst_50 (s : ByteArray) (h0 : 0 < s.size) (hs : s.size ≤ 1000000) (hx : (s[0]'h0).toNat = 50) (b : Addr) (w : World) (hG : ErrG w b) : Calls Tryd.prog 18 #[.string s] w fun e w' => PoneR s.data.toList e ∧ Keep w w' := by
  have HL := Lib.hid (list_at s h0)
  have B0 := tok_new w
  have r0 := B0.cells
  have rf := B0.thawed
  have K0 := Lib.hid ((Keep.refl w).alloc (.cells #[.int .i64 0, .string ⟨#[]⟩, .int .i64 0, .int .i64 0] 45))
  have hxx : isHexL s.data.toList = false := by
    rcases Nat.lt_or_ge 2 s.size with h | h
    · rw [isHexL_at s h, byte_nat hx]; rfl
    · exact isHexL_short s h
  have hdig : lxDigit (s[0]'h0).toNat = true := by rw [byte_nat hx]; rfl
  have CN : Hid (∀ W, ErrG W b → Calls Tryd.prog 35 #[.string s, .int .i64 0, .int .i64 (numLen s.data.toList), .int .i64 10] W fun e w' => PoneR s.data.toList e ∧ Keep W w') := Lib.hid (by
    intro W hW
    have := pnumber_any s h0 hs hdig b W hW
    unfold numAt numBase at this
    rw [hxx] at this
    exact this)
  have CS := Lib.hid (fun W => pspan_any _ _ tDigit s (by omega) W)
  unfold fnV at CS
  have e := numLen_span s.data.toList
  unfold numAt numP at e
  rw [hxx] at e
  have e' : spanL lxDigit s.data.toList = numLen s.data.toList := by rw [e]; show _ = 0 + spanL lxDigit (s.data.toList.drop 0); rw [List.drop_zero]; omega
  rw [e'] at CS
  have HG := Lib.hid (hG.keep K0.out)
  generalize numLen s.data.toList = N at CS CN
  clear e e' hxx hdig hG
  go_enter Tryd.func18, Tryd.ntmps18
  go_wp2_with ((with_reducible refine (CS.out _).mono ?_); rintro e w' ⟨rfl, rfl⟩)
  refine (CN.out _ HG.out).mono ?_
  rintro e w1 ⟨hr, hk⟩
  have B1 := B0.keep hk
  have r1 := B1.cells
  have rg := B1.thawed
  have K1 := Lib.hid (K0.out.trans hk)
  clear r0 rf hk
  unfold PoneR at hr
  cases ho : oneL s.data.toList with
  | error x =>
    rw [ho] at hr
    obtain ⟨t, n, rfl⟩ := hr
    have HO := Lib.hid ho
    clear ho
    unfold tokV errnoV
    go_wp2_with fail
    refine bodyPost_ret (v := .tuple #[.agg #[.int .i64 t.kind, .string t.text, .int .i64 t.n, .int .i64 t.pl], .int .i64 n, .iface 55 (.int .i64 x)]) (by simp [results, Tryd.results18, go_sem, r1]; done) rfl ⟨PoneR.bad HO.out t n, ?_⟩
    repeat (with_reducible refine Keep.setAt ?_ ?_ _; · first | omega | (simp; done) | (simp; omega))
    first | exact K1.out | exact (Keep.refl _).alloc _ | exact ((Keep.refl _).alloc _).drew
  | ok x =>
    obtain ⟨t, n⟩ := x
    rw [ho] at hr
    subst hr
    have HO := Lib.hid ho
    clear ho
    unfold tokV
    go_wp2_with fail
    refine bodyPost_ret (v := .tuple #[.agg #[.int .i64 t.kind, .string t.text, .int .i64 t.n, .int .i64 t.pl], .int .i64 n, .nilIface]) (by simp [results, Tryd.results18, go_sem, r1]; done) rfl ⟨PoneR.ok HO.out, ?_⟩
    repeat (with_reducible refine Keep.setAt ?_ ?_ _; · first | omega | (simp; done) | (simp; omega))
    first | exact K1.out | exact (Keep.refl _).alloc _ | exact ((Keep.refl _).alloc _).drew
set_option maxHeartbeats 2000000 in
set_option maxRecDepth 100000 in
theorem pfirst_51 (s : ByteArray) (h0 : 0 < s.size) (hs : s.size ≤ 1000000) (hx : (s[0]'h0).toNat = 51) (b : Addr) (w : World) (hG : ErrG w b) : Calls Tryd.prog 18 #[.string s] w fun e w' => PoneR s.data.toList e ∧ Keep w w' := by
  have HL := Lib.hid (list_at s h0)
  have B0 := tok_new w
  have r0 := B0.cells
  have rf := B0.thawed
  have K0 := Lib.hid ((Keep.refl w).alloc (.cells #[.int .i64 0, .string ⟨#[]⟩, .int .i64 0, .int .i64 0] 45))
  have hxx : isHexL s.data.toList = false := by
    rcases Nat.lt_or_ge 2 s.size with h | h
    · rw [isHexL_at s h, byte_nat hx]; rfl
    · exact isHexL_short s h
  have hdig : lxDigit (s[0]'h0).toNat = true := by rw [byte_nat hx]; rfl
  have CN : Hid (∀ W, ErrG W b → Calls Tryd.prog 35 #[.string s, .int .i64 0, .int .i64 (numLen s.data.toList), .int .i64 10] W fun e w' => PoneR s.data.toList e ∧ Keep W w') := Lib.hid (by
    intro W hW
    have := pnumber_any s h0 hs hdig b W hW
    unfold numAt numBase at this
    rw [hxx] at this
    exact this)
  have CS := Lib.hid (fun W => pspan_any _ _ tDigit s (by omega) W)
  unfold fnV at CS
  have e := numLen_span s.data.toList
  unfold numAt numP at e
  rw [hxx] at e
  have e' : spanL lxDigit s.data.toList = numLen s.data.toList := by rw [e]; show _ = 0 + spanL lxDigit (s.data.toList.drop 0); rw [List.drop_zero]; omega
  rw [e'] at CS
  have HG := Lib.hid (hG.keep K0.out)
  generalize numLen s.data.toList = N at CS CN
  clear e e' hxx hdig hG
  go_enter Tryd.func18, Tryd.ntmps18
  go_wp2_with ((with_reducible refine (CS.out _).mono ?_); rintro e w' ⟨rfl, rfl⟩)
  refine (CN.out _ HG.out).mono ?_
  rintro e w1 ⟨hr, hk⟩
  have B1 := B0.keep hk
  have r1 := B1.cells
  have rg := B1.thawed
  have K1 := Lib.hid (K0.out.trans hk)
  clear r0 rf hk
  unfold PoneR at hr
  cases ho : oneL s.data.toList with
  | error x =>
    rw [ho] at hr
    obtain ⟨t, n, rfl⟩ := hr
    have HO := Lib.hid ho
    clear ho
    unfold tokV errnoV
    go_wp2_with fail
    refine bodyPost_ret (v := .tuple #[.agg #[.int .i64 t.kind, .string t.text, .int .i64 t.n, .int .i64 t.pl], .int .i64 n, .iface 55 (.int .i64 x)]) (by simp [results, Tryd.results18, go_sem, r1]; done) rfl ⟨PoneR.bad HO.out t n, ?_⟩
    repeat (with_reducible refine Keep.setAt ?_ ?_ _; · first | omega | (simp; done) | (simp; omega))
    first | exact K1.out | exact (Keep.refl _).alloc _ | exact ((Keep.refl _).alloc _).drew
  | ok x =>
    obtain ⟨t, n⟩ := x
    rw [ho] at hr
    subst hr
    have HO := Lib.hid ho
    clear ho
    unfold tokV
    go_wp2_with fail
    refine bodyPost_ret (v := .tuple #[.agg #[.int .i64 t.kind, .string t.text, .int .i64 t.n, .int .i64 t.pl], .int .i64 n, .nilIface]) (by simp [results, Tryd.results18, go_sem, r1]; done) rfl ⟨PoneR.ok HO.out, ?_⟩
    repeat (with_reducible refine Keep.setAt ?_ ?_ _; · first | omega | (simp; done) | (simp; omega))
    first | exact K1.out | exact (Keep.refl _).alloc _ | exact ((Keep.refl _).alloc _).drew
set_option maxHeartbeats 2000000 in
set_option maxRecDepth 100000 in
theorem pfirst_52 (s : ByteArray) (h0 : 0 < s.size) (hs : s.size ≤ 1000000) (hx : (s[0]'h0).toNat = 52) (b : Addr) (w : World) (hG : ErrG w b) : Calls Tryd.prog 18 #[.string s] w fun e w' => PoneR s.data.toList e ∧ Keep w w' := by
  have HL := Lib.hid (list_at s h0)
  have B0 := tok_new w
  have r0 := B0.cells
  have rf := B0.thawed
  have K0 := Lib.hid ((Keep.refl w).alloc (.cells #[.int .i64 0, .string ⟨#[]⟩, .int .i64 0, .int .i64 0] 45))
  have hxx : isHexL s.data.toList = false := by
    rcases Nat.lt_or_ge 2 s.size with h | h
    · rw [isHexL_at s h, byte_nat hx]; rfl
    · exact isHexL_short s h
  have hdig : lxDigit (s[0]'h0).toNat = true := by rw [byte_nat hx]; rfl
  have CN : Hid (∀ W, ErrG W b → Calls Tryd.prog 35 #[.string s, .int .i64 0, .int .i64 (numLen s.data.toList), .int .i64 10] W fun e w' => PoneR s.data.toList e ∧ Keep W w') := Lib.hid (by
    intro W hW
    have := pnumber_any s h0 hs hdig b W hW
    unfold numAt numBase at this
    rw [hxx] at this
    exact this)
  have CS := Lib.hid (fun W => pspan_any _ _ tDigit s (by omega) W)
  unfold fnV at CS
  have e := numLen_span s.data.toList
  unfold numAt numP at e
  rw [hxx] at e
  have e' : spanL lxDigit s.data.toList = numLen s.data.toList := by rw [e]; show _ = 0 + spanL lxDigit (s.data.toList.drop 0); rw [List.drop_zero]; omega
  rw [e'] at CS
  have HG := Lib.hid (hG.keep K0.out)
  generalize numLen s.data.toList = N at CS CN
  clear e e' hxx hdig hG
  go_enter Tryd.func18, Tryd.ntmps18
  go_wp2_with ((with_reducible refine (CS.out _).mono ?_); rintro e w' ⟨rfl, rfl⟩)
  refine (CN.out _ HG.out).mono ?_
  rintro e w1 ⟨hr, hk⟩
  have B1 := B0.keep hk
  have r1 := B1.cells
  have rg := B1.thawed
  have K1 := Lib.hid (K0.out.trans hk)
  clear r0 rf hk
  unfold PoneR at hr
  cases ho : oneL s.data.toList with
  | error x =>
    rw [ho] at hr
    obtain ⟨t, n, rfl⟩ := hr
    have HO := Lib.hid ho
    clear ho
    unfold tokV errnoV
    go_wp2_with fail
    refine bodyPost_ret (v := .tuple #[.agg #[.int .i64 t.kind, .string t.text, .int .i64 t.n, .int .i64 t.pl], .int .i64 n, .iface 55 (.int .i64 x)]) (by simp [results, Tryd.results18, go_sem, r1]; done) rfl ⟨PoneR.bad HO.out t n, ?_⟩
    repeat (with_reducible refine Keep.setAt ?_ ?_ _; · first | omega | (simp; done) | (simp; omega))
    first | exact K1.out | exact (Keep.refl _).alloc _ | exact ((Keep.refl _).alloc _).drew
  | ok x =>
    obtain ⟨t, n⟩ := x
    rw [ho] at hr
    subst hr
    have HO := Lib.hid ho
    clear ho
    unfold tokV
    go_wp2_with fail
    refine bodyPost_ret (v := .tuple #[.agg #[.int .i64 t.kind, .string t.text, .int .i64 t.n, .int .i64 t.pl], .int .i64 n, .nilIface]) (by simp [results, Tryd.results18, go_sem, r1]; done) rfl ⟨PoneR.ok HO.out, ?_⟩
    repeat (with_reducible refine Keep.setAt ?_ ?_ _; · first | omega | (simp; done) | (simp; omega))
    first | exact K1.out | exact (Keep.refl _).alloc _ | exact ((Keep.refl _).alloc _).drew
set_option maxHeartbeats 2000000 in
set_option maxRecDepth 100000 in
theorem pfirst_53 (s : ByteArray) (h0 : 0 < s.size) (hs : s.size ≤ 1000000) (hx : (s[0]'h0).toNat = 53) (b : Addr) (w : World) (hG : ErrG w b) : Calls Tryd.prog 18 #[.string s] w fun e w' => PoneR s.data.toList e ∧ Keep w w' := by
  have HL := Lib.hid (list_at s h0)
  have B0 := tok_new w
  have r0 := B0.cells
  have rf := B0.thawed
  have K0 := Lib.hid ((Keep.refl w).alloc (.cells #[.int .i64 0, .string ⟨#[]⟩, .int .i64 0, .int .i64 0] 45))
  have hxx : isHexL s.data.toList = false := by
    rcases Nat.lt_or_ge 2 s.size with h | h
    · rw [isHexL_at s h, byte_nat hx]; rfl
    · exact isHexL_short s h
  have hdig : lxDigit (s[0]'h0).toNat = true := by rw [byte_nat hx]; rfl
  have CN : Hid (∀ W, ErrG W b → Calls Tryd.prog 35 #[.string s, .int .i64 0, .int .i64 (numLen s.data.toList), .int .i64 10] W fun e w' => PoneR s.data.toList e ∧ Keep W w') := Lib.hid (by
    intro W hW
    have := pnumber_any s h0 hs hdig b W hW
    unfold numAt numBase at this
    rw [hxx] at this
    exact this)
  have CS := Lib.hid (fun W => pspan_any _ _ tDigit s (by omega) W)
  unfold fnV at CS
  have e := numLen_span s.data.toList
  unfold numAt numP at e
  rw [hxx] at e
  have e' : spanL lxDigit s.data.toList = numLen s.data.toList := by rw [e]; show _ = 0 + spanL lxDigit (s.data.toList.drop 0); rw [List.drop_zero]; omega
  rw [e'] at CS
  have HG := Lib.hid (hG.keep K0.out)
  generalize numLen s.data.toList = N at CS CN
  clear e e' hxx hdig hG
  go_enter Tryd.func18, Tryd.ntmps18
  go_wp2_with ((with_reducible refine (CS.out _).mono ?_); rintro e w' ⟨rfl, rfl⟩)
  refine (CN.out _ HG.out).mono ?_
  rintro e w1 ⟨hr, hk⟩
  have B1 := B0.keep hk
  have r1 := B1.cells
  have rg := B1.thawed
  have K1 := Lib.hid (K0.out.trans hk)
  clear r0 rf hk
  unfold PoneR at hr
  cases ho : oneL s.data.toList with
  | error x =>
    rw [ho] at hr
    obtain ⟨t, n, rfl⟩ := hr
    have HO := Lib.hid ho
    clear ho
    unfold tokV errnoV
    go_wp2_with fail
    refine bodyPost_ret (v := .tuple #[.agg #[.int .i64 t.kind, .string t.text, .int .i64 t.n, .int .i64 t.pl], .int .i64 n, .iface 55 (.int .i64 x)]) (by simp [results, Tryd.results18, go_sem, r1]; done) rfl ⟨PoneR.bad HO.out t n, ?_⟩
    repeat (with_reducible refine Keep.setAt ?_ ?_ _; · first | omega | (simp; done) | (simp; omega))
    first | exact K1.out | exact (Keep.refl _).alloc _ | exact ((Keep.refl _).alloc _).drew
  | ok x =>
    obtain ⟨t, n⟩ := x
    rw [ho] at hr
    subst hr
    have HO := Lib.hid ho
    clear ho
    unfold tokV
    go_wp2_with fail
    refine bodyPost_ret (v := .tuple #[.agg #[.int .i64 t.kind, .string t.text, .int .i64 t.n, .int .i64 t.pl], .int .i64 n, .nilIface]) (by simp [results, Tryd.results18, go_sem, r1]; done) rfl ⟨PoneR.ok HO.out, ?_⟩
    repeat (with_reducible refine Keep.setAt ?_ ?_ _; · first | omega | (simp; done) | (simp; omega))
    first | exact K1.out | exact (Keep.refl _).alloc _ | exact ((Keep.refl _).alloc _).drew
set_option maxHeartbeats 2000000 in
set_option maxRecDepth 100000 in
theorem pfirst_54 (s : ByteArray) (h0 : 0 < s.size) (hs : s.size ≤ 1000000) (hx : (s[0]'h0).toNat = 54) (b : Addr) (w : World) (hG : ErrG w b) : Calls Tryd.prog 18 #[.string s] w fun e w' => PoneR s.data.toList e ∧ Keep w w' := by
  have HL := Lib.hid (list_at s h0)
  have B0 := tok_new w
  have r0 := B0.cells
  have rf := B0.thawed
  have K0 := Lib.hid ((Keep.refl w).alloc (.cells #[.int .i64 0, .string ⟨#[]⟩, .int .i64 0, .int .i64 0] 45))
  have hxx : isHexL s.data.toList = false := by
    rcases Nat.lt_or_ge 2 s.size with h | h
    · rw [isHexL_at s h, byte_nat hx]; rfl
    · exact isHexL_short s h
  have hdig : lxDigit (s[0]'h0).toNat = true := by rw [byte_nat hx]; rfl
  have CN : Hid (∀ W, ErrG W b → Calls Tryd.prog 35 #[.string s, .int .i64 0, .int .i64 (numLen s.data.toList), .int .i64 10] W fun e w' => PoneR s.data.toList e ∧ Keep W w') := Lib.hid (by
    intro W hW
    have := pnumber_any s h0 hs hdig b W hW
    unfold numAt numBase at this
    rw [hxx] at this
    exact this)
  have CS := Lib.hid (fun W => pspan_any _ _ tDigit s (by omega) W)
  unfold fnV at CS
  have e := numLen_span s.data.toList
  unfold numAt numP at e
  rw [hxx] at e
  have e' : spanL lxDigit s.data.toList = numLen s.data.toList := by rw [e]; show _ = 0 + spanL lxDigit (s.data.toList.drop 0); rw [List.drop_zero]; omega
  rw [e'] at CS
  have HG := Lib.hid (hG.keep K0.out)
  generalize numLen s.data.toList = N at CS CN
  clear e e' hxx hdig hG
  go_enter Tryd.func18, Tryd.ntmps18
  go_wp2_with ((with_reducible refine (CS.out _).mono ?_); rintro e w' ⟨rfl, rfl⟩)
  refine (CN.out _ HG.out).mono ?_
  rintro e w1 ⟨hr, hk⟩
  have B1 := B0.keep hk
  have r1 := B1.cells
  have rg := B1.thawed
  have K1 := Lib.hid (K0.out.trans hk)
  clear r0 rf hk
  unfold PoneR at hr
  cases ho : oneL s.data.toList with
  | error x =>
    rw [ho] at hr
    obtain ⟨t, n, rfl⟩ := hr
    have HO := Lib.hid ho
    clear ho
    unfold tokV errnoV
    go_wp2_with fail
    refine bodyPost_ret (v := .tuple #[.agg #[.int .i64 t.kind, .string t.text, .int .i64 t.n, .int .i64 t.pl], .int .i64 n, .iface 55 (.int .i64 x)]) (by simp [results, Tryd.results18, go_sem, r1]; done) rfl ⟨PoneR.bad HO.out t n, ?_⟩
    repeat (with_reducible refine Keep.setAt ?_ ?_ _; · first | omega | (simp; done) | (simp; omega))
    first | exact K1.out | exact (Keep.refl _).alloc _ | exact ((Keep.refl _).alloc _).drew
  | ok x =>
    obtain ⟨t, n⟩ := x
    rw [ho] at hr
    subst hr
    have HO := Lib.hid ho
    clear ho
    unfold tokV
    go_wp2_with fail
    refine bodyPost_ret (v := .tuple #[.agg #[.int .i64 t.kind, .string t.text, .int .i64 t.n, .int .i64 t.pl], .int .i64 n, .nilIface]) (by simp [results, Tryd.results18, go_sem, r1]; done) rfl ⟨PoneR.ok HO.out, ?_⟩
    repeat (with_reducible refine Keep.setAt ?_ ?_ _; · first | omega | (simp; done) | (simp; omega))
    first | exact K1.out | exact (Keep.refl _).alloc _ | exact ((Keep.refl _).alloc _).drew
set_option maxHeartbeats 2000000 in
set_option maxRecDepth 100000 in
theorem pfirst_55 (s : ByteArray) (h0 : 0 < s.size) (hs : s.size ≤ 1000000) (hx : (s[0]'h0).toNat = 55) (b : Addr) (w : World) (hG : ErrG w b) : Calls Tryd.prog 18 #[.string s] w fun e w' => PoneR s.data.toList e ∧ Keep w w' := by
  have HL := Lib.hid (list_at s h0)
  have B0 := tok_new w
  have r0 := B0.cells
  have rf := B0.thawed
  have K0 := Lib.hid ((Keep.refl w).alloc (.cells #[.int .i64 0, .string ⟨#[]⟩, .int .i64 0, .int .i64 0] 45))
  have hxx : isHexL s.data.toList = false := by
    rcases Nat.lt_or_ge 2 s.size with h | h
    · rw [isHexL_at s h, byte_nat hx]; rfl
    · exact isHexL_short s h
  have hdig : lxDigit (s[0]'h0).toNat = true := by rw [byte_nat hx]; rfl
  have CN : Hid (∀ W, ErrG W b → Calls Tryd.prog 35 #[.string s, .int .i64 0, .int .i64 (numLen s.data.toList), .int .i64 10] W fun e w' => PoneR s.data.toList e ∧ Keep W w') := Lib.hid (by
    intro W hW
    have := pnumber_any s h0 hs hdig b W hW
    unfold numAt numBase at this
    rw [hxx] at this
    exact this)
  have CS := Lib.hid (fun W => pspan_any _ _ tDigit s (by omega) W)
  unfold fnV at CS
  have e := numLen_span s.data.toList
  unfold numAt numP at e
  rw [hxx] at e
  have e' : spanL lxDigit s.data.toList = numLen s.data.toList := by rw [e]; show _ = 0 + spanL lxDigit (s.data.toList.drop 0); rw [List.drop_zero]; omega
  rw [e'] at CS
  have HG := Lib.hid (hG.keep K0.out)
  generalize numLen s.data.toList = N at CS CN
  clear e e' hxx hdig hG
  go_enter Tryd.func18, Tryd.ntmps18
  go_wp2_with ((with_reducible refine (CS.out _).mono ?_); rintro e w' ⟨rfl, rfl⟩)
  refine (CN.out _ HG.out).mono ?_
  rintro e w1 ⟨hr, hk⟩
  have B1 := B0.keep hk
  have r1 := B1.cells
  have rg := B1.thawed
  have K1 := Lib.hid (K0.out.trans hk)
  clear r0 rf hk
  unfold PoneR at hr
  cases ho : oneL s.data.toList with
  | error x =>
    rw [ho] at hr
    obtain ⟨t, n, rfl⟩ := hr
    have HO := Lib.hid ho
    clear ho
    unfold tokV errnoV
    go_wp2_with fail
    refine bodyPost_ret (v := .tuple #[.agg #[.int .i64 t.kind, .string t.text, .int .i64 t.n, .int .i64 t.pl], .int .i64 n, .iface 55 (.int .i64 x)]) (by simp [results, Tryd.results18, go_sem, r1]; done) rfl ⟨PoneR.bad HO.out t n, ?_⟩
    repeat (with_reducible refine Keep.setAt ?_ ?_ _; · first | omega | (simp; done) | (simp; omega))
    first | exact K1.out | exact (Keep.refl _).alloc _ | exact ((Keep.refl _).alloc _).drew
  | ok x =>
    obtain ⟨t, n⟩ := x
    rw [ho] at hr
    subst hr
    have HO := Lib.hid ho
    clear ho
    unfold tokV
    go_wp2_with fail
    refine bodyPost_ret (v := .tuple #[.agg #[.int .i64 t.kind, .string t.text, .int .i64 t.n, .int .i64 t.pl], .int .i64 n, .nilIface]) (by simp [results, Tryd.results18, go_sem, r1]; done) rfl ⟨PoneR.ok HO.out, ?_⟩
    repeat (with_reducible refine Keep.setAt ?_ ?_ _; · first | omega | (simp; done) | (simp; omega))
    first | exact K1.out | exact (Keep.refl _).alloc _ | exact ((Keep.refl _).alloc _).drew
set_option maxHeartbeats 2000000 in
set_option maxRecDepth 100000 in
theorem pfirst_56 (s : ByteArray) (h0 : 0 < s.size) (hs : s.size ≤ 1000000) (hx : (s[0]'h0).toNat = 56) (b : Addr) (w : World) (hG : ErrG w b) : Calls Tryd.prog 18 #[.string s] w fun e w' => PoneR s.data.toList e ∧ Keep w w' := by
  have HL := Lib.hid (list_at s h0)
  have B0 := tok_new w
  have r0 := B0.cells
  have rf := B0.thawed
  have K0 := Lib.hid ((Keep.refl w).alloc (.cells #[.int .i64 0, .string ⟨#[]⟩, .int .i64 0, .int .i64 0] 45))
  have hxx : isHexL s.data.toList = false := by
    rcases Nat.lt_or_ge 2 s.size with h | h
    · rw [isHexL_at s h, byte_nat hx]; rfl
    · exact isHexL_short s h
  have hdig : lxDigit (s[0]'h0).toNat = true := by rw [byte_nat hx]; rfl
  have CN : Hid (∀ W, ErrG W b → Calls Tryd.prog 35 #[.string s, .int .i64 0, .int .i64 (numLen s.data.toList), .int .i64 10] W fun e w' => PoneR s.data.toList e ∧ Keep W w') := Lib.hid (by
    intro W hW
    have := pnumber_any s h0 hs hdig b W hW
    unfold numAt numBase at this
    rw [hxx] at this
    exact this)
  have CS := Lib.hid (fun W => pspan_any _ _ tDigit s (by omega) W)
  unfold fnV at CS
  have e := numLen_span s.data.toList
  unfold numAt numP at e
  rw [hxx] at e
  have e' : spanL lxDigit s.data.toList = numLen s.data.toList := by rw [e]; show _ = 0 + spanL lxDigit (s.data.toList.drop 0); rw [List.drop_zero]; omega
  rw [e'] at CS
  have HG := Lib.hid (hG.keep K0.out)
  generalize numLen s.data.toList = N at CS CN
  clear e e' hxx hdig hG
  go_enter Tryd.func18, Tryd.ntmps18
  go_wp2_with ((with_reducible refine (CS.out _).mono ?_); rintro e w' ⟨rfl, rfl⟩)
  refine (CN.out _ HG.out).mono ?_
  rintro e w1 ⟨hr, hk⟩
  have B1 := B0.keep hk
  have r1 := B1.cells
  have rg := B1.thawed
  have K1 := Lib.hid (K0.out.trans hk)
  clear r0 rf hk
  unfold PoneR at hr
  cases ho : oneL s.data.toList with
  | error x =>
    rw [ho] at hr
    obtain ⟨t, n, rfl⟩ := hr
    have HO := Lib.hid ho
    clear ho
    unfold tokV errnoV
    go_wp2_with fail
    refine bodyPost_ret (v := .tuple #[.agg #[.int .i64 t.kind, .string t.text, .int .i64 t.n, .int .i64 t.pl], .int .i64 n, .iface 55 (.int .i64 x)]) (by simp [results, Tryd.results18, go_sem, r1]; done) rfl ⟨PoneR.bad HO.out t n, ?_⟩
    repeat (with_reducible refine Keep.setAt ?_ ?_ _; · first | omega | (simp; done) | (simp; omega))
    first | exact K1.out | exact (Keep.refl _).alloc _ | exact ((Keep.refl _).alloc _).drew
  | ok x =>
    obtain ⟨t, n⟩ := x
    rw [ho] at hr
    subst hr
    have HO := Lib.hid ho
    clear ho
    unfold tokV
    go_wp2_with fail
    refine bodyPost_ret (v := .tuple #[.agg #[.int .i64 t.kind, .string t.text, .int .i64 t.n, .int .i64 t.pl], .int .i64 n, .nilIface]) (by simp [results, Tryd.results18, go_sem, r1]; done) rfl ⟨PoneR.ok HO.out, ?_⟩
    repeat (with_reducible refine Keep.setAt ?_ ?_ _; · first | omega | (simp; done) | (simp; omega))
    first | exact K1.out | exact (Keep.refl _).alloc _ | exact ((Keep.refl _).alloc _).drew
set_option maxHeartbeats 2000000 in
set_option maxRecDepth 100000 in
theorem pfirst_57 (s : ByteArray) (h0 : 0 < s.size) (hs : s.size ≤ 1000000) (hx : (s[0]'h0).toNat = 57) (b : Addr) (w : World) (hG : ErrG w b) : Calls Tryd.prog 18 #[.string s] w fun e w' => PoneR s.data.toList e ∧ Keep w w' := by
  have HL := Lib.hid (list_at s h0)
  have B0 := tok_new w
  have r0 := B0.cells
  have rf := B0.thawed
  have K0 := Lib.hid ((Keep.refl w).alloc (.cells #[.int .i64 0, .string ⟨#[]⟩, .int .i64 0, .int .i64 0] 45))
  have hxx : isHexL s.data.toList = false := by
    rcases Nat.lt_or_ge 2 s.size with h | h
    · rw [isHexL_at s h, byte_nat hx]; rfl
    · exact isHexL_short s h
  have hdig : lxDigit (s[0]'h0).toNat = true := by rw [byte_nat hx]; rfl
  have CN : Hid (∀ W, ErrG W b → Calls Tryd.prog 35 #[.string s, .int .i64 0, .int .i64 (numLen s.data.toList), .int .i64 10] W fun e w' => PoneR s.data.toList e ∧ Keep W w') := Lib.hid (by
    intro W hW
    have := pnumber_any s h0 hs hdig b W hW
    unfold numAt numBase at this
    rw [hxx] at this
    exact this)
  have CS := Lib.hid (fun W => pspan_any _ _ tDigit s (by omega) W)
  unfold fnV at CS
  have e := numLen_span s.data.toList
  unfold numAt numP at e
  rw [hxx] at e
  have e' : spanL lxDigit s.data.toList = numLen s.data.toList := by rw [e]; show _ = 0 + spanL lxDigit (s.data.toList.drop 0); rw [List.drop_zero]; omega
  rw [e'] at CS
  have HG := Lib.hid (hG.keep K0.out)
  generalize numLen s.data.toList = N at CS CN
  clear e e' hxx hdig hG
  go_enter Tryd.func18, Tryd.ntmps18
  go_wp2_with ((with_reducible refine (CS.out _).mono ?_); rintro e w' ⟨rfl, rfl⟩)
  refine (CN.out _ HG.out).mono ?_
  rintro e w1 ⟨hr, hk⟩
  have B1 := B0.keep hk
  have r1 := B1.cells
  have rg := B1.thawed
  have K1 := Lib.hid (K0.out.trans hk)
  clear r0 rf hk
  unfold PoneR at hr
  cases ho : oneL s.data.toList with
  | error x =>
    rw [ho] at hr
    obtain ⟨t, n, rfl⟩ := hr
    have HO := Lib.hid ho
    clear ho
    unfold tokV errnoV
    go_wp2_with fail
    refine bodyPost_ret (v := .tuple #[.agg #[.int .i64 t.kind, .string t.text, .int .i64 t.n, .int .i64 t.pl], .int .i64 n, .iface 55 (.int .i64 x)]) (by simp [results, Tryd.results18, go_sem, r1]; done) rfl ⟨PoneR.bad HO.out t n, ?_⟩
    repeat (with_reducible refine Keep.setAt ?_ ?_ _; · first | omega | (simp; done) | (simp; omega))
    first | exact K1.out | exact (Keep.refl _).alloc _ | exact ((Keep.refl _).alloc _).drew
  | ok x =>
    obtain ⟨t, n⟩ := x
    rw [ho] at hr
    subst hr
    have HO := Lib.hid ho
    clear ho
    unfold tokV
    go_wp2_with fail
    refine bodyPost_ret (v := .tuple #[.agg #[.int .i64 t.kind, .string t.text, .int .i64 t.n, .int .i64 t.pl], .int .i64 n, .nilIface]) (by simp [results, Tryd.results18, go_sem, r1]; done) rfl ⟨PoneR.ok HO.out, ?_⟩
    repeat (with_reducible refine Keep.setAt ?_ ?_ _; · first | omega | (simp; done) | (simp; omega))
    first | exact K1.out | exact (Keep.refl _).alloc _ | exact ((Keep.refl _).alloc _).drew
set_option maxHeartbeats 2000000 in
set_option maxRecDepth 100000 in
theorem pfirst_48 (s : ByteArray) (h0 : 0 < s.size) (hs : s.size ≤ 1000000) (hx : (s[0]'h0).toNat = 48) (b : Addr) (w : World) (hG : ErrG w b) : Calls Tryd.prog 18 #[.string s] w fun e w' => PoneR s.data.toList e ∧ Keep w w' := by
  have HL := Lib.hid (list_at s h0)
  have B0 := tok_new w
  have r0 := B0.cells
  have rf := B0.thawed
  have K0 := Lib.hid ((Keep.refl w).alloc (.cells #[.int .i64 0, .string ⟨#[]⟩, .int .i64 0, .int .i64 0] 45))
  have hdig : lxDigit (s[0]'h0).toNat = true := by rw [byte_nat hx]; rfl
  have ways : (s.size ≤ 2 ∧ isHexL s.data.toList = false) ∨ ∃ h : 2 < s.size, ((((s[1]'(by omega)).toNat : Int) == 120) = false ∧ isHexL s.data.toList = false) ∨
      (((s[1]'(by omega)).toNat : Int) = 120 ∧ lxIsHex (s[2]'h).toNat = false ∧ isHexL s.data.toList = false) ∨ (((s[1]'(by omega)).toNat : Int) = 120 ∧ lxIsHex (s[2]'h).toNat = true ∧ isHexL s.data.toList = true) := by
    rcases Nat.lt_or_ge 2 s.size with h | h
    · refine .inr ⟨h, ?_⟩
      have e := isHexL_at s h
      rw [byte_nat hx] at e
      by_cases a : ((s[1]'(by omega)).toNat : Int) = 120
      · rw [beq_iff_eq.2 a] at e
        cases d : lxIsHex (s[2]'h).toNat with
        | false => exact .inr (.inl ⟨a, rfl, by rw [e]; exact d⟩)
        | true => exact .inr (.inr ⟨a, rfl, by rw [e]; exact d⟩)
      · exact .inl ⟨beq_eq_false_iff_ne.2 a, by rw [e, beq_eq_false_iff_ne.2 a]; rfl⟩
    · exact .inl ⟨h, isHexL_short s h⟩
  rcases ways with ⟨h2, hxx⟩ | ⟨h2, ⟨a1, hxx⟩ | ⟨a1, a2, hxx⟩ | ⟨a1, a2, hxx⟩⟩
  · have q : ¬ (2 : Int) < (s.size : Int) := by omega
    have CN : Hid (∀ W, ErrG W b → Calls Tryd.prog 35 #[.string s, .int .i64 0, .int .i64 (numLen s.data.toList), .int .i64 10] W fun e w' => PoneR s.data.toList e ∧ Keep W w') := Lib.hid (by
      intro W hW
      have := pnumber_any s h0 hs hdig b W hW
      unfold numAt numBase at this
      rw [hxx] at this
      exact this)
    have CS := Lib.hid (fun W => pspan_any _ _ tDigit s (by omega) W)
    unfold fnV at CS
    have e := numLen_span s.data.toList
    unfold numAt numP at e
    rw [hxx] at e
    have e' : spanL lxDigit s.data.toList = numLen s.data.toList := by rw [e]; show _ = 0 + spanL lxDigit (s.data.toList.drop 0); rw [List.drop_zero]; omega
    rw [e'] at CS
    have HG := Lib.hid (hG.keep K0.out)
    generalize numLen s.data.toList = N at CS CN
    clear e e' hxx hdig hG
    go_enter Tryd.func18, Tryd.ntmps18
    go_wp2_with ((with_reducible refine (CS.out _).mono ?_); rintro e w' ⟨rfl, rfl⟩)
    refine (CN.out _ HG.out).mono ?_
    rintro e w1 ⟨hr, hk⟩
    have B1 := B0.keep hk
    have r1 := B1.cells
    have rg := B1.thawed
    have K1 := Lib.hid (K0.out.trans hk)
    clear r0 rf hk
    unfold PoneR at hr
    cases ho : oneL s.data.toList with
    | error x =>
      rw [ho] at hr
      obtain ⟨t, n, rfl⟩ := hr
      have HO := Lib.hid ho
      clear ho
      unfold tokV errnoV
      go_wp2_with fail
      refine bodyPost_ret (v := .tuple #[.agg #[.int .i64 t.kind, .string t.text, .int .i64 t.n, .int .i64 t.pl], .int .i64 n, .iface 55 (.int .i64 x)]) (by simp [results, Tryd.results18, go_sem, r1]; done) rfl ⟨PoneR.bad HO.out t n, ?_⟩
      repeat (with_reducible refine Keep.setAt ?_ ?_ _; · first | omega | (simp; done) | (simp; omega))
      first | exact K1.out | exact (Keep.refl _).alloc _ | exact ((Keep.refl _).alloc _).drew
    | ok x =>
      obtain ⟨t, n⟩ := x
      rw [ho] at hr
      subst hr
      have HO := Lib.hid ho
      clear ho
      unfold tokV
      go_wp2_with fail
      refine bodyPost_ret (v := .tuple #[.agg #[.int .i64 t.kind, .string t.text, .int .i64 t.n, .int .i64 t.pl], .int .i64 n, .nilIface]) (by simp [results, Tryd.results18, go_sem, r1]; done) rfl ⟨PoneR.ok HO.out, ?_⟩
      repeat (with_reducible refine Keep.setAt ?_ ?_ _; · first | omega | (simp; done) | (simp; omega))
      first | exact K1.out | exact (Keep.refl _).alloc _ | exact ((Keep.refl _).alloc _).drew
  · have q : (2 : Int) < (s.size : Int) := by omega
    have q1 : (1 : Int) < (s.size : Int) := by omega
    have CN : Hid (∀ W, ErrG W b → Calls Tryd.prog 35 #[.string s, .int .i64 0, .int .i64 (numLen s.data.toList), .int .i64 10] W fun e w' => PoneR s.data.toList e ∧ Keep W w') := Lib.hid (by
      intro W hW
      have := pnumber_any s h0 hs hdig b W hW
      unfold numAt numBase at this
      rw [hxx] at this
      exact this)
    have CS := Lib.hid (fun W => pspan_any _ _ tDigit s (by omega) W)
    unfold fnV at CS
    have e := numLen_span s.data.toList
    unfold numAt numP at e
    rw [hxx] at e
    have e' : spanL lxDigit s.data.toList = numLen s.data.toList := by rw [e]; show _ = 0 + spanL lxDigit (s.data.toList.drop 0); rw [List.drop_zero]; omega
    rw [e'] at CS
    have HG := Lib.hid (hG.keep K0.out)
    generalize numLen s.data.toList = N at CS CN
    clear e e' hxx hdig hG
    go_enter Tryd.func18, Tryd.ntmps18
    go_wp2_with ((with_reducible refine (CS.out _).mono ?_); rintro e w' ⟨rfl, rfl⟩)
    refine (CN.out _ HG.out).mono ?_
    rintro e w1 ⟨hr, hk⟩
    have B1 := B0.keep hk
    have r1 := B1.cells
    have rg := B1.thawed
    have K1 := Lib.hid (K0.out.trans hk)
    clear r0 rf hk
    unfold PoneR at hr
    cases ho : oneL s.data.toList with
    | error x =>
      rw [ho] at hr
      obtain ⟨t, n, rfl⟩ := hr
      have HO := Lib.hid ho
      clear ho
      unfold tokV errnoV
      go_wp2_with fail
      refine bodyPost_ret (v := .tuple #[.agg #[.int .i64 t.kind, .string t.text, .int .i64 t.n, .int .i64 t.pl], .int .i64 n, .iface 55 (.int .i64 x)]) (by simp [results, Tryd.results18, go_sem, r1]; done) rfl ⟨PoneR.bad HO.out t n, ?_⟩
      repeat (with_reducible refine Keep.setAt ?_ ?_ _; · first | omega | (simp; done) | (simp; omega))
      first | exact K1.out | exact (Keep.refl _).alloc _ | exact ((Keep.refl _).alloc _).drew
    | ok x =>
      obtain ⟨t, n⟩ := x
      rw [ho] at hr
      subst hr
      have HO := Lib.hid ho
      clear ho
      unfold tokV
      go_wp2_with fail
      refine bodyPost_ret (v := .tuple #[.agg #[.int .i64 t.kind, .string t.text, .int .i64 t.n, .int .i64 t.pl], .int .i64 n, .nilIface]) (by simp [results, Tryd.results18, go_sem, r1]; done) rfl ⟨PoneR.ok HO.out, ?_⟩
      repeat (with_reducible refine Keep.setAt ?_ ?_ _; · first | omega | (simp; done) | (simp; omega))
      first | exact K1.out | exact (Keep.refl _).alloc _ | exact ((Keep.refl _).alloc _).drew
  · have q : (2 : Int) < (s.size : Int) := by omega
    have q1 : (1 : Int) < (s.size : Int) := by omega
    have CH := Lib.hid (fun W => phex_any (s[2]'h2).toNat W)
    rw [a2] at CH
    clear a2
    have CN : Hid (∀ W, ErrG W b → Calls Tryd.prog 35 #[.string s, .int .i64 0, .int .i64 (numLen s.data.toList), .int .i64 10] W fun e w' => PoneR s.data.toList e ∧ Keep W w') := Lib.hid (by
      intro W hW
      have := pnumber_any s h0 hs hdig b W hW
      unfold numAt numBase at this
      rw [hxx] at this
      exact this)
    have CS := Lib.hid (fun W => pspan_any _ _ tDigit s (by omega) W)
    unfold fnV at CS
    have e := numLen_span s.data.toList
    unfold numAt numP at e
    rw [hxx] at e
    have e' : spanL lxDigit s.data.toList = numLen s.data.toList := by rw [e]; show _ = 0 + spanL lxDigit (s.data.toList.drop 0); rw [List.drop_zero]; omega
    rw [e'] at CS
    have HG := Lib.hid (hG.keep K0.out)
    generalize numLen s.data.toList = N at CS CN
    clear e e' hxx hdig hG
    go_enter Tryd.func18, Tryd.ntmps18
    go_wp2_with (first | ((with_reducible refine (CS.out _).mono ?_); rintro e w' ⟨rfl, rfl⟩) | ((with_reducible refine (CH.out _).mono ?_); rintro e w' ⟨rfl, rfl⟩))
    refine (CN.out _ HG.out).mono ?_
    rintro e w1 ⟨hr, hk⟩
    have B1 := B0.keep hk
    have r1 := B1.cells
    have rg := B1.thawed
    have K1 := Lib.hid (K0.out.trans hk)
    clear r0 rf hk
    unfold PoneR at hr
    cases ho : oneL s.data.toList with
    | error x =>
      rw [ho] at hr
      obtain ⟨t, n, rfl⟩ := hr
      have HO := Lib.hid ho
      clear ho
      unfold tokV errnoV
      go_wp2_with fail
      refine bodyPost_ret (v := .tuple #[.agg #[.int .i64 t.kind, .string t.text, .int .i64 t.n, .int .i64 t.pl], .int .i64 n, .iface 55 (.int .i64 x)]) (by simp [results, Tryd.results18, go_sem, r1]; done) rfl ⟨PoneR.bad HO.out t n, ?_⟩
      repeat (with_reducible refine Keep.setAt ?_ ?_ _; · first | omega | (simp; done) | (simp; omega))
      first | exact K1.out | exact (Keep.refl _).alloc _ | exact ((Keep.refl _).alloc _).drew
    | ok x =>
      obtain ⟨t, n⟩ := x
      rw [ho] at hr
      subst hr
      have HO := Lib.hid ho
      clear ho
      unfold tokV
      go_wp2_with fail
      refine bodyPost_ret (v := .tuple #[.agg #[.int .i64 t.kind, .string t.text, .int .i64 t.n, .int .i64 t.pl], .int .i64 n, .nilIface]) (by simp [results, Tryd.results18, go_sem, r1]; done) rfl ⟨PoneR.ok HO.out, ?_⟩
      repeat (with_reducible refine Keep.setAt ?_ ?_ _; · first | omega | (simp; done) | (simp; omega))
      first | exact K1.out | exact (Keep.refl _).alloc _ | exact ((Keep.refl _).alloc _).drew
  · have q : (2 : Int) < (s.size : Int) := by omega
    have q1 : (1 : Int) < (s.size : Int) := by omega
    have q2 : (2 : Int) ≤ (s.size : Int) := by omega
    have CH := Lib.hid (fun W => phex_any (s[2]'h2).toNat W)
    rw [a2] at CH
    clear a2
    have e := numLen_span s.data.toList
    unfold numAt numP at e
    rw [hxx] at e
    have e' : numLen s.data.toList = 2 + spanL lxIsHex (s.data.toList.drop 2) := e
    have CN : Hid (∀ W, ErrG W b → Calls Tryd.prog 35 #[.string s, .int .i64 2, .int .i64 (2 + (spanL lxIsHex (s.data.toList.drop 2) : Int)), .int .i64 16] W fun e w' => PoneR s.data.toList e ∧ Keep W w') := Lib.hid (by
      intro W hW
      have := pnumber_any s h0 hs hdig b W hW
      unfold numAt numBase at this
      rw [hxx, e'] at this
      rw [show (2 : Int) + (spanL lxIsHex (s.data.toList.drop 2) : Int) = ((2 + spanL lxIsHex (s.data.toList.drop 2) : Nat) : Int) by omega]
      exact this)
    have CS := Lib.hid (fun W => pspan_any _ _ tHex (s.extract 2 s.size) (by rw [ByteArray.size_extract]; omega) W)
    unfold fnV at CS
    rw [drop_ext] at CS
    have HG := Lib.hid (hG.keep K0.out)
    have kb := spanL_le lxIsHex (s.data.toList.drop 2)
    rw [List.length_drop, show s.data.toList.length = s.size by simp] at kb
    generalize spanL lxIsHex (s.data.toList.drop 2) = N at CS CN kb
    clear e e' hxx hdig hG
    go_enter Tryd.func18, Tryd.ntmps18
    go_wp2_with (first | ((with_reducible refine (CS.out _).mono ?_); rintro e w' ⟨rfl, rfl⟩) | ((with_reducible refine (CH.out _).mono ?_); rintro e w' ⟨rfl, rfl⟩))
    refine (CN.out _ HG.out).mono ?_
    rintro e w1 ⟨hr, hk⟩
    have B1 := B0.keep hk
    have r1 := B1.cells
    have rg := B1.thawed
    have K1 := Lib.hid (K0.out.trans hk)
    clear r0 rf hk
    unfold PoneR at hr
    cases ho : oneL s.data.toList with
    | error x =>
      rw [ho] at hr
      obtain ⟨t, n, rfl⟩ := hr
      have HO := Lib.hid ho
      clear ho
      unfold tokV errnoV
      go_wp2_with fail
      refine bodyPost_ret (v := .tuple #[.agg #[.int .i64 t.kind, .string t.text, .int .i64 t.n, .int .i64 t.pl], .int .i64 n, .iface 55 (.int .i64 x)]) (by simp [results, Tryd.results18, go_sem, r1]; done) rfl ⟨PoneR.bad HO.out t n, ?_⟩
      repeat (with_reducible refine Keep.setAt ?_ ?_ _; · first | omega | (simp; done) | (simp; omega))
      first | exact K1.out | exact (Keep.refl _).alloc _ | exact ((Keep.refl _).alloc _).drew
    | ok x =>
      obtain ⟨t, n⟩ := x
      rw [ho] at hr
      subst hr
      have HO := Lib.hid ho
      clear ho
      unfold tokV
      go_wp2_with fail
      refine bodyPost_ret (v := .tuple #[.agg #[.int .i64 t.kind, .string t.text, .int .i64 t.n, .int .i64 t.pl], .int .i64 n, .nilIface]) (by simp [results, Tryd.results18, go_sem, r1]; done) rfl ⟨PoneR.ok HO.out, ?_⟩
      repeat (with_reducible refine Keep.setAt ?_ ?_ _; · first | omega | (simp; done) | (simp; omega))
      first | exact K1.out | exact (Keep.refl _).alloc _ | exact ((Keep.refl _).alloc _).drew
set_option maxHeartbeats 2000000 in
set_option maxRecDepth 100000 in
theorem pfirst_else (s : ByteArray) (h0 : 0 < s.size) (hs : s.size ≤ 1000000) (hx : (s[0]'h0).toNat ≠ 34 ∧ (s[0]'h0).toNat ≠ 46 ∧ (s[0]'h0).toNat ≠ 60 ∧ (s[0]'h0).toNat ≠ 62 ∧ (s[0]'h0).toNat ≠ 40 ∧ (s[0]'h0).toNat ≠ 41 ∧ (s[0]'h0).toNat ≠ 44 ∧ (s[0]'h0).toNat ≠ 58 ∧ (s[0]'h0).toNat ≠ 43 ∧ (s[0]'h0).toNat ≠ 45 ∧ (s[0]'h0).toNat ≠ 42 ∧ (s[0]'h0).toNat ≠ 38 ∧ (s[0]'h0).toNat ≠ 124 ∧ (s[0]'h0).toNat ≠ 94 ∧ (s[0]'h0).toNat ≠ 126 ∧ (s[0]'h0).toNat ≠ 48 ∧ (s[0]'h0).toNat ≠ 49 ∧ (s[0]'h0).toNat ≠ 50 ∧ (s[0]'h0).toNat ≠ 51 ∧ (s[0]'h0).toNat ≠ 52 ∧ (s[0]'h0).toNat ≠ 53 ∧ (s[0]'h0).toNat ≠ 54 ∧ (s[0]'h0).toNat ≠ 55 ∧ (s[0]'h0).toNat ≠ 56 ∧ (s[0]'h0).toNat ≠ 57) (b : Addr) (w : World) (hG : ErrG w b) : Calls Tryd.prog 18 #[.string s] w fun e w' => PoneR s.data.toList e ∧ Keep w w' := by
  have HL := Lib.hid (list_at s h0)
  have B0 := tok_new w
  have r0 := B0.cells
  have rf := B0.thawed
  have K0 := Lib.hid ((Keep.refl w).alloc (.cells #[.int .i64 0, .string ⟨#[]⟩, .int .i64 0, .int .i64 0] 45))
  obtain ⟨n34, n46, n60, n62, n40, n41, n44, n58, n43, n45, n42, n38, n124, n94, n126, n48, n49, n50, n51, n52, n53, n54, n55, n56, n57⟩ := hx
  have HC := Lib.hid (fun W => pname_any s h0 hs W fun hl => by
    rw [HL.out]
    refine oneL_none hl (by rw [← Bool.not_eq_true, lxDigit_iff]; omega) (by omega) ?_ (by omega) (by omega)
    simp only [lxSigns, List.mem_cons, List.not_mem_nil, or_false]
    omega)
  have m34 : (((s[0]'h0).toNat : Int) == 34) = false := by simp; omega
  have m46 : (((s[0]'h0).toNat : Int) == 46) = false := by simp; omega
  have m60 : (((s[0]'h0).toNat : Int) == 60) = false := by simp; omega
  have m62 : (((s[0]'h0).toNat : Int) == 62) = false := by simp; omega
  have m40 : (((s[0]'h0).toNat : Int) == 40) = false := by simp; omega
  have m41 : (((s[0]'h0).toNat : Int) == 41) = false := by simp; omega
  have m44 : (((s[0]'h0).toNat : Int) == 44) = false := by simp; omega
  have m58 : (((s[0]'h0).toNat : Int) == 58) = false := by simp; omega
  have m43 : (((s[0]'h0).toNat : Int) == 43) = false := by simp; omega
  have m45 : (((s[0]'h0).toNat : Int) == 45) = false := by simp; omega
  have m42 : (((s[0]'h0).toNat : Int) == 42) = false := by simp; omega
  have m38 : (((s[0]'h0).toNat : Int) == 38) = false := by simp; omega
  have m124 : (((s[0]'h0).toNat : Int) == 124) = false := by simp; omega
  have m94 : (((s[0]'h0).toNat : Int) == 94) = false := by simp; omega
  have m126 : (((s[0]'h0).toNat : Int) == 126) = false := by simp; omega
  have m48 : (((s[0]'h0).toNat : Int) == 48) = false := by simp; omega
  have m49 : (((s[0]'h0).toNat : Int) == 49) = false := by simp; omega
  have m50 : (((s[0]'h0).toNat : Int) == 50) = false := by simp; omega
  have m51 : (((s[0]'h0).toNat : Int) == 51) = false := by simp; omega
  have m52 : (((s[0]'h0).toNat : Int) == 52) = false := by simp; omega
  have m53 : (((s[0]'h0).toNat : Int) == 53) = false := by simp; omega
  have m54 : (((s[0]'h0).toNat : Int) == 54) = false := by simp; omega
  have m55 : (((s[0]'h0).toNat : Int) == 55) = false := by simp; omega
  have m56 : (((s[0]'h0).toNat : Int) == 56) = false := by simp; omega
  have m57 : (((s[0]'h0).toNat : Int) == 57) = false := by simp; omega
  clear hG n34 n46 n60 n62 n40 n41 n44 n58 n43 n45 n42 n38 n124 n94 n126 n48 n49 n50 n51 n52 n53 n54 n55 n56 n57
  go_enter Tryd.func18, Tryd.ntmps18
  go_wp2_with fail
  refine (HC.out _).mono ?_
  rintro e w1 ⟨hr, hk⟩
  have B1 := B0.keep hk
  have r1 := B1.cells
  have rg := B1.thawed
  have K1 := Lib.hid (K0.out.trans hk)
  clear r0 rf hk
  unfold PoneR at hr
  cases ho : oneL s.data.toList with
  | error x =>
    rw [ho] at hr
    obtain ⟨t, n, rfl⟩ := hr
    have HO := Lib.hid ho
    clear ho
    unfold tokV errnoV
    go_wp2_with fail
    refine bodyPost_ret (v := .tuple #[.agg #[.int .i64 t.kind, .string t.text, .int .i64 t.n, .int .i64 t.pl], .int .i64 n, .iface 55 (.int .i64 x)]) (by simp [results, Tryd.results18, go_sem, r1]; done) rfl ⟨PoneR.bad HO.out t n, ?_⟩
    repeat (with_reducible refine Keep.setAt ?_ ?_ _; · first | omega | (simp; done) | (simp; omega))
    first | exact K1.out | exact (Keep.refl _).alloc _ | exact ((Keep.refl _).alloc _).drew
  | ok x =>
    obtain ⟨t, n⟩ := x
    rw [ho] at hr
    subst hr
    have HO := Lib.hid ho
    clear ho
    unfold tokV
    go_wp2_with fail
    refine bodyPost_ret (v := .tuple #[.agg #[.int .i64 t.kind, .string t.text, .int .i64 t.n, .int .i64 t.pl], .int .i64 n, .nilIface]) (by simp [results, Tryd.results18, go_sem, r1]; done) rfl ⟨PoneR.ok HO.out, ?_⟩
    repeat (with_reducible refine Keep.setAt ?_ ?_ _; · first | omega | (simp; done) | (simp; omega))
    first | exact K1.out | exact (Keep.refl _).alloc _ | exact ((Keep.refl _).alloc _).drew
theorem pfirst_any (s : ByteArray) (h0 : 0 < s.size) (hs : s.size ≤ 1000000) (b : Addr) (w : World) (hG : ErrG w b) : Calls Tryd.prog 18 #[.string s] w fun e w' => PoneR s.data.toList e ∧ Keep w w' := by
  by_cases n34 : (s[0]'h0).toNat = 34
  · exact pfirst_34 s h0 hs n34 b w hG
  by_cases n46 : (s[0]'h0).toNat = 46
  · exact pfirst_46 s h0 hs n46 b w hG
  by_cases n60 : (s[0]'h0).toNat = 60
  · exact pfirst_60 s h0 hs n60 b w hG
  by_cases n62 : (s[0]'h0).toNat = 62
  · exact pfirst_62 s h0 hs n62 b w hG
  by_cases n40 : (s[0]'h0).toNat = 40
  · exact pfirst_40 s h0 hs n40 b w hG
  by_cases n41 : (s[0]'h0).toNat = 41
  · exact pfirst_41 s h0 hs n41 b w hG
  by_cases n44 : (s[0]'h0).toNat = 44
  · exact pfirst_44 s h0 hs n44 b w hG
  by_cases n58 : (s[0]'h0).toNat = 58
  · exact pfirst_58 s h0 hs n58 b w hG
  by_cases n43 : (s[0]'h0).toNat = 43
  · exact pfirst_43 s h0 hs n43 b w hG
  by_cases n45 : (s[0]'h0).toNat = 45
  · exact pfirst_45 s h0 hs n45 b w hG
  by_cases n42 : (s[0]'h0).toNat = 42
  · exact pfirst_42 s h0 hs n42 b w hG
  by_cases n38 : (s[0]'h0).toNat = 38
  · exact pfirst_38 s h0 hs n38 b w hG
  by_cases n124 : (s[0]'h0).toNat = 124
  · exact pfirst_124 s h0 hs n124 b w hG
  by_cases n94 : (s[0]'h0).toNat = 94
  · exact pfirst_94 s h0 hs n94 b w hG
  by_cases n126 : (s[0]'h0).toNat = 126
  · exact pfirst_126 s h0 hs n126 b w hG
  by_cases n48 : (s[0]'h0).toNat = 48
  · exact pfirst_48 s h0 hs n48 b w hG
  by_cases n49 : (s[0]'h0).toNat = 49
  · exact pfirst_49 s h0 hs n49 b w hG
  by_cases n50 : (s[0]'h0).toNat = 50
  · exact pfirst_50 s h0 hs n50 b w hG
  by_cases n51 : (s[0]'h0).toNat = 51
  · exact pfirst_51 s h0 hs n51 b w hG
  by_cases n52 : (s[0]'h0).toNat = 52
  · exact pfirst_52 s h0 hs n52 b w hG
  by_cases n53 : (s[0]'h0).toNat = 53
  · exact pfirst_53 s h0 hs n53 b w hG
  by_cases n54 : (s[0]'h0).toNat = 54
  · exact pfirst_54 s h0 hs n54 b w hG
  by_cases n55 : (s[0]'h0).toNat = 55
  · exact pfirst_55 s h0 hs n55 b w hG
  by_cases n56 : (s[0]'h0).toNat = 56
  · exact pfirst_56 s h0 hs n56 b w hG
  by_cases n57 : (s[0]'h0).toNat = 57
  · exact pfirst_57 s h0 hs n57 b w hG
  exact pfirst_else s h0 hs ⟨n34, n46, n60, n62, n40, n41, n44, n58, n43, n45, n42, n38, n124, n94, n126, n48, n49, n50, n51, n52, n53, n54, n55, n56, n57⟩ b w hG
end Go.Proofs.YtcdepfdfemmfhaaDoor
