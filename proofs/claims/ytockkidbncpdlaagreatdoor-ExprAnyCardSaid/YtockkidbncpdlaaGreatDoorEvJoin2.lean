/- The reference's join: what a sign makes of two numbers. -/
import Derived.Test.YtockkidbncpdlaaGreatDoorEvJoin
import Derived.IntWalk
namespace Go.Proofs.YtockkidbncpdlaaGreatDoor
set_option linter.unusedVariables false
set_option linter.unusedSimpArgs false
open Go.RowKit
theorem rbound_any (r : Rdr) (c n pl : Int) (w : World) (h : r.Ok w c) : Calls Tryz.prog 56 #[.pointer (some ⟨r.b, 0, none⟩), .int .i64 n, .int .i64 pl] w (JoinR r pl (boundE n) w) := by
  cases hb : boundE n with
  | none => exact (rbound_over r c n pl w h hb).mono fun x w' ⟨a, b⟩ => by subst a; exact JoinR.bad rfl b
  | some m =>
    have hm : m = n := by
      unfold boundE at hb
      split at hb
      · cases hb
      · cases hb; rfl
    subst hm
    exact (rbound_ok r c m pl w h hb).mono fun x w' ⟨a, b⟩ => by subst a; subst b; exact JoinR.ok rfl
theorem rjoin_bad (r : Rdr) (pl' e' : Int) (s : ByteArray) (a b pl : Int) (w : World) (h : r.Bad w pl' e') : Calls Tryz.prog 32 #[.pointer (some ⟨r.b, 0, none⟩), .string s, .int .i64 a, .int .i64 b, .int .i64 pl] w fun x w' => x = .returned (.int .i64 0) ∧ w = w' := by
  obtain ⟨he, a, h⟩ := h
  unfold Rdr.cells at h
  have c := h.cells
  have he' : (e' == 0) = false := beq_eq_false_iff_ne.2 he
  have he2 : (e' != 0) = true := by rw [bne, he']; rfl
  clear h he
  go_enter Tryz.func32, Tryz.ntmps32
  go_wp2_with fail
  go_ret
  exact ⟨rfl, rfl⟩
theorem pow_bd (n : Nat) (h : n ≤ 40) : (1 : Int) ≤ 2 ^ n ∧ (2 : Int) ^ n ≤ 1099511627776 := by
  have h1 : 2 ^ n ≤ 2 ^ 40 := Nat.pow_le_pow_right (by decide) h
  have h2 : 1 ≤ 2 ^ n := Nat.one_le_two_pow
  have e : (2 : Int) ^ n = ((2 ^ n : Nat) : Int) := by simp
  rw [e]
  omega
set_option maxHeartbeats 1000000 in
set_option maxRecDepth 100000 in
theorem rjoin_bar (r : Rdr) (c a b pl : Int) (w : World) (h : r.Ok w c) (ha : InB a) (hb : InB b) : Calls Tryz.prog 32 #[.pointer (some ⟨r.b, 0, none⟩), .string sBar, .int .i64 a, .int .i64 b, .int .i64 pl] w (JoinR r pl (joinE sBar a b) w) := by
  have E : joinE sBar a b = boundE (bits .or .i64 a b) := by unfold joinE; rw [if_pos rfl]
  rw [E]
  clear E
  obtain ⟨n, hn⟩ : ∃ n, bits .or .i64 a b = n := ⟨_, rfl⟩
  rw [hn]
  have C := Lib.hid (rbound_any r c n pl w h)
  have HB := Lib.hid h
  have cc := h.cells
  unfold Rdr.cells at cc
  clear h ha hb
  unfold sBar
  go_enter Tryz.func32, Tryz.ntmps32
  go_wp2_with fail
  refine C.out.mono ?_
  intro e w' hj
  cases hbn : boundE n with
  | none =>
    have HN := Lib.hid hbn
    rw [hbn] at hj
    obtain ⟨rfl, hk⟩ := hj
    have HK := Lib.hid hk
    clear hk hbn cc hn
    go_wp2_with fail
    go_ret
    exact JoinR.bad HN.out HK.out
  | some m =>
    have HN := Lib.hid hbn
    rw [hbn] at hj
    obtain ⟨rfl, rfl⟩ := hj
    clear hbn hn
    go_wp2_with fail
    go_ret
    exact JoinR.ok HN.out
set_option maxHeartbeats 1000000 in
set_option maxRecDepth 100000 in
theorem rjoin_hat (r : Rdr) (c a b pl : Int) (w : World) (h : r.Ok w c) (ha : InB a) (hb : InB b) : Calls Tryz.prog 32 #[.pointer (some ⟨r.b, 0, none⟩), .string sHat, .int .i64 a, .int .i64 b, .int .i64 pl] w (JoinR r pl (joinE sHat a b) w) := by
  have E : joinE sHat a b = boundE (bits .xor .i64 a b) := by unfold joinE; rw [if_neg (by decide), if_pos rfl]
  rw [E]
  clear E
  obtain ⟨n, hn⟩ : ∃ n, bits .xor .i64 a b = n := ⟨_, rfl⟩
  rw [hn]
  have C := Lib.hid (rbound_any r c n pl w h)
  have HB := Lib.hid h
  have cc := h.cells
  unfold Rdr.cells at cc
  clear h ha hb
  unfold sHat
  go_enter Tryz.func32, Tryz.ntmps32
  go_wp2_with fail
  refine C.out.mono ?_
  intro e w' hj
  cases hbn : boundE n with
  | none =>
    have HN := Lib.hid hbn
    rw [hbn] at hj
    obtain ⟨rfl, hk⟩ := hj
    have HK := Lib.hid hk
    clear hk hbn cc hn
    go_wp2_with fail
    go_ret
    exact JoinR.bad HN.out HK.out
  | some m =>
    have HN := Lib.hid hbn
    rw [hbn] at hj
    obtain ⟨rfl, rfl⟩ := hj
    clear hbn hn
    go_wp2_with fail
    go_ret
    exact JoinR.ok HN.out
set_option maxHeartbeats 1000000 in
set_option maxRecDepth 100000 in
theorem rjoin_amp (r : Rdr) (c a b pl : Int) (w : World) (h : r.Ok w c) (ha : InB a) (hb : InB b) : Calls Tryz.prog 32 #[.pointer (some ⟨r.b, 0, none⟩), .string sAmp, .int .i64 a, .int .i64 b, .int .i64 pl] w (JoinR r pl (joinE sAmp a b) w) := by
  have E : joinE sAmp a b = boundE (bits .and .i64 a b) := by unfold joinE; rw [if_neg (by decide), if_neg (by decide), if_pos rfl]
  rw [E]
  clear E
  obtain ⟨n, hn⟩ : ∃ n, bits .and .i64 a b = n := ⟨_, rfl⟩
  rw [hn]
  have C := Lib.hid (rbound_any r c n pl w h)
  have HB := Lib.hid h
  have cc := h.cells
  unfold Rdr.cells at cc
  clear h ha hb
  unfold sAmp
  go_enter Tryz.func32, Tryz.ntmps32
  go_wp2_with fail
  refine C.out.mono ?_
  intro e w' hj
  cases hbn : boundE n with
  | none =>
    have HN := Lib.hid hbn
    rw [hbn] at hj
    obtain ⟨rfl, hk⟩ := hj
    have HK := Lib.hid hk
    clear hk hbn cc hn
    go_wp2_with fail
    go_ret
    exact JoinR.bad HN.out HK.out
  | some m =>
    have HN := Lib.hid hbn
    rw [hbn] at hj
    obtain ⟨rfl, rfl⟩ := hj
    clear hbn hn
    go_wp2_with fail
    go_ret
    exact JoinR.ok HN.out
set_option maxHeartbeats 1000000 in
set_option maxRecDepth 100000 in
theorem rjoin_add (r : Rdr) (c a b pl : Int) (w : World) (h : r.Ok w c) (ha : InB a) (hb : InB b) : Calls Tryz.prog 32 #[.pointer (some ⟨r.b, 0, none⟩), .string sAdd, .int .i64 a, .int .i64 b, .int .i64 pl] w (JoinR r pl (joinE sAdd a b) w) := by
  have E : joinE sAdd a b = boundE (a + b) := by unfold joinE; rw [if_neg (by decide), if_neg (by decide), if_neg (by decide), if_pos rfl]
  rw [E]
  clear E
  have C := Lib.hid (rbound_any r c (a + b) pl w h)
  have HB := Lib.hid h
  have cc := h.cells
  unfold Rdr.cells at cc
  obtain ⟨a0, a1⟩ := ha
  obtain ⟨b0, b1⟩ := hb
  clear h
  unfold sAdd
  go_enter Tryz.func32, Tryz.ntmps32
  go_wp2_with fail
  refine C.out.mono ?_
  intro e w' hj
  cases hbn : boundE (a + b) with
  | none =>
    have HN := Lib.hid hbn
    rw [hbn] at hj
    obtain ⟨rfl, hk⟩ := hj
    have HK := Lib.hid hk
    clear hk hbn cc
    go_wp2_with fail
    go_ret
    exact JoinR.bad HN.out HK.out
  | some m =>
    have HN := Lib.hid hbn
    rw [hbn] at hj
    obtain ⟨rfl, rfl⟩ := hj
    clear hbn
    go_wp2_with fail
    go_ret
    exact JoinR.ok HN.out
set_option maxHeartbeats 1000000 in
set_option maxRecDepth 100000 in
theorem rjoin_sub (r : Rdr) (c a b pl : Int) (w : World) (h : r.Ok w c) (ha : InB a) (hb : InB b) : Calls Tryz.prog 32 #[.pointer (some ⟨r.b, 0, none⟩), .string sSub, .int .i64 a, .int .i64 b, .int .i64 pl] w (JoinR r pl (joinE sSub a b) w) := by
  have E : joinE sSub a b = boundE (a - b) := by unfold joinE; rw [if_neg (by decide), if_neg (by decide), if_neg (by decide), if_neg (by decide), if_pos rfl]
  rw [E]
  clear E
  have C := Lib.hid (rbound_any r c (a - b) pl w h)
  have HB := Lib.hid h
  have cc := h.cells
  unfold Rdr.cells at cc
  obtain ⟨a0, a1⟩ := ha
  obtain ⟨b0, b1⟩ := hb
  clear h
  unfold sSub
  go_enter Tryz.func32, Tryz.ntmps32
  go_wp2_with fail
  refine C.out.mono ?_
  intro e w' hj
  cases hbn : boundE (a - b) with
  | none =>
    have HN := Lib.hid hbn
    rw [hbn] at hj
    obtain ⟨rfl, hk⟩ := hj
    have HK := Lib.hid hk
    clear hk hbn cc
    go_wp2_with fail
    go_ret
    exact JoinR.bad HN.out HK.out
  | some m =>
    have HN := Lib.hid hbn
    rw [hbn] at hj
    obtain ⟨rfl, rfl⟩ := hj
    clear hbn
    go_wp2_with fail
    go_ret
    exact JoinR.ok HN.out
set_option maxHeartbeats 1000000 in
set_option maxRecDepth 100000 in
theorem rjoin_mul (r : Rdr) (c a b pl : Int) (w : World) (h : r.Ok w c) (ha : InB a) (hb : InB b) : Calls Tryz.prog 32 #[.pointer (some ⟨r.b, 0, none⟩), .string sMul, .int .i64 a, .int .i64 b, .int .i64 pl] w (JoinR r pl (joinE sMul a b) w) := by
  have E : joinE sMul a b = timesE a b := by unfold joinE; rw [if_neg (by decide), if_neg (by decide), if_neg (by decide), if_neg (by decide), if_neg (by decide), if_pos rfl]
  rw [E]
  clear E
  have C := Lib.hid (rtimes_any r c a b pl w h ha hb)
  have HB := Lib.hid h
  have cc := h.cells
  unfold Rdr.cells at cc
  clear h ha hb
  unfold sMul
  go_enter Tryz.func32, Tryz.ntmps32
  go_wp2_with fail
  refine C.out.mono ?_
  intro e w' hj
  cases hbn : timesE a b with
  | none =>
    have HN := Lib.hid hbn
    rw [hbn] at hj
    obtain ⟨rfl, hk⟩ := hj
    have HK := Lib.hid hk
    clear hk hbn cc
    go_wp2_with fail
    go_ret
    exact JoinR.bad HN.out HK.out
  | some m =>
    have HN := Lib.hid hbn
    rw [hbn] at hj
    obtain ⟨rfl, rfl⟩ := hj
    clear hbn
    go_wp2_with fail
    go_ret
    exact JoinR.ok HN.out
set_option maxHeartbeats 1000000 in
set_option maxRecDepth 100000 in
theorem rjoin_shr (r : Rdr) (c a b pl : Int) (w : World) (h : r.Ok w c) (ha : InB a) (hb : InB b) : Calls Tryz.prog 32 #[.pointer (some ⟨r.b, 0, none⟩), .string sShr, .int .i64 a, .int .i64 b, .int .i64 pl] w (JoinR r pl (joinE sShr a b) w) := by
  have HB := Lib.hid h
  have cc := h.cells
  unfold Rdr.cells at cc
  have CF := Lib.hid (rfail_ok r c pl 14 (by decide) w h)
  obtain ⟨b0, b1⟩ := hb
  by_cases lo : b < 0
  · have E : joinE sShr a b = none := by unfold joinE; rw [if_neg (by decide), if_neg (by decide), if_neg (by decide), if_neg (by decide), if_neg (by decide), if_neg (by decide), if_pos (.inl lo)]
    rw [E]
    clear E h ha
    unfold sShr
    go_enter Tryz.func32, Tryz.ntmps32
    go_wp2_with fail
    refine CF.out.mono ?_
    rintro e w' ⟨rfl, hk⟩
    have HK := Lib.hid hk
    clear hk cc
    go_wp2_with fail
    go_ret
    exact JoinR.bad rfl HK.out
  · by_cases hi : 40 < b
    · have E : joinE sShr a b = none := by unfold joinE; rw [if_neg (by decide), if_neg (by decide), if_neg (by decide), if_neg (by decide), if_neg (by decide), if_neg (by decide), if_pos (.inr hi)]
      rw [E]
      have lo' : decide (b < 0) = false := decide_eq_false lo
      clear E h ha
      unfold sShr
      go_enter Tryz.func32, Tryz.ntmps32
      go_wp2_with fail
      refine CF.out.mono ?_
      rintro e w' ⟨rfl, hk⟩
      have HK := Lib.hid hk
      clear hk cc
      go_wp2_with fail
      go_ret
      exact JoinR.bad rfl HK.out
    · have lo2 : 0 ≤ b := by omega
      have hi2 : b ≤ 40 := by omega
      have E : joinE sShr a b = some (a / 2 ^ b.toNat) := by unfold joinE; rw [if_neg (by decide), if_neg (by decide), if_neg (by decide), if_neg (by decide), if_neg (by decide), if_neg (by decide), if_neg (by omega), if_pos rfl]
      rw [E]
      clear E h
      obtain ⟨a0, a1⟩ := ha
      unfold sShr
      go_enter Tryz.func32, Tryz.ntmps32
      go_wp2_with fail
      go_ret
      exact JoinR.ok rfl
set_option maxHeartbeats 1000000 in
set_option maxRecDepth 100000 in
theorem rjoin_shl (r : Rdr) (c a b pl : Int) (w : World) (h : r.Ok w c) (ha : InB a) (hb : InB b) : Calls Tryz.prog 32 #[.pointer (some ⟨r.b, 0, none⟩), .string sShl, .int .i64 a, .int .i64 b, .int .i64 pl] w (JoinR r pl (joinE sShl a b) w) := by
  have HB := Lib.hid h
  have cc := h.cells
  unfold Rdr.cells at cc
  have CF := Lib.hid (rfail_ok r c pl 14 (by decide) w h)
  obtain ⟨b0, b1⟩ := hb
  by_cases lo : b < 0
  · have E : joinE sShl a b = none := by unfold joinE; rw [if_neg (by decide), if_neg (by decide), if_neg (by decide), if_neg (by decide), if_neg (by decide), if_neg (by decide), if_pos (.inl lo)]
    rw [E]
    clear E h ha
    unfold sShl
    go_enter Tryz.func32, Tryz.ntmps32
    go_wp2_with fail
    refine CF.out.mono ?_
    rintro e w' ⟨rfl, hk⟩
    have HK := Lib.hid hk
    clear hk cc
    go_wp2_with fail
    go_ret
    exact JoinR.bad rfl HK.out
  · by_cases hi : 40 < b
    · have E : joinE sShl a b = none := by unfold joinE; rw [if_neg (by decide), if_neg (by decide), if_neg (by decide), if_neg (by decide), if_neg (by decide), if_neg (by decide), if_pos (.inr hi)]
      rw [E]
      have lo' : decide (b < 0) = false := decide_eq_false lo
      clear E h ha
      unfold sShl
      go_enter Tryz.func32, Tryz.ntmps32
      go_wp2_with fail
      refine CF.out.mono ?_
      rintro e w' ⟨rfl, hk⟩
      have HK := Lib.hid hk
      clear hk cc
      go_wp2_with fail
      go_ret
      exact JoinR.bad rfl HK.out
    · have lo2 : 0 ≤ b := by omega
      have hi2 : b ≤ 40 := by omega
      have E : joinE sShl a b = timesE a (2 ^ b.toNat) := by unfold joinE; rw [if_neg (by decide), if_neg (by decide), if_neg (by decide), if_neg (by decide), if_neg (by decide), if_neg (by decide), if_neg (by omega), if_neg (by decide)]
      rw [E]
      obtain ⟨p0, p1⟩ := pow_bd b.toNat (by omega)
      have C := Lib.hid (rtimes_any r c a (2 ^ b.toNat) pl w h ha ⟨by omega, p1⟩)
      have hw : IntKind.i64.wrap (1 * 2 ^ b.toNat) = 2 ^ b.toNat := by rw [Int.one_mul, IntKind.wrap_i64]; omega
      have hw2 : IntKind.i64.wrap (2 ^ b.toNat) = 2 ^ b.toNat := by rw [IntKind.wrap_i64]; omega
      clear E h ha
      unfold sShl
      go_enter Tryz.func32, Tryz.ntmps32
      go_wp2_with fail
      refine C.out.mono ?_
      intro e w' hj
      cases hbn : timesE a (2 ^ b.toNat) with
      | none =>
        have HN := Lib.hid hbn
        rw [hbn] at hj
        obtain ⟨rfl, hk⟩ := hj
        have HK := Lib.hid hk
        clear hk hbn cc
        go_wp2_with fail
        go_ret
        exact JoinR.bad HN.out HK.out
      | some m =>
        have HN := Lib.hid hbn
        rw [hbn] at hj
        obtain ⟨rfl, rfl⟩ := hj
        clear hbn
        go_wp2_with fail
        go_ret
        exact JoinR.ok HN.out
theorem rjoin_any (r : Rdr) (c : Int) (s : ByteArray) (a b pl : Int) (w : World) (h : r.Ok w c) (ha : InB a) (hb : InB b) (hs : s = sBar ∨ s = sHat ∨ s = sAmp ∨ s = sShl ∨ s = sShr ∨ s = sAdd ∨ s = sSub ∨ s = sMul) : Calls Tryz.prog 32 #[.pointer (some ⟨r.b, 0, none⟩), .string s, .int .i64 a, .int .i64 b, .int .i64 pl] w (JoinR r pl (joinE s a b) w) := by
  rcases hs with rfl | rfl | rfl | rfl | rfl | rfl | rfl | rfl
  · exact rjoin_bar r c a b pl w h ha hb
  · exact rjoin_hat r c a b pl w h ha hb
  · exact rjoin_amp r c a b pl w h ha hb
  · exact rjoin_shl r c a b pl w h ha hb
  · exact rjoin_shr r c a b pl w h ha hb
  · exact rjoin_add r c a b pl w h ha hb
  · exact rjoin_sub r c a b pl w h ha hb
  · exact rjoin_mul r c a b pl w h ha hb
end Go.Proofs.YtockkidbncpdlaaGreatDoor
