/- PEvDo, PEvDo2, PEvSide, PEvOpen, PEvChn, EvalP: The program's do: what a sign makes of two numbers. -/
import Derived.Test.YtockkidbncpdlaaDoorGPEvA
import Derived.Test.YtockkidbncpdlaaDoorBits64
import Derived.Test.YtockkidbncpdlaaDoorGBase
import Derived.Test.YtockkidbncpdlaaDoorEvUn
import Derived.Test.YtockkidbncpdlaaDoorPEvLvl
/- The program's do: what a sign makes of two numbers. -/
namespace Go.Proofs.YtockkidbncpdlaaDoor
set_option linter.unusedVariables false
set_option linter.unusedSimpArgs false
open Go.RowKit
/-- What a sign makes: a number and true, or any number and false. -/
def DoR (o : Option Int) (w : World) (x : Ending) (w' : World) : Prop :=
  w = w' ∧ match o with
  | some n => x = .returned (.tuple #[.int .i64 n, .bool true])
  | none => ∃ v, x = .returned (.tuple #[.int .i64 v, .bool false])
/-- The last test: within the bound. -/
theorem do_end (n : Int) (w : World) : DoR (boundE n) w (.returned (.tuple #[.int .i64 n, .bool (decide (-1099511627776 ≤ n) && decide (n ≤ 1099511627776))])) w := by
  refine ⟨rfl, ?_⟩
  rw [fits_is]
  by_cases h : -1099511627776 ≤ n ∧ n ≤ 1099511627776
  · rw [bd_some h, decide_eq_true h]
  · rw [bd_none h, decide_eq_false h]
    exact ⟨n, rfl⟩
theorem times_is {a b : Int} (ha : a ≠ 0) (h : absI b ≤ 1099511627776 / absI a) : timesE a b = some (a * b) ∧ -1099511627776 ≤ a * b ∧ a * b ≤ 1099511627776 := by
  have pa : 0 < absI a := by unfold absI; split <;> omega
  have h1 : absI b * absI a ≤ 1099511627776 := by
    have h2 := Int.mul_le_mul_of_nonneg_right h (Int.le_of_lt pa)
    have h3 := Int.ediv_mul_le 1099511627776 (Int.ne_of_gt pa)
    omega
  have h4 : -1099511627776 ≤ a * b ∧ a * b ≤ 1099511627776 := by
    by_cases an : a < 0
    · obtain ⟨x, rfl⟩ : ∃ x, a = -x := ⟨-a, by omega⟩
      rw [abs_neg (by omega)] at h1
      by_cases bn : b < 0
      · obtain ⟨y, rfl⟩ : ∃ y, b = -y := ⟨-b, by omega⟩
        rw [abs_neg (by omega)] at h1
        rw [Int.neg_mul_neg, Int.mul_comm]
        have := Int.mul_nonneg (by omega : 0 ≤ y) (by omega : 0 ≤ x)
        omega
      · have e : absI b = b := by unfold absI; rw [if_neg bn]
        rw [e] at h1
        rw [Int.neg_mul, Int.mul_comm]
        have := Int.mul_nonneg (by omega : 0 ≤ b) (by omega : 0 ≤ x)
        omega
    · rw [show absI a = a from abs_pos (by omega)] at h1
      by_cases bn : b < 0
      · obtain ⟨y, rfl⟩ : ∃ y, b = -y := ⟨-b, by omega⟩
        rw [abs_neg (by omega)] at h1
        rw [Int.mul_neg, Int.mul_comm]
        have := Int.mul_nonneg (by omega : 0 ≤ y) (by omega : 0 ≤ a)
        omega
      · have e : absI b = b := by unfold absI; rw [if_neg bn]
        rw [e] at h1
        rw [Int.mul_comm]
        have := Int.mul_nonneg (by omega : 0 ≤ b) (by omega : 0 ≤ a)
        omega
  refine ⟨?_, h4⟩
  by_cases bz : b = 0
  · subst bz
    unfold timesE
    rw [if_pos (.inr rfl), Int.mul_zero]
  · refine timesE_mul ha bz ?_
    have pb : 0 < absI b := by unfold absI; split <;> omega
    have : absI a ≤ 1099511627776 / absI b := by
      rw [Int.le_ediv_iff_mul_le pb, Int.mul_comm]
      exact h1
    omega
theorem times_no {a b : Int} (ha : a ≠ 0) (h : 1099511627776 / absI a < absI b) : timesE a b = none := by
  have pa : 0 < absI a := by unfold absI; split <;> omega
  have q := (quo_bd pa).1
  have bz : b ≠ 0 := by
    rintro rfl
    have : absI 0 = 0 := by decide
    omega
  refine timesE_over ha bz ?_
  have pb : 0 < absI b := by unfold absI; split <;> omega
  have h1 := (Int.ediv_lt_iff_lt_mul pa).1 h
  rw [Int.mul_comm] at h1
  exact (Int.ediv_lt_iff_lt_mul pb).2 h1
theorem times_nought (b : Int) : timesE 0 b = some 0 := by unfold timesE; rw [if_pos (.inl rfl)]
set_option maxHeartbeats 1000000 in
set_option maxRecDepth 100000 in
theorem pdo_sBar (a b : Int) (w : World) (ha : InB a) (hb : InB b) : Calls Tryd.prog 30 #[.string sBar, .int .i64 a, .int .i64 b] w (DoR (joinE sBar a b) w) := by
  have E : joinE sBar a b = boundE (bits .or .i64 a b) := by unfold joinE; rw [if_pos rfl]
  rw [E]
  clear E
  obtain ⟨a0, a1⟩ := ha
  obtain ⟨b0, b1⟩ := hb
  obtain ⟨n, hn⟩ : ∃ n, bits .or .i64 a b = n := ⟨_, rfl⟩
  rw [hn]
  have C := Lib.hid (pfits_any n (-1099511627776) 1099511627776 w)
  unfold sBar
  go_enter Tryd.func30, Tryd.ntmps30
  repeat' (first
      | with_reducible refine then_normal ?_ | with_reducible refine then_exit ?_ | with_reducible refine then_ret ?_ | with_reducible refine in_normal ?_ | with_reducible refine in_ret ?_ | with_reducible refine in_hit ?_ | with_reducible refine in_miss rfl ?_
      | go_values | go_skip | go_guarded | go_step | go_upon | go_back | (simp only [Int.not_lt, Int.not_le] at *; go_simp))
  refine C.out.mono ?_
  rintro e w1 ⟨rfl, rfl⟩
  repeat' (first
      | with_reducible refine then_normal ?_ | with_reducible refine then_exit ?_ | with_reducible refine then_ret ?_ | with_reducible refine in_normal ?_ | with_reducible refine in_ret ?_ | with_reducible refine in_hit ?_ | with_reducible refine in_miss rfl ?_
      | go_values | go_skip | go_guarded | go_step | go_upon | go_back | (simp only [Int.not_lt, Int.not_le] at *; go_simp))
  go_ret2
  exact do_end _ _
set_option maxHeartbeats 1000000 in
set_option maxRecDepth 100000 in
theorem pdo_sHat (a b : Int) (w : World) (ha : InB a) (hb : InB b) : Calls Tryd.prog 30 #[.string sHat, .int .i64 a, .int .i64 b] w (DoR (joinE sHat a b) w) := by
  have E : joinE sHat a b = boundE (bits .xor .i64 a b) := by unfold joinE; rw [if_neg (by decide), if_pos rfl]
  rw [E]
  clear E
  obtain ⟨a0, a1⟩ := ha
  obtain ⟨b0, b1⟩ := hb
  obtain ⟨n, hn⟩ : ∃ n, bits .xor .i64 a b = n := ⟨_, rfl⟩
  rw [hn]
  have C := Lib.hid (pfits_any n (-1099511627776) 1099511627776 w)
  unfold sHat
  go_enter Tryd.func30, Tryd.ntmps30
  repeat' (first
      | with_reducible refine then_normal ?_ | with_reducible refine then_exit ?_ | with_reducible refine then_ret ?_ | with_reducible refine in_normal ?_ | with_reducible refine in_ret ?_ | with_reducible refine in_hit ?_ | with_reducible refine in_miss rfl ?_
      | go_values | go_skip | go_guarded | go_step | go_upon | go_back | (simp only [Int.not_lt, Int.not_le] at *; go_simp))
  refine C.out.mono ?_
  rintro e w1 ⟨rfl, rfl⟩
  repeat' (first
      | with_reducible refine then_normal ?_ | with_reducible refine then_exit ?_ | with_reducible refine then_ret ?_ | with_reducible refine in_normal ?_ | with_reducible refine in_ret ?_ | with_reducible refine in_hit ?_ | with_reducible refine in_miss rfl ?_
      | go_values | go_skip | go_guarded | go_step | go_upon | go_back | (simp only [Int.not_lt, Int.not_le] at *; go_simp))
  go_ret2
  exact do_end _ _
set_option maxHeartbeats 1000000 in
set_option maxRecDepth 100000 in
theorem pdo_sAmp (a b : Int) (w : World) (ha : InB a) (hb : InB b) : Calls Tryd.prog 30 #[.string sAmp, .int .i64 a, .int .i64 b] w (DoR (joinE sAmp a b) w) := by
  have E : joinE sAmp a b = boundE (bits .and .i64 a b) := by unfold joinE; rw [if_neg (by decide), if_neg (by decide), if_pos rfl]
  rw [E]
  clear E
  obtain ⟨a0, a1⟩ := ha
  obtain ⟨b0, b1⟩ := hb
  obtain ⟨n, hn⟩ : ∃ n, bits .and .i64 a b = n := ⟨_, rfl⟩
  rw [hn]
  have C := Lib.hid (pfits_any n (-1099511627776) 1099511627776 w)
  unfold sAmp
  go_enter Tryd.func30, Tryd.ntmps30
  repeat' (first
      | with_reducible refine then_normal ?_ | with_reducible refine then_exit ?_ | with_reducible refine then_ret ?_ | with_reducible refine in_normal ?_ | with_reducible refine in_ret ?_ | with_reducible refine in_hit ?_ | with_reducible refine in_miss rfl ?_
      | go_values | go_skip | go_guarded | go_step | go_upon | go_back | (simp only [Int.not_lt, Int.not_le] at *; go_simp))
  refine C.out.mono ?_
  rintro e w1 ⟨rfl, rfl⟩
  repeat' (first
      | with_reducible refine then_normal ?_ | with_reducible refine then_exit ?_ | with_reducible refine then_ret ?_ | with_reducible refine in_normal ?_ | with_reducible refine in_ret ?_ | with_reducible refine in_hit ?_ | with_reducible refine in_miss rfl ?_
      | go_values | go_skip | go_guarded | go_step | go_upon | go_back | (simp only [Int.not_lt, Int.not_le] at *; go_simp))
  go_ret2
  exact do_end _ _
set_option maxHeartbeats 1000000 in
set_option maxRecDepth 100000 in
theorem pdo_sAdd (a b : Int) (w : World) (ha : InB a) (hb : InB b) : Calls Tryd.prog 30 #[.string sAdd, .int .i64 a, .int .i64 b] w (DoR (joinE sAdd a b) w) := by
  have E : joinE sAdd a b = boundE (a + b) := by unfold joinE; rw [if_neg (by decide), if_neg (by decide), if_neg (by decide), if_pos rfl]
  rw [E]
  clear E
  obtain ⟨a0, a1⟩ := ha
  obtain ⟨b0, b1⟩ := hb
  obtain ⟨n, hn⟩ : ∃ n, a + b = n := ⟨_, rfl⟩
  rw [hn]
  have C := Lib.hid (pfits_any n (-1099511627776) 1099511627776 w)
  unfold sAdd
  go_enter Tryd.func30, Tryd.ntmps30
  repeat' (first
      | with_reducible refine then_normal ?_ | with_reducible refine then_exit ?_ | with_reducible refine then_ret ?_ | with_reducible refine in_normal ?_ | with_reducible refine in_ret ?_ | with_reducible refine in_hit ?_ | with_reducible refine in_miss rfl ?_
      | go_values | go_skip | go_guarded | go_step | go_upon | go_back | (simp only [Int.not_lt, Int.not_le] at *; go_simp))
  refine C.out.mono ?_
  rintro e w1 ⟨rfl, rfl⟩
  repeat' (first
      | with_reducible refine then_normal ?_ | with_reducible refine then_exit ?_ | with_reducible refine then_ret ?_ | with_reducible refine in_normal ?_ | with_reducible refine in_ret ?_ | with_reducible refine in_hit ?_ | with_reducible refine in_miss rfl ?_
      | go_values | go_skip | go_guarded | go_step | go_upon | go_back | (simp only [Int.not_lt, Int.not_le] at *; go_simp))
  go_ret2
  exact do_end _ _
set_option maxHeartbeats 1000000 in
set_option maxRecDepth 100000 in
theorem pdo_sSub (a b : Int) (w : World) (ha : InB a) (hb : InB b) : Calls Tryd.prog 30 #[.string sSub, .int .i64 a, .int .i64 b] w (DoR (joinE sSub a b) w) := by
  have E : joinE sSub a b = boundE (a - b) := by unfold joinE; rw [if_neg (by decide), if_neg (by decide), if_neg (by decide), if_neg (by decide), if_pos rfl]
  rw [E]
  clear E
  obtain ⟨a0, a1⟩ := ha
  obtain ⟨b0, b1⟩ := hb
  obtain ⟨n, hn⟩ : ∃ n, a - b = n := ⟨_, rfl⟩
  rw [hn]
  have C := Lib.hid (pfits_any n (-1099511627776) 1099511627776 w)
  unfold sSub
  go_enter Tryd.func30, Tryd.ntmps30
  repeat' (first
      | with_reducible refine then_normal ?_ | with_reducible refine then_exit ?_ | with_reducible refine then_ret ?_ | with_reducible refine in_normal ?_ | with_reducible refine in_ret ?_ | with_reducible refine in_hit ?_ | with_reducible refine in_miss rfl ?_
      | go_values | go_skip | go_guarded | go_step | go_upon | go_back | (simp only [Int.not_lt, Int.not_le] at *; go_simp))
  refine C.out.mono ?_
  rintro e w1 ⟨rfl, rfl⟩
  repeat' (first
      | with_reducible refine then_normal ?_ | with_reducible refine then_exit ?_ | with_reducible refine then_ret ?_ | with_reducible refine in_normal ?_ | with_reducible refine in_ret ?_ | with_reducible refine in_hit ?_ | with_reducible refine in_miss rfl ?_
      | go_values | go_skip | go_guarded | go_step | go_upon | go_back | (simp only [Int.not_lt, Int.not_le] at *; go_simp))
  go_ret2
  exact do_end _ _
end Go.Proofs.YtockkidbncpdlaaDoor

/- The program's do: a product, a shift to the left. -/
namespace Go.Proofs.YtockkidbncpdlaaDoor
set_option linter.unusedVariables false
set_option linter.unusedSimpArgs false
open Go.RowKit
set_option maxHeartbeats 2000000 in
set_option maxRecDepth 100000 in
theorem pdo_sMul (a b : Int) (w : World) (ha : InB a) (hb : InB b) : Calls Tryd.prog 30 #[.string sMul, .int .i64 a, .int .i64 b] w (DoR (joinE sMul a b) w) := by
  have E : joinE sMul a b = timesE a b := by unfold joinE; rw [if_neg (by decide), if_neg (by decide), if_neg (by decide), if_neg (by decide), if_neg (by decide), if_pos rfl]
  rw [E]
  clear E
  obtain ⟨b0, b1⟩ := hb
  unfold sMul
  obtain ⟨a0, a1⟩ := ha
  have CA := Lib.hid (fun W => psize_any a ⟨by omega, by omega⟩ W)
  have CB := Lib.hid (fun W => psize_any (b) ⟨by omega, by omega⟩ W)
  by_cases az : a = 0
  · subst az
    have T := times_nought (b)
    rw [T]
    clear T
    have C := Lib.hid (pfits_any 0 (-1099511627776) 1099511627776 w)
    go_enter Tryd.func30, Tryd.ntmps30
    repeat' (first
      | with_reducible refine then_normal ?_ | with_reducible refine then_exit ?_ | with_reducible refine then_ret ?_ | with_reducible refine in_normal ?_ | with_reducible refine in_ret ?_ | with_reducible refine in_hit ?_ | with_reducible refine in_miss rfl ?_
      | go_values | go_skip | go_guarded | go_step | go_upon | go_back | (simp only [Int.not_lt, Int.not_le] at *; go_simp))
    refine C.out.mono ?_
    rintro e w1 ⟨rfl, rfl⟩
    repeat' (first
      | with_reducible refine then_normal ?_ | with_reducible refine then_exit ?_ | with_reducible refine then_ret ?_ | with_reducible refine in_normal ?_ | with_reducible refine in_ret ?_ | with_reducible refine in_hit ?_ | with_reducible refine in_miss rfl ?_
      | go_values | go_skip | go_guarded | go_step | go_upon | go_back | (simp only [Int.not_lt, Int.not_le] at *; go_simp))
    go_ret2
    have h := do_end 0 w
    rw [bd_some ⟨by omega, by omega⟩] at h
    exact h
  · have az1 : (a == 0) = false := beq_eq_false_iff_ne.2 az
    have az2 : (a != 0) = true := by rw [bne, az1]; rfl
    obtain ⟨x, hx⟩ : ∃ x, absI a = x := ⟨_, rfl⟩
    obtain ⟨y, hy⟩ : ∃ y, absI (b) = y := ⟨_, rfl⟩
    have px : 0 < x := by unfold absI at hx; split at hx <;> omega
    have px1 : x ≤ 1099511627776 := by unfold absI at hx; split at hx <;> omega
    have py : 0 ≤ y := by unfold absI at hy; split at hy <;> omega
    have py1 : y ≤ 1099511627776 := by unfold absI at hy; split at hy <;> omega
    rw [hx] at CA
    rw [hy] at CB
    obtain ⟨q0, q1⟩ := quo_bd px
    by_cases over : 1099511627776 / x < y
    · have T := times_no (b := b) az (by rw [hx, hy]; exact over)
      rw [T]
      clear T az hx hy
      go_enter Tryd.func30, Tryd.ntmps30
      repeat' (first
      | with_reducible refine then_normal ?_ | with_reducible refine then_exit ?_ | with_reducible refine then_ret ?_ | with_reducible refine in_normal ?_ | with_reducible refine in_ret ?_ | with_reducible refine in_hit ?_ | with_reducible refine in_miss rfl ?_
      | go_values | go_skip | go_guarded | go_step | go_upon | go_back | (simp only [Int.not_lt, Int.not_le] at *; go_simp))
      refine (CB.out _).mono ?_
      rintro e w1 ⟨rfl, rfl⟩
      repeat' (first
      | with_reducible refine then_normal ?_ | with_reducible refine then_exit ?_ | with_reducible refine then_ret ?_ | with_reducible refine in_normal ?_ | with_reducible refine in_ret ?_ | with_reducible refine in_hit ?_ | with_reducible refine in_miss rfl ?_
      | go_values | go_skip | go_guarded | go_step | go_upon | go_back | (simp only [Int.not_lt, Int.not_le] at *; go_simp))
      refine (CA.out _).mono ?_
      rintro e w2 ⟨rfl, rfl⟩
      repeat' (first
      | with_reducible refine then_normal ?_ | with_reducible refine then_exit ?_ | with_reducible refine then_ret ?_ | with_reducible refine in_normal ?_ | with_reducible refine in_ret ?_ | with_reducible refine in_hit ?_ | with_reducible refine in_miss rfl ?_
      | go_values | go_skip | go_guarded | go_step | go_upon | go_back | (simp only [Int.not_lt, Int.not_le] at *; go_simp))
      go_ret2
      exact ⟨rfl, 0, rfl⟩
    · obtain ⟨t1, t2, t3⟩ := times_is (b := b) az (by rw [hx, hy]; omega)
      rw [t1]
      have over' : decide (1099511627776 / x < y) = false := decide_eq_false over
      have bo0 : -9223372036854775808 ≤ a * (b) := by omega
      have bo1 : a * (b) ≤ 9223372036854775807 := by omega
      have hwm : IntKind.i64.wrap (a * (b)) = a * (b) := by rw [IntKind.wrap_i64]; omega
      have C := Lib.hid (pfits_any (a * (b)) (-1099511627776) 1099511627776 w)
      have D := Lib.hid (do_end (a * (b)) w)
      rw [bd_some ⟨t2, t3⟩] at D
      clear t1 t2 t3 az hx hy
      go_enter Tryd.func30, Tryd.ntmps30
      repeat' (first
      | with_reducible refine then_normal ?_ | with_reducible refine then_exit ?_ | with_reducible refine then_ret ?_ | with_reducible refine in_normal ?_ | with_reducible refine in_ret ?_ | with_reducible refine in_hit ?_ | with_reducible refine in_miss rfl ?_
      | go_values | go_skip | go_guarded | go_step | go_upon | go_back | (simp only [Int.not_lt, Int.not_le] at *; go_simp))
      refine (CB.out _).mono ?_
      rintro e w1 ⟨rfl, rfl⟩
      repeat' (first
      | with_reducible refine then_normal ?_ | with_reducible refine then_exit ?_ | with_reducible refine then_ret ?_ | with_reducible refine in_normal ?_ | with_reducible refine in_ret ?_ | with_reducible refine in_hit ?_ | with_reducible refine in_miss rfl ?_
      | go_values | go_skip | go_guarded | go_step | go_upon | go_back | (simp only [Int.not_lt, Int.not_le] at *; go_simp))
      refine (CA.out _).mono ?_
      rintro e w2 ⟨rfl, rfl⟩
      repeat' (first
      | with_reducible refine then_normal ?_ | with_reducible refine then_exit ?_ | with_reducible refine then_ret ?_ | with_reducible refine in_normal ?_ | with_reducible refine in_ret ?_ | with_reducible refine in_hit ?_ | with_reducible refine in_miss rfl ?_
      | go_values | go_skip | go_guarded | go_step | go_upon | go_back | (simp only [Int.not_lt, Int.not_le] at *; go_simp))
      refine C.out.mono ?_
      rintro e w3 ⟨rfl, rfl⟩
      repeat' (first
      | with_reducible refine then_normal ?_ | with_reducible refine then_exit ?_ | with_reducible refine then_ret ?_ | with_reducible refine in_normal ?_ | with_reducible refine in_ret ?_ | with_reducible refine in_hit ?_ | with_reducible refine in_miss rfl ?_
      | go_values | go_skip | go_guarded | go_step | go_upon | go_back | (simp only [Int.not_lt, Int.not_le] at *; go_simp))
      go_ret2
      first | exact D.out | exact ⟨rfl, rfl⟩
set_option maxHeartbeats 2000000 in
set_option maxRecDepth 100000 in
theorem pdo_sShr (a b : Int) (w : World) (ha : InB a) (hb : InB b) : Calls Tryd.prog 30 #[.string sShr, .int .i64 a, .int .i64 b] w (DoR (joinE sShr a b) w) := by
  obtain ⟨b0, b1⟩ := hb
  have CS := Lib.hid (pfits_any b 0 40 w)
  by_cases bad : b < 0 ∨ 40 < b
  · have E : joinE sShr a b = none := by unfold joinE; rw [if_neg (by decide), if_neg (by decide), if_neg (by decide), if_neg (by decide), if_neg (by decide), if_neg (by decide), if_pos bad]
    rw [E]
    have z : (decide (0 ≤ b) && decide (b ≤ 40)) = false := by
      rw [← Bool.decide_and]; exact decide_eq_false (by omega)
    rw [z] at CS
    clear E z bad
    unfold sShr
    go_enter Tryd.func30, Tryd.ntmps30
    repeat' (first
      | with_reducible refine then_normal ?_ | with_reducible refine then_exit ?_ | with_reducible refine then_ret ?_ | with_reducible refine in_normal ?_ | with_reducible refine in_ret ?_ | with_reducible refine in_hit ?_ | with_reducible refine in_miss rfl ?_
      | go_values | go_skip | go_guarded | go_step | go_upon | go_back | (simp only [Int.not_lt, Int.not_le] at *; go_simp))
    refine CS.out.mono ?_
    rintro e w1 ⟨rfl, rfl⟩
    repeat' (first
      | with_reducible refine then_normal ?_ | with_reducible refine then_exit ?_ | with_reducible refine then_ret ?_ | with_reducible refine in_normal ?_ | with_reducible refine in_ret ?_ | with_reducible refine in_hit ?_ | with_reducible refine in_miss rfl ?_
      | go_values | go_skip | go_guarded | go_step | go_upon | go_back | (simp only [Int.not_lt, Int.not_le] at *; go_simp))
    go_ret2
    exact ⟨rfl, 0, rfl⟩
  have lo2 : 0 ≤ b := by omega
  have hi2 : b ≤ 40 := by omega
  have z : (decide (0 ≤ b) && decide (b ≤ 40)) = true := by
    rw [← Bool.decide_and]; exact decide_eq_true ⟨lo2, hi2⟩
  rw [z] at CS
  clear z
  have E : joinE sShr a b = some (a / 2 ^ b.toNat) := by unfold joinE; rw [if_neg (by decide), if_neg (by decide), if_neg (by decide), if_neg (by decide), if_neg (by decide), if_neg (by decide), if_neg bad, if_pos rfl]
  have hi := joinE_in ha E
  rw [E]
  obtain ⟨a0, a1⟩ := ha
  obtain ⟨h0, h1⟩ := hi
  have C := Lib.hid (pfits_any (a / 2 ^ b.toNat) (-1099511627776) 1099511627776 w)
  have D := Lib.hid (do_end (a / 2 ^ b.toNat) w)
  rw [bd_some ⟨h0, h1⟩] at D
  clear E bad
  unfold sShr
  go_enter Tryd.func30, Tryd.ntmps30
  repeat' (first
      | with_reducible refine then_normal ?_ | with_reducible refine then_exit ?_ | with_reducible refine then_ret ?_ | with_reducible refine in_normal ?_ | with_reducible refine in_ret ?_ | with_reducible refine in_hit ?_ | with_reducible refine in_miss rfl ?_
      | go_values | go_skip | go_guarded | go_step | go_upon | go_back | (simp only [Int.not_lt, Int.not_le] at *; go_simp))
  refine CS.out.mono ?_
  rintro e w1 ⟨rfl, rfl⟩
  repeat' (first
      | with_reducible refine then_normal ?_ | with_reducible refine then_exit ?_ | with_reducible refine then_ret ?_ | with_reducible refine in_normal ?_ | with_reducible refine in_ret ?_ | with_reducible refine in_hit ?_ | with_reducible refine in_miss rfl ?_
      | go_values | go_skip | go_guarded | go_step | go_upon | go_back | (simp only [Int.not_lt, Int.not_le] at *; go_simp))
  refine C.out.mono ?_
  rintro e w1 ⟨rfl, rfl⟩
  repeat' (first
      | with_reducible refine then_normal ?_ | with_reducible refine then_exit ?_ | with_reducible refine then_ret ?_ | with_reducible refine in_normal ?_ | with_reducible refine in_ret ?_ | with_reducible refine in_hit ?_ | with_reducible refine in_miss rfl ?_
      | go_values | go_skip | go_guarded | go_step | go_upon | go_back | (simp only [Int.not_lt, Int.not_le] at *; go_simp))
  go_ret2
  first | exact D.out | exact ⟨rfl, rfl⟩
set_option maxHeartbeats 2000000 in
set_option maxRecDepth 100000 in
theorem pdo_sShl (a b : Int) (w : World) (ha : InB a) (hb : InB b) : Calls Tryd.prog 30 #[.string sShl, .int .i64 a, .int .i64 b] w (DoR (joinE sShl a b) w) := by
  obtain ⟨b0, b1⟩ := hb
  have CS := Lib.hid (pfits_any b 0 40 w)
  by_cases bad : b < 0 ∨ 40 < b
  · have E : joinE sShl a b = none := by unfold joinE; rw [if_neg (by decide), if_neg (by decide), if_neg (by decide), if_neg (by decide), if_neg (by decide), if_neg (by decide), if_pos bad]
    rw [E]
    have z : (decide (0 ≤ b) && decide (b ≤ 40)) = false := by
      rw [← Bool.decide_and]; exact decide_eq_false (by omega)
    rw [z] at CS
    clear E z bad
    unfold sShl
    go_enter Tryd.func30, Tryd.ntmps30
    repeat' (first
      | with_reducible refine then_normal ?_ | with_reducible refine then_exit ?_ | with_reducible refine then_ret ?_ | with_reducible refine in_normal ?_ | with_reducible refine in_ret ?_ | with_reducible refine in_hit ?_ | with_reducible refine in_miss rfl ?_
      | go_values | go_skip | go_guarded | go_step | go_upon | go_back | (simp only [Int.not_lt, Int.not_le] at *; go_simp))
    refine CS.out.mono ?_
    rintro e w1 ⟨rfl, rfl⟩
    repeat' (first
      | with_reducible refine then_normal ?_ | with_reducible refine then_exit ?_ | with_reducible refine then_ret ?_ | with_reducible refine in_normal ?_ | with_reducible refine in_ret ?_ | with_reducible refine in_hit ?_ | with_reducible refine in_miss rfl ?_
      | go_values | go_skip | go_guarded | go_step | go_upon | go_back | (simp only [Int.not_lt, Int.not_le] at *; go_simp))
    go_ret2
    exact ⟨rfl, 0, rfl⟩
  have lo2 : 0 ≤ b := by omega
  have hi2 : b ≤ 40 := by omega
  have z : (decide (0 ≤ b) && decide (b ≤ 40)) = true := by
    rw [← Bool.decide_and]; exact decide_eq_true ⟨lo2, hi2⟩
  rw [z] at CS
  clear z
  have E : joinE sShl a b = timesE a (2 ^ b.toNat) := by unfold joinE; rw [if_neg (by decide), if_neg (by decide), if_neg (by decide), if_neg (by decide), if_neg (by decide), if_neg (by decide), if_neg bad, if_neg (by decide)]
  rw [E]
  obtain ⟨p0, p1⟩ := pow_bd b.toNat (by omega)
  have hw : IntKind.i64.wrap (1 * 2 ^ b.toNat) = 2 ^ b.toNat := by rw [Int.one_mul, IntKind.wrap_i64]; omega
  have hw2 : IntKind.i64.wrap (2 ^ b.toNat) = 2 ^ b.toNat := by rw [IntKind.wrap_i64]; omega
  clear E bad
  unfold sShl
  obtain ⟨a0, a1⟩ := ha
  have CA := Lib.hid (fun W => psize_any a ⟨by omega, by omega⟩ W)
  have CB := Lib.hid (fun W => psize_any (2 ^ b.toNat) ⟨by omega, by omega⟩ W)
  by_cases az : a = 0
  · subst az
    have T := times_nought (2 ^ b.toNat)
    rw [T]
    clear T
    have C := Lib.hid (pfits_any 0 (-1099511627776) 1099511627776 w)
    go_enter Tryd.func30, Tryd.ntmps30
    repeat' (first
      | with_reducible refine then_normal ?_ | with_reducible refine then_exit ?_ | with_reducible refine then_ret ?_ | with_reducible refine in_normal ?_ | with_reducible refine in_ret ?_ | with_reducible refine in_hit ?_ | with_reducible refine in_miss rfl ?_
      | go_values | go_skip | go_guarded | go_step | go_upon | go_back | (simp only [Int.not_lt, Int.not_le] at *; go_simp))
    refine CS.out.mono ?_
    rintro e w0 ⟨rfl, rfl⟩
    repeat' (first
      | with_reducible refine then_normal ?_ | with_reducible refine then_exit ?_ | with_reducible refine then_ret ?_ | with_reducible refine in_normal ?_ | with_reducible refine in_ret ?_ | with_reducible refine in_hit ?_ | with_reducible refine in_miss rfl ?_
      | go_values | go_skip | go_guarded | go_step | go_upon | go_back | (simp only [Int.not_lt, Int.not_le] at *; go_simp))
    refine C.out.mono ?_
    rintro e w1 ⟨rfl, rfl⟩
    repeat' (first
      | with_reducible refine then_normal ?_ | with_reducible refine then_exit ?_ | with_reducible refine then_ret ?_ | with_reducible refine in_normal ?_ | with_reducible refine in_ret ?_ | with_reducible refine in_hit ?_ | with_reducible refine in_miss rfl ?_
      | go_values | go_skip | go_guarded | go_step | go_upon | go_back | (simp only [Int.not_lt, Int.not_le] at *; go_simp))
    go_ret2
    have h := do_end 0 w
    rw [bd_some ⟨by omega, by omega⟩] at h
    exact h
  · have az1 : (a == 0) = false := beq_eq_false_iff_ne.2 az
    have az2 : (a != 0) = true := by rw [bne, az1]; rfl
    obtain ⟨x, hx⟩ : ∃ x, absI a = x := ⟨_, rfl⟩
    obtain ⟨y, hy⟩ : ∃ y, absI (2 ^ b.toNat) = y := ⟨_, rfl⟩
    have px : 0 < x := by unfold absI at hx; split at hx <;> omega
    have px1 : x ≤ 1099511627776 := by unfold absI at hx; split at hx <;> omega
    have py : 0 ≤ y := by unfold absI at hy; split at hy <;> omega
    have py1 : y ≤ 1099511627776 := by unfold absI at hy; split at hy <;> omega
    rw [hx] at CA
    rw [hy] at CB
    obtain ⟨q0, q1⟩ := quo_bd px
    by_cases over : 1099511627776 / x < y
    · have T := times_no (b := 2 ^ b.toNat) az (by rw [hx, hy]; exact over)
      rw [T]
      clear T az hx hy
      go_enter Tryd.func30, Tryd.ntmps30
      repeat' (first
      | with_reducible refine then_normal ?_ | with_reducible refine then_exit ?_ | with_reducible refine then_ret ?_ | with_reducible refine in_normal ?_ | with_reducible refine in_ret ?_ | with_reducible refine in_hit ?_ | with_reducible refine in_miss rfl ?_
      | go_values | go_skip | go_guarded | go_step | go_upon | go_back | (simp only [Int.not_lt, Int.not_le] at *; go_simp))
      refine CS.out.mono ?_
      rintro e w0 ⟨rfl, rfl⟩
      repeat' (first
      | with_reducible refine then_normal ?_ | with_reducible refine then_exit ?_ | with_reducible refine then_ret ?_ | with_reducible refine in_normal ?_ | with_reducible refine in_ret ?_ | with_reducible refine in_hit ?_ | with_reducible refine in_miss rfl ?_
      | go_values | go_skip | go_guarded | go_step | go_upon | go_back | (simp only [Int.not_lt, Int.not_le] at *; go_simp))
      refine (CB.out _).mono ?_
      rintro e w1 ⟨rfl, rfl⟩
      repeat' (first
      | with_reducible refine then_normal ?_ | with_reducible refine then_exit ?_ | with_reducible refine then_ret ?_ | with_reducible refine in_normal ?_ | with_reducible refine in_ret ?_ | with_reducible refine in_hit ?_ | with_reducible refine in_miss rfl ?_
      | go_values | go_skip | go_guarded | go_step | go_upon | go_back | (simp only [Int.not_lt, Int.not_le] at *; go_simp))
      refine (CA.out _).mono ?_
      rintro e w2 ⟨rfl, rfl⟩
      repeat' (first
      | with_reducible refine then_normal ?_ | with_reducible refine then_exit ?_ | with_reducible refine then_ret ?_ | with_reducible refine in_normal ?_ | with_reducible refine in_ret ?_ | with_reducible refine in_hit ?_ | with_reducible refine in_miss rfl ?_
      | go_values | go_skip | go_guarded | go_step | go_upon | go_back | (simp only [Int.not_lt, Int.not_le] at *; go_simp))
      go_ret2
      exact ⟨rfl, 0, rfl⟩
    · obtain ⟨t1, t2, t3⟩ := times_is (b := 2 ^ b.toNat) az (by rw [hx, hy]; omega)
      rw [t1]
      have over' : decide (1099511627776 / x < y) = false := decide_eq_false over
      have bo0 : -9223372036854775808 ≤ a * (2 ^ b.toNat) := by omega
      have bo1 : a * (2 ^ b.toNat) ≤ 9223372036854775807 := by omega
      have hwm : IntKind.i64.wrap (a * (2 ^ b.toNat)) = a * (2 ^ b.toNat) := by rw [IntKind.wrap_i64]; omega
      have C := Lib.hid (pfits_any (a * (2 ^ b.toNat)) (-1099511627776) 1099511627776 w)
      have D := Lib.hid (do_end (a * (2 ^ b.toNat)) w)
      rw [bd_some ⟨t2, t3⟩] at D
      clear t1 t2 t3 az hx hy
      go_enter Tryd.func30, Tryd.ntmps30
      repeat' (first
      | with_reducible refine then_normal ?_ | with_reducible refine then_exit ?_ | with_reducible refine then_ret ?_ | with_reducible refine in_normal ?_ | with_reducible refine in_ret ?_ | with_reducible refine in_hit ?_ | with_reducible refine in_miss rfl ?_
      | go_values | go_skip | go_guarded | go_step | go_upon | go_back | (simp only [Int.not_lt, Int.not_le] at *; go_simp))
      refine CS.out.mono ?_
      rintro e w0 ⟨rfl, rfl⟩
      repeat' (first
      | with_reducible refine then_normal ?_ | with_reducible refine then_exit ?_ | with_reducible refine then_ret ?_ | with_reducible refine in_normal ?_ | with_reducible refine in_ret ?_ | with_reducible refine in_hit ?_ | with_reducible refine in_miss rfl ?_
      | go_values | go_skip | go_guarded | go_step | go_upon | go_back | (simp only [Int.not_lt, Int.not_le] at *; go_simp))
      refine (CB.out _).mono ?_
      rintro e w1 ⟨rfl, rfl⟩
      repeat' (first
      | with_reducible refine then_normal ?_ | with_reducible refine then_exit ?_ | with_reducible refine then_ret ?_ | with_reducible refine in_normal ?_ | with_reducible refine in_ret ?_ | with_reducible refine in_hit ?_ | with_reducible refine in_miss rfl ?_
      | go_values | go_skip | go_guarded | go_step | go_upon | go_back | (simp only [Int.not_lt, Int.not_le] at *; go_simp))
      refine (CA.out _).mono ?_
      rintro e w2 ⟨rfl, rfl⟩
      repeat' (first
      | with_reducible refine then_normal ?_ | with_reducible refine then_exit ?_ | with_reducible refine then_ret ?_ | with_reducible refine in_normal ?_ | with_reducible refine in_ret ?_ | with_reducible refine in_hit ?_ | with_reducible refine in_miss rfl ?_
      | go_values | go_skip | go_guarded | go_step | go_upon | go_back | (simp only [Int.not_lt, Int.not_le] at *; go_simp))
      refine C.out.mono ?_
      rintro e w3 ⟨rfl, rfl⟩
      repeat' (first
      | with_reducible refine then_normal ?_ | with_reducible refine then_exit ?_ | with_reducible refine then_ret ?_ | with_reducible refine in_normal ?_ | with_reducible refine in_ret ?_ | with_reducible refine in_hit ?_ | with_reducible refine in_miss rfl ?_
      | go_values | go_skip | go_guarded | go_step | go_upon | go_back | (simp only [Int.not_lt, Int.not_le] at *; go_simp))
      go_ret2
      first | exact D.out | exact ⟨rfl, rfl⟩
theorem pdo_any (s : ByteArray) (a b : Int) (w : World) (ha : InB a) (hb : InB b) (hs : levT s ≠ 0) : Calls Tryd.prog 30 #[.string s, .int .i64 a, .int .i64 b] w (DoR (joinE s a b) w) := by
  by_cases n0 : s = sBar
  · subst n0; exact pdo_sBar a b w ha hb
  by_cases n1 : s = sHat
  · subst n1; exact pdo_sHat a b w ha hb
  by_cases n2 : s = sAmp
  · subst n2; exact pdo_sAmp a b w ha hb
  by_cases n3 : s = sShl
  · subst n3; exact pdo_sShl a b w ha hb
  by_cases n4 : s = sShr
  · subst n4; exact pdo_sShr a b w ha hb
  by_cases n5 : s = sAdd
  · subst n5; exact pdo_sAdd a b w ha hb
  by_cases n6 : s = sSub
  · subst n6; exact pdo_sSub a b w ha hb
  by_cases n7 : s = sMul
  · subst n7; exact pdo_sMul a b w ha hb
  exact absurd (by unfold levT; rw [if_neg n0, if_neg n1, if_neg n2, if_neg n3, if_neg n4, if_neg n5, if_neg n6, if_neg n7]) hs
end Go.Proofs.YtockkidbncpdlaaDoor

/- The program's side: a Num, a Name, or what a sign opens; given opened. -/
namespace Go.Proofs.YtockkidbncpdlaaDoor
set_option linter.unusedVariables false
set_option linter.unusedSimpArgs false
open Go.RowKit
/-- What a next token is. -/
def TokIs (l : List Tok) (a : Nat) (k : Int) (s : ByteArray) (n : Int) : Prop := (l[a]? = none ∧ k = 0) ∨ ∃ t, l[a]? = some t ∧ t.kind = k ∧ t.text = s ∧ t.n = n
theorem tok_is (l : List Tok) (a : Nat) : ∃ k s n pl, tokOV l[a]? = .agg #[.int .i64 k, .string s, .int .i64 n, .int .i64 pl] ∧ TokIs l a k s n := by
  cases h : l[a]? with
  | none => exact ⟨0, ⟨#[]⟩, 0, 0, rfl, .inl ⟨h, rfl⟩⟩
  | some t => exact ⟨t.kind, t.text, t.n, t.pl, rfl, .inr ⟨t, h, rfl, rfl, rfl⟩⟩
theorem TokIs.lt {l : List Tok} {a : Nat} {k : Int} {s : ByteArray} {n : Int} (h : TokIs l a k s n) (hk : k ≠ 0) : ∃ t, l[a]? = some t ∧ t.kind = k ∧ t.text = s ∧ t.n = n ∧ a < l.length := by
  rcases h with ⟨_, h⟩ | ⟨t, h1, h2, h3, h4⟩
  · exact absurd h hk
  · exact ⟨t, h1, h2, h3, h4, (List.getElem?_eq_some_iff.1 h1).1⟩
set_option maxHeartbeats 2000000 in
set_option maxRecDepth 100000 in
theorem pside_any (r : Rdr) (a d : Nat) (w : World) (hr : r.PIn w) (ho : r.POk w a) (ha : a ≤ r.toks.length)
    (OP : ∀ s t w', r.toks[a]? = some t → t.kind = 3 → t.text = s → r.PIn w' → r.POk w' ((a + 1 : Nat) : Int) → Calls Tryd.prog 46 #[.pointer (some ⟨r.b, 0, none⟩), .int .i64 a, .string s, .int .i64 d] w' (PPost r (.un a) d w')) :
    Calls Tryd.prog 27 #[.pointer (some ⟨r.b, 0, none⟩), .int .i64 d] w (PPost r (.un a) d w) := by
  have HR := Lib.hid hr
  have HO := Lib.hid ho
  have few := hr.few
  have HOP := Lib.hid OP
  obtain ⟨k, s, n, pl, hv, hk⟩ := tok_is r.toks a
  have HK := Lib.hid hk
  have CT := Lib.hid (fun W h1 h2 => ptoken_any r a W h1 h2)
  rw [hv] at CT
  have c0 := ho.cells
  unfold Rdr.pc at c0
  have HL := ho.lt
  clear hr ho OP hv hk
  go_enter Tryd.func27, Tryd.ntmps27
  go_wp2_with fail
  refine Rel.regionO (KeepBut (fun z => w.heap.size ≤ z)) (butWay _) [6, 8] [0, 1, 2, 3, 4, 5, 6, 7, 8] (by kernel_rfl) (by kernel_rfl) (Keep.refl _) ?_
  repeat (apply Rel.ordK_step (by rfl) (by rfl) (by rfl)
          · intro W' hW'
            have b' : r.POk W' a := Box.but HO.out hW' (by omega)
            have c := b'.cells
            unfold Rdr.pc at c
            go_simp
            first
              | exact ⟨rfl, Keep.refl _⟩
              | (apply yes_enter; go_at_call 43; refine (CT.out _ (HR.out.keep (hW'.keep fun z hz => hz)) b').mono ?_; rintro e w' ⟨rfl, hk⟩; exact ⟨rfl, hk⟩)
          go_simp)
  apply Rel.ordK_loose (by rfl) (by rfl) (by rfl)
  intro W1 hW1
  go_simp
  apply Rel.gives_value
  refine ⟨((Keep.refl _).alloc _).but _, ?_⟩
  have BR : Box (W1.alloc (.cells #[.int .i64 0, .string ⟨#[]⟩, .int .i64 0, .int .i64 0] 47)) W1.heap.size #[.int .i64 0, .string ⟨#[]⟩, .int .i64 0, .int .i64 0] := Box.new _ _ _
  have KA := hW1.alloc (.cells #[.int .i64 0, .string ⟨#[]⟩, .int .i64 0, .int .i64 0] 47)
  have hs : w.heap.size ≤ W1.heap.size := hW1.size
  go_simp
  apply Rel.ordK_step (by rfl) (by rfl) (by rfl)
  · intro W' hW'
    go_simp
    exact ⟨rfl, Keep.refl _⟩
  go_simp
  apply Rel.ordK_loose (by rfl) (by rfl) (by rfl)
  intro W3 hW3
  have K3 := KA.trans hW3
  have B3 := BR.keep hW3
  have f3 := B3.thawed
  have c3 := B3.cells
  go_simp
  apply Rel.gives_skip
  have h4 : ∃ W4, W4 = ((((W3.setCell ⟨W1.heap.size, 0, none⟩ (.int .i64 k)).setCell ⟨W1.heap.size, 1, none⟩ (.string s)).setCell ⟨W1.heap.size, 2, none⟩ (.int .i64 n)).setCell ⟨W1.heap.size, 3, none⟩ (.int .i64 pl)) := ⟨_, rfl⟩
  obtain ⟨W4, hW4⟩ := h4
  rw [← hW4]
  have B4 : Box W4 W1.heap.size #[.int .i64 k, .string s, .int .i64 n, .int .i64 pl] := by
    rw [hW4]; simpa using (((B3.set 0 (.int .i64 k)).set 1 (.string s)).set 2 (.int .i64 n)).set 3 (.int .i64 pl)
  have K34 : KeepBut (fun z => w.heap.size ≤ z) W3 W4 := by
    rw [hW4]
    repeat (with_reducible refine KeepBut.setAt ?_ ?_ _; · exact .inl hs)
    exact KeepBut.refl _ _
  have K4 : Keep w W4 := ((K3.but _).trans K34).keep (fun z hz => hz)
  refine ⟨K34, ?_⟩
  clear hW4 K34 B3 f3 c3 K3 hW3 KA BR hW1
  obtain ⟨tb, htb⟩ : ∃ tb, tb = W1.heap.size := ⟨_, rfl⟩
  rw [← htb] at B4 hs ⊢
  clear htb
  apply Rel.ordK_end
  intro W5 hW5
  have K5 := Lib.hid (K4.trans hW5)
  have B5 := B4.keep hW5
  have O5 : r.POk W5 a := HO.out.keep K5.out
  have HO5 := Lib.hid O5
  have N5 := Lib.hid (O5.next ((a : Int) + 1))
  have c5 := O5.cells
  unfold Rdr.pc at c5
  have f5 := O5.thawed
  have t5 := B5.cells
  have hne : tb ≠ r.b := by omega
  have hne2 : r.b ≠ tb := by omega
  have KW : Hid (KeepBut (fun z => z = r.b) w (W5.setCell ⟨r.b, 1, none⟩ (.int .i64 ((a : Int) + 1)))) := Lib.hid (KeepBut.setAt (S := fun z => z = r.b) (.inl rfl) (K5.out.but _) _)
  clear hW5 K4 B4 W1 W3 W4 c0
  have ha2 : ((a : Int) + 1) = ((a + 1 : Nat) : Int) := by omega
  have N6 : Hid (r.POk (W5.setCell ⟨r.b, 1, none⟩ (.int .i64 ((a : Int) + 1))) ((a + 1 : Nat) : Int)) := Lib.hid (by rw [← ha2]; exact N5.out)
  have R6 := Lib.hid (HR.out.but KW.out)
  clear ha2 O5
  rcases Bool.eq_false_or_eq_true (k == 2) with k2 | k2
  · obtain ⟨t, ht, h1, h2, h3, hlt⟩ := HK.out.lt (by have := beq_iff_eq.1 k2; omega)
    have e2 : k = 2 := beq_iff_eq.1 k2
    have tk := HR.out.ok t (List.mem_of_getElem? ht)
    have hn : InB n := by rw [← h3]; have := tk.lo; have := tk.hi; unfold lxBig at this; unfold InB; omega
    have hev := Ev.atom (N := r.names) (d := d) ht (.inl (by omega))
    unfold atomE at hev
    rw [if_pos (by omega), h3] at hev
    have HE := Lib.hid hev
    have HN := Lib.hid hn
    have CI := Lib.hid (fun W => pinside_any a n W)
    rw [bd_some hn] at CI
    clear ht h1 h2 h3 tk hn hev e2
    go_wp2_with fail
    refine (CI.out _).mono ?_
    rintro e w7 ⟨hk7, rfl⟩
    have K7 := Lib.hid (KW.out.trans (hk7.but _))
    have N7 := Lib.hid (N6.out.keep hk7)
    clear hk7 c5 t5 f5
    go_wp2_with fail
    go_ret2
    exact PPost.ok HE.out HN.out (by simp [EvM.at_]) hlt K7.out N7.out
  · rcases Bool.eq_false_or_eq_true (k == 1) with k1 | k1
    · obtain ⟨t, ht, h1, h2, h3, hlt⟩ := HK.out.lt (by have := beq_iff_eq.1 k1; omega)
      have e1 : k = 1 := beq_iff_eq.1 k1
      have hev := Ev.atom (N := r.names) (d := d) ht (.inr (by omega))
      unfold atomE at hev
      rw [if_neg (by omega), h2] at hev
      have HE := Lib.hid hev
      have CN := Lib.hid (pnamed_any r _ a s _ R6.out N6.out)
      clear ht h1 h2 h3 hev e1
      go_wp2_with fail
      refine CN.out.mono ?_
      rintro e w7 ⟨hk7, hj⟩
      have K7 := Lib.hid (KW.out.trans (hk7.but _))
      have N7 := Lib.hid (N6.out.keep hk7)
      have HLT := Lib.hid hlt
      clear hk7 c5 t5 f5 CN hlt
      cases hnm : nameE r.names s with
      | none =>
        rw [hnm] at hj
        obtain ⟨q, rfl, hb⟩ := hj
        have HB := Lib.hid hb
        have HM := Lib.hid hnm
        clear hb hnm
        go_wp2_with fail
        go_ret2
        have h := HE.out
        rw [HM.out] at h
        exact PPost.bad h (by decide) K7.out HB.out
      | some m =>
        have HM := Lib.hid hnm
        simp only [hnm] at hj
        clear hnm
        cases hbn : boundE m with
        | none =>
          rw [hbn] at hj
          obtain ⟨q, rfl, hb⟩ := hj
          have HB := Lib.hid hb
          have HM2 := Lib.hid hbn
          clear hb hbn
          go_wp2_with fail
          go_ret2
          have h := HE.out
          rw [HM.out] at h
          simp only [HM2.out] at h
          exact PPost.bad h (by decide) K7.out HB.out
        | some m2 =>
          rw [hbn] at hj
          dsimp only at hj
          subst hj
          have HM2 := Lib.hid hbn
          clear hbn
          go_wp2_with fail
          go_ret2
          have h := HE.out
          rw [HM.out] at h
          simp only [HM2.out] at h
          exact PPost.ok h (boundE_in HM2.out).2 (by simp [EvM.at_]) HLT.out K7.out N7.out
    · rcases Bool.eq_false_or_eq_true (k == 3) with k3 | k3
      · obtain ⟨t, ht, h1, h2, h3, hlt⟩ := HK.out.lt (by have := beq_iff_eq.1 k3; omega)
        have e3 : k = 3 := beq_iff_eq.1 k3
        have C := Lib.hid (HOP.out s t _ ht (by omega) h2 R6.out N6.out)
        clear ht h1 h2 h3 e3 hlt
        go_wp2_with fail
        refine C.out.mono ?_
        rintro e w7 ⟨hk7, hj⟩
        have K7 := Lib.hid (KW.out.trans hk7)
        clear hk7 c5 t5 f5 C
        rcases hj with ⟨m, p, hev, rfl, hm, hp1, hp2, ho⟩ | ⟨p, x, q, hev, hx, rfl, hb⟩
        · have HE := Lib.hid (PPost.ok (w := w) hev hm hp1 hp2 K7.out ho)
          clear hev hm hp1 hp2 ho
          go_wp2_with fail
          go_ret2
          exact HE.out
        · have HE := Lib.hid (PPost.bad (w := w) hev hx K7.out hb)
          clear hev hx hb
          unfold faultP at *
          go_wp2_with fail
          go_ret2
          exact HE.out
      · have CF := Lib.hid (fun W => pfault_any a 11 W)
        have hs : signAt r.toks a unS = none := by
          cases h : signAt r.toks a unS with
          | none => rfl
          | some y =>
            obtain ⟨t, ht, hk3, _⟩ := signAt_kind h
            rcases HK.out with ⟨h1, _⟩ | ⟨u, hu, h1, _⟩
            · rw [h1] at ht; cases ht
            · rw [hu] at ht; cases ht
              exact absurd (h1 ▸ hk3) (beq_eq_false_iff_ne.1 k3)
        have hf : ∀ t, r.toks[a]? = some t → t.kind ≠ 2 ∧ t.kind ≠ 1 := by
          intro t ht
          rcases HK.out with ⟨h1, _⟩ | ⟨u, hu, h1, _⟩
          · rw [h1] at ht; cases ht
          · rw [hu] at ht; cases ht
            rw [h1]
            exact ⟨beq_eq_false_iff_ne.1 k2, beq_eq_false_iff_ne.1 k1⟩
        have HE := Lib.hid (Ev.form (N := r.names) (d := d) hs hf)
        clear hs hf
        go_wp2_with fail
        refine (CF.out _).mono ?_
        rintro e w7 ⟨q, rfl, hb, hk7⟩
        have K7 := Lib.hid (KW.out.trans (hk7.but _))
        have HB := Lib.hid hb
        clear hk7 c5 t5 f5 hb
        go_wp2_with fail
        go_ret2
        exact PPost.bad HE.out (by decide) K7.out HB.out
end Go.Proofs.YtockkidbncpdlaaDoor

/- The program's opened, bracket: a sign ahead, one in brackets; given side and chain deeper. -/
namespace Go.Proofs.YtockkidbncpdlaaDoor
set_option linter.unusedVariables false
set_option linter.unusedSimpArgs false
open Go.RowKit
theorem not64 (n : Int) (h0 : -9223372036854775808 ≤ n) (h1 : n ≤ 9223372036854775807) : bits .xor .i64 (-1) n = -n - 1 := by
  rw [bits64 _ _ _ (.inr (.inr rfl))]
  have hv : (BitVec.ofInt 64 n).toInt = n := by
    rw [BitVec.toInt_ofInt]
    exact Int.bmod_eq_of_le (by omega) (by omega)
  show (BitVec.ofInt 64 (-1) ^^^ BitVec.ofInt 64 n).toInt = _
  have e : BitVec.ofInt 64 (-1) = BitVec.allOnes 64 := by decide
  rw [e, BitVec.allOnes_xor]
  generalize BitVec.ofInt 64 n = v at hv
  have h2 := v.isLt
  rw [BitVec.toInt_eq_toNat_cond] at hv ⊢
  rw [BitVec.toNat_not]
  split at hv <;> split <;> omega
set_option maxHeartbeats 2000000 in
set_option maxRecDepth 100000 in
theorem popened_long_sub (r : Rdr) (a d : Nat) (w : World) (hr : r.PIn w) (ho : r.POk w ((a + 1 : Nat) : Int)) (hd : d ≤ 17) (hlt : a < r.toks.length) (hs : signAt r.toks a unS = some sSub) (hd2 : 16 < d) :
    Calls Tryd.prog 46 #[.pointer (some ⟨r.b, 0, none⟩), .int .i64 a, .string sSub, .int .i64 d] w (PPost r (.un a) d w) := by
  have CF := Lib.hid (fun W => pfault_any a 15 W)
  have HS := Lib.hid hs
  have hd3 : (16 : Int) < (d : Int) := by omega
  clear hs hr ho
  unfold sSub
  go_enter Tryd.func46, Tryd.ntmps46
  go_wp2_with fail
  refine (CF.out _).mono ?_
  rintro e w7 ⟨q, rfl, hb, hk7⟩
  have K7 := Lib.hid (hk7.but (fun z => z = r.b))
  have HB := Lib.hid hb
  clear hk7 hb
  go_wp2_with fail
  go_ret2
  exact PPost.bad (.long HS.out hd2) (by decide) K7.out HB.out
set_option maxHeartbeats 2000000 in
set_option maxRecDepth 100000 in
theorem popened_long_not (r : Rdr) (a d : Nat) (w : World) (hr : r.PIn w) (ho : r.POk w ((a + 1 : Nat) : Int)) (hd : d ≤ 17) (hlt : a < r.toks.length) (hs : signAt r.toks a unS = some sNot) (hd2 : 16 < d) :
    Calls Tryd.prog 46 #[.pointer (some ⟨r.b, 0, none⟩), .int .i64 a, .string sNot, .int .i64 d] w (PPost r (.un a) d w) := by
  have CF := Lib.hid (fun W => pfault_any a 15 W)
  have HS := Lib.hid hs
  have hd3 : (16 : Int) < (d : Int) := by omega
  clear hs hr ho
  unfold sNot
  go_enter Tryd.func46, Tryd.ntmps46
  go_wp2_with fail
  refine (CF.out _).mono ?_
  rintro e w7 ⟨q, rfl, hb, hk7⟩
  have K7 := Lib.hid (hk7.but (fun z => z = r.b))
  have HB := Lib.hid hb
  clear hk7 hb
  go_wp2_with fail
  go_ret2
  exact PPost.bad (.long HS.out hd2) (by decide) K7.out HB.out
set_option maxHeartbeats 2000000 in
set_option maxRecDepth 100000 in
theorem popened_long_opn (r : Rdr) (a d : Nat) (w : World) (hr : r.PIn w) (ho : r.POk w ((a + 1 : Nat) : Int)) (hd : d ≤ 17) (hlt : a < r.toks.length) (hs : signAt r.toks a unS = some sOpen) (hd2 : 16 < d) :
    Calls Tryd.prog 46 #[.pointer (some ⟨r.b, 0, none⟩), .int .i64 a, .string sOpen, .int .i64 d] w (PPost r (.un a) d w) := by
  have CF := Lib.hid (fun W => pfault_any a 15 W)
  have HS := Lib.hid hs
  have hd3 : (16 : Int) < (d : Int) := by omega
  clear hs hr ho
  unfold sOpen
  go_enter Tryd.func46, Tryd.ntmps46
  go_wp2_with fail
  refine (CF.out _).mono ?_
  rintro e w7 ⟨q, rfl, hb, hk7⟩
  have K7 := Lib.hid (hk7.but (fun z => z = r.b))
  have HB := Lib.hid hb
  clear hk7 hb
  go_wp2_with fail
  go_ret2
  exact PPost.bad (.long HS.out hd2) (by decide) K7.out HB.out
set_option maxHeartbeats 2000000 in
set_option maxRecDepth 100000 in
theorem popened_none (r : Rdr) (a d : Nat) (w : World) (hr : r.PIn w) (ho : r.POk w ((a + 1 : Nat) : Int)) (hd : d ≤ 17) (hlt : a < r.toks.length) (s : ByteArray) (n1 : s ≠ sSub) (n2 : s ≠ sNot) (n3 : s ≠ sOpen) (t : Tok) (ht : r.toks[a]? = some t) (hk : t.kind = 3) (hs : signAt r.toks a unS = none) :
    Calls Tryd.prog 46 #[.pointer (some ⟨r.b, 0, none⟩), .int .i64 a, .string s, .int .i64 d] w (PPost r (.un a) d w) := by
  have CF := Lib.hid (fun W => pfault_any a 11 W)
  have HE : Hid (Ev r.toks r.names (.un a) d (.bad a 11)) := Lib.hid (Ev.form hs (fun u hu => by rw [ht] at hu; cases hu; omega))
  have t1 : (s.toList == [45]) = false := str_no s _ n1
  have t2 : (s.toList == [126]) = false := str_no s _ n2
  have t3 : (s.toList == [40]) = false := str_no s _ n3
  have u1 : (s.toList != [45]) = true := by rw [bne, t1]; rfl
  have u2 : (s.toList != [126]) = true := by rw [bne, t2]; rfl
  have u3 : (s.toList != [40]) = true := by rw [bne, t3]; rfl
  clear hs hr ho n1 n2 n3 ht hk
  go_enter Tryd.func46, Tryd.ntmps46
  go_wp2_with fail
  refine (CF.out _).mono ?_
  rintro e w7 ⟨q, rfl, hb, hk7⟩
  have K7 := Lib.hid (hk7.but (fun z => z = r.b))
  have HB := Lib.hid hb
  clear hk7 hb
  go_wp2_with fail
  go_ret2
  exact PPost.bad HE.out (by decide) K7.out HB.out
set_option maxHeartbeats 2000000 in
set_option maxRecDepth 100000 in
theorem popened_sub (r : Rdr) (a d : Nat) (w : World) (hr : r.PIn w) (ho : r.POk w ((a + 1 : Nat) : Int)) (hd : d ≤ 17) (hlt : a < r.toks.length) (hs : signAt r.toks a unS = some sSub) (hd2 : d ≤ 16)
    (SD : ∀ w', r.PIn w' → r.POk w' ((a + 1 : Nat) : Int) → Calls Tryd.prog 27 #[.pointer (some ⟨r.b, 0, none⟩), .int .i64 ((d : Int) + 1)] w' (PPost r (.un (a + 1)) (d + 1) w')) :
    Calls Tryd.prog 46 #[.pointer (some ⟨r.b, 0, none⟩), .int .i64 a, .string sSub, .int .i64 d] w (PPost r (.un a) d w) := by
  have HS := Lib.hid hs
  have hd3 : (d : Int) ≤ 16 := by omega
  have hd4 : decide (16 < (d : Int)) = false := decide_eq_false (by omega)
  have C := Lib.hid (SD w hr ho)
  clear hs hr ho SD
  unfold sSub
  go_enter Tryd.func46, Tryd.ntmps46
  go_wp2_with fail
  refine C.out.mono ?_
  rintro e w3 ⟨hk3, ⟨n, p, hev, rfl, hn, hp1, hp2, ho3⟩ | ⟨p, x, q, hev, hx, rfl, hb3⟩⟩
  · have K3 := Lib.hid hk3
    have EV := Lib.hid hev
    have PB := Lib.hid (And.intro hp1 hp2)
    have O3 := Lib.hid ho3
    obtain ⟨n0, n1⟩ := hn
    have pr : preE sSub n = -n := by unfold preE; rw [if_pos rfl]; omega
    have PR := Lib.hid pr
    have CI := Lib.hid (fun W => pinside_any a (-n) W)
    have nt := not64 n (by omega) (by omega)
    clear hk3 hev hp1 hp2 ho3 pr
    go_wp2_with fail
    try rw [nt]
    refine (CI.out _).mono ?_
    rintro e w4 ⟨hk4, hj⟩
    have K4 := Lib.hid (K3.out.trans (hk4.but _))
    have O4 := Lib.hid (O3.out.keep hk4)
    clear hk4
    cases hbn : boundE (-n) with
    | none =>
      have HB2 := Lib.hid hbn
      rw [hbn] at hj
      obtain ⟨q, rfl, hb⟩ := hj
      have B4 := Lib.hid hb
      clear hbn hb
      go_wp2_with fail
      go_ret2
      exact PPost.bad (.negOver HS.out (by decide) hd2 EV.out (by rw [PR.out]; exact HB2.out)) (by decide) K4.out B4.out
    | some m =>
      have HB2 := Lib.hid hbn
      rw [hbn] at hj
      dsimp only at hj
      subst hj
      clear hbn
      go_wp2_with fail
      go_ret2
      refine PPost.ok (.neg HS.out (by decide) hd2 EV.out (by rw [PR.out]; exact HB2.out)) (boundE_in HB2.out).2 ?_ PB.out.2 K4.out O4.out
      have := PB.out.1
      simp only [EvM.at_] at this ⊢
      omega
  · have K3 := Lib.hid hk3
    have EV := Lib.hid hev
    have HX := Lib.hid hx
    have B3 := Lib.hid hb3
    clear hk3 hev hx hb3
    unfold faultP
    go_wp2_with fail
    go_ret2
    exact PPost.bad (.negBad HS.out (by decide) hd2 EV.out) HX.out K3.out B3.out
set_option maxHeartbeats 2000000 in
set_option maxRecDepth 100000 in
theorem popened_not (r : Rdr) (a d : Nat) (w : World) (hr : r.PIn w) (ho : r.POk w ((a + 1 : Nat) : Int)) (hd : d ≤ 17) (hlt : a < r.toks.length) (hs : signAt r.toks a unS = some sNot) (hd2 : d ≤ 16)
    (SD : ∀ w', r.PIn w' → r.POk w' ((a + 1 : Nat) : Int) → Calls Tryd.prog 27 #[.pointer (some ⟨r.b, 0, none⟩), .int .i64 ((d : Int) + 1)] w' (PPost r (.un (a + 1)) (d + 1) w')) :
    Calls Tryd.prog 46 #[.pointer (some ⟨r.b, 0, none⟩), .int .i64 a, .string sNot, .int .i64 d] w (PPost r (.un a) d w) := by
  have HS := Lib.hid hs
  have hd3 : (d : Int) ≤ 16 := by omega
  have hd4 : decide (16 < (d : Int)) = false := decide_eq_false (by omega)
  have C := Lib.hid (SD w hr ho)
  clear hs hr ho SD
  unfold sNot
  go_enter Tryd.func46, Tryd.ntmps46
  go_wp2_with fail
  refine C.out.mono ?_
  rintro e w3 ⟨hk3, ⟨n, p, hev, rfl, hn, hp1, hp2, ho3⟩ | ⟨p, x, q, hev, hx, rfl, hb3⟩⟩
  · have K3 := Lib.hid hk3
    have EV := Lib.hid hev
    have PB := Lib.hid (And.intro hp1 hp2)
    have O3 := Lib.hid ho3
    obtain ⟨n0, n1⟩ := hn
    have pr : preE sNot n = -n - 1 := by unfold preE; rw [if_neg (by decide)]; omega
    have PR := Lib.hid pr
    have CI := Lib.hid (fun W => pinside_any a (-n - 1) W)
    have nt := not64 n (by omega) (by omega)
    clear hk3 hev hp1 hp2 ho3 pr
    go_wp2_with fail
    try rw [nt]
    refine (CI.out _).mono ?_
    rintro e w4 ⟨hk4, hj⟩
    have K4 := Lib.hid (K3.out.trans (hk4.but _))
    have O4 := Lib.hid (O3.out.keep hk4)
    clear hk4
    cases hbn : boundE (-n - 1) with
    | none =>
      have HB2 := Lib.hid hbn
      rw [hbn] at hj
      obtain ⟨q, rfl, hb⟩ := hj
      have B4 := Lib.hid hb
      clear hbn hb
      go_wp2_with fail
      go_ret2
      exact PPost.bad (.negOver HS.out (by decide) hd2 EV.out (by rw [PR.out]; exact HB2.out)) (by decide) K4.out B4.out
    | some m =>
      have HB2 := Lib.hid hbn
      rw [hbn] at hj
      dsimp only at hj
      subst hj
      clear hbn
      go_wp2_with fail
      go_ret2
      refine PPost.ok (.neg HS.out (by decide) hd2 EV.out (by rw [PR.out]; exact HB2.out)) (boundE_in HB2.out).2 ?_ PB.out.2 K4.out O4.out
      have := PB.out.1
      simp only [EvM.at_] at this ⊢
      omega
  · have K3 := Lib.hid hk3
    have EV := Lib.hid hev
    have HX := Lib.hid hx
    have B3 := Lib.hid hb3
    clear hk3 hev hx hb3
    unfold faultP
    go_wp2_with fail
    go_ret2
    exact PPost.bad (.negBad HS.out (by decide) hd2 EV.out) HX.out K3.out B3.out
set_option maxHeartbeats 2000000 in
set_option maxRecDepth 100000 in
theorem pbracket_any (r : Rdr) (a d : Nat) (w : World) (hr : r.PIn w) (ho : r.POk w ((a + 1 : Nat) : Int)) (hd2 : d ≤ 16) (hs : signAt r.toks a unS = some sOpen)
    (CH : ∀ w', r.PIn w' → r.POk w' ((a + 1 : Nat) : Int) → Calls Tryd.prog 15 #[.pointer (some ⟨r.b, 0, none⟩), .int .i64 1, .int .i64 ((d : Int) + 1)] w' (PPost r (.lev 0 (a + 1)) (d + 1) w')) :
    Calls Tryd.prog 53 #[.pointer (some ⟨r.b, 0, none⟩), .int .i64 ((d : Int) + 1)] w (PPost r (.un a) d w) := by
  have HS := Lib.hid hs
  have HR := Lib.hid hr
  have few := hr.few
  have C := Lib.hid (CH w hr ho)
  clear hs hr ho CH
  go_enter Tryd.func53, Tryd.ntmps53
  go_wp2_with fail
  refine C.out.mono ?_
  rintro e w3 ⟨hk3, ⟨n, p, hev, rfl, hn, hp1, hp2, ho3⟩ | ⟨p, x, q, hev, hx, rfl, hb3⟩⟩
  · have K3 := Lib.hid hk3
    have EV := Lib.hid hev
    have PB := Lib.hid (And.intro hp1 hp2)
    have HN := Lib.hid hn
    have O3 := Lib.hid ho3
    have CS := Lib.hid (psign_any r p w3 (HR.out.but hk3) ho3)
    clear hk3 hev hp1 hp2 ho3 hn
    go_wp2_with fail
    refine CS.out.mono ?_
    rintro e w4 ⟨rfl, hk4⟩
    have K4 := Lib.hid (K3.out.trans (hk4.but _))
    have o4 := O3.out.keep hk4
    have O4 := Lib.hid o4
    have c4 := o4.cells
    unfold Rdr.pc at c4
    have f4 := o4.thawed
    clear hk4 o4 CS
    have PI : Hid ((p : Int) ≤ 1000) := Lib.hid (by have := PB.out.2; omega)
    have pi := PI.out
    have pi0 : (0 : Int) ≤ (p : Int) := Int.natCast_nonneg _
    by_cases hz : sgn r.toks p = sShut
    · have hsh := sgn_shut hz
      have HZ := Lib.hid hsh
      have hlt : p < r.toks.length := by
        refine sgn_lt (l := r.toks) (p := p) ?_
        rw [hz]; decide
      have HLT := Lib.hid hlt
      rw [hz]
      clear hz hsh hlt
      unfold sShut
      go_wp2_with fail
      go_ret2
      refine PPost.ok (p := p + 1) (.par HS.out hd2 EV.out HZ.out) HN.out ?_ HLT.out (KeepBut.setAt (S := fun z => z = r.b) (.inl rfl) K4.out _) ?_
      · have := PB.out.1
        simp only [EvM.at_] at this ⊢
        omega
      · have h := O4.out.next ((p : Int) + 1)
        simpa using h
    · have HZ := Lib.hid (sgn_open hz)
      obtain ⟨s, es⟩ : ∃ s, s = sgn r.toks p := ⟨_, rfl⟩
      rw [← es] at hz ⊢
      clear es
      have t1 : (s.toList == [41]) = false := str_no s _ hz
      have u1 : (s.toList != [41]) = true := by rw [bne, t1]; rfl
      have CF := Lib.hid (fun W => pfault_any p 11 W)
      clear hz
      go_wp2_with fail
      refine (CF.out _).mono ?_
      rintro e w7 ⟨q, rfl, hb, hk7⟩
      have K7 := Lib.hid (K4.out.trans (hk7.but _))
      have HB := Lib.hid hb
      clear hk7 hb
      go_wp2_with fail
      go_ret2
      exact PPost.bad (.parForm HS.out hd2 EV.out HZ.out) (by decide) K7.out HB.out
  · have K3 := Lib.hid hk3
    have EV := Lib.hid hev
    have HX := Lib.hid hx
    have B3 := Lib.hid hb3
    clear hk3 hev hx hb3
    unfold faultP
    go_wp2_with fail
    go_ret2
    exact PPost.bad (.parBad HS.out hd2 EV.out) HX.out K3.out B3.out
set_option maxHeartbeats 2000000 in
set_option maxRecDepth 100000 in
theorem popened_opn (r : Rdr) (a d : Nat) (w : World) (hr : r.PIn w) (ho : r.POk w ((a + 1 : Nat) : Int)) (hd : d ≤ 17) (hlt : a < r.toks.length) (hs : signAt r.toks a unS = some sOpen) (hd2 : d ≤ 16)
    (CH : ∀ w', r.PIn w' → r.POk w' ((a + 1 : Nat) : Int) → Calls Tryd.prog 15 #[.pointer (some ⟨r.b, 0, none⟩), .int .i64 1, .int .i64 ((d : Int) + 1)] w' (PPost r (.lev 0 (a + 1)) (d + 1) w')) :
    Calls Tryd.prog 46 #[.pointer (some ⟨r.b, 0, none⟩), .int .i64 a, .string sOpen, .int .i64 d] w (PPost r (.un a) d w) := by
  have hd3 : (d : Int) ≤ 16 := by omega
  have hd4 : decide (16 < (d : Int)) = false := decide_eq_false (by omega)
  have C := Lib.hid (pbracket_any r a d w hr ho hd2 hs CH)
  clear hs hr ho CH
  unfold sOpen
  go_enter Tryd.func46, Tryd.ntmps46
  go_wp2_with fail
  refine C.out.mono ?_
  rintro e w3 ⟨hk3, ⟨n, p, hev, rfl, hn, hp1, hp2, ho3⟩ | ⟨p, x, q, hev, hx, rfl, hb3⟩⟩
  · have HE := Lib.hid (PPost.ok (w := w) hev hn hp1 hp2 hk3 ho3)
    clear hk3 hev hn hp1 hp2 ho3
    go_wp2_with fail
    go_ret2
    exact HE.out
  · have HE := Lib.hid (PPost.bad (w := w) hev hx hk3 hb3)
    clear hk3 hev hx hb3
    unfold faultP at *
    go_wp2_with fail
    go_ret2
    exact HE.out
/-- Whatever sign it is. -/
theorem popened_any (r : Rdr) (a d : Nat) (w : World) (hr : r.PIn w) (ho : r.POk w ((a + 1 : Nat) : Int)) (hd : d ≤ 17) (s : ByteArray) (t : Tok) (ht : r.toks[a]? = some t) (hk : t.kind = 3) (htx : t.text = s)
    (SD : d ≤ 16 → ∀ w', r.PIn w' → r.POk w' ((a + 1 : Nat) : Int) → Calls Tryd.prog 27 #[.pointer (some ⟨r.b, 0, none⟩), .int .i64 ((d : Int) + 1)] w' (PPost r (.un (a + 1)) (d + 1) w'))
    (CH : d ≤ 16 → ∀ w', r.PIn w' → r.POk w' ((a + 1 : Nat) : Int) → Calls Tryd.prog 15 #[.pointer (some ⟨r.b, 0, none⟩), .int .i64 1, .int .i64 ((d : Int) + 1)] w' (PPost r (.lev 0 (a + 1)) (d + 1) w')) :
    Calls Tryd.prog 46 #[.pointer (some ⟨r.b, 0, none⟩), .int .i64 a, .string s, .int .i64 d] w (PPost r (.un a) d w) := by
  have hlt := (List.getElem?_eq_some_iff.1 ht).1
  have hs : sgn r.toks a = s := by rw [sgn_sign ht hk, htx]
  by_cases n1 : s = sSub
  · subst n1
    have hu := sgn_un hs (.inl rfl)
    by_cases deep : 16 < d
    · exact popened_long_sub r a d w hr ho hd hlt hu deep
    · exact popened_sub r a d w hr ho hd hlt hu (by omega) (SD (by omega))
  by_cases n2 : s = sNot
  · subst n2
    have hu := sgn_un hs (.inr (.inl rfl))
    by_cases deep : 16 < d
    · exact popened_long_not r a d w hr ho hd hlt hu deep
    · exact popened_not r a d w hr ho hd hlt hu (by omega) (SD (by omega))
  by_cases n3 : s = sOpen
  · subst n3
    have hu := sgn_un hs (.inr (.inr rfl))
    by_cases deep : 16 < d
    · exact popened_long_opn r a d w hr ho hd hlt hu deep
    · exact popened_opn r a d w hr ho hd hlt hu (by omega) (CH (by omega))
  exact popened_none r a d w hr ho hd hlt s n1 n2 n3 t ht hk (sgn_nun (by rw [hs]; exact n1) (by rw [hs]; exact n2) (by rw [hs]; exact n3))
end Go.Proofs.YtockkidbncpdlaaDoor

/- The program's chain: a level and all stronger ones, given what is read deeper; all levels. -/
namespace Go.Proofs.YtockkidbncpdlaaDoor
set_option linter.unusedVariables false
set_option linter.unusedSimpArgs false
open Go.RowKit
/-- How far it is, by the reader itself. -/
def PM (r : Rdr) (w : World) : Nat := r.toks.length - (match w.cell? ⟨r.b, 1, none⟩ with | some v => (intOf v).toNat | none => 0)
theorem Rdr.POk.pm {r : Rdr} {w : World} {p : Nat} (h : r.POk w p) : PM r w = r.toks.length - p := by
  have c := h.cells
  unfold Rdr.pc at c
  unfold PM
  rw [c 1]
  simp [intOf]
structure PCh (r : Rdr) (k a d : Nat) (w : World) (n : Int) (p : Nat) (wr : World) : Prop where
  inb : InB n
  lo : a ≤ p
  hi : p ≤ r.toks.length
  ok : r.POk wr p
  keep : KeepBut (fun z => z = r.b) w wr
  rest : ∀ res, Rest r.toks r.names d k n p res → Ev r.toks r.names (.lev k a) d res
set_option maxHeartbeats 2000000 in
set_option maxRecDepth 100000 in
theorem pchain_any (r : Rdr) (k a d : Nat) (w : World) (hk : k ≤ 6) (hr : r.PIn w) (ho : r.POk w a)
    (SD : ∀ w', r.PIn w' → r.POk w' a → Calls Tryd.prog 27 #[.pointer (some ⟨r.b, 0, none⟩), .int .i64 d] w' (PPost r (.un a) d w'))
    (CH : ∀ (L p : Nat) w', 1 ≤ L → L ≤ 6 → a ≤ p → p < r.toks.length → r.PIn w' → r.POk w' ((p + 1 : Nat) : Int) → Calls Tryd.prog 15 #[.pointer (some ⟨r.b, 0, none⟩), .int .i64 ((L : Int) + 1), .int .i64 d] w' (PPost r (.lev L (p + 1)) d w')) :
    Calls Tryd.prog 15 #[.pointer (some ⟨r.b, 0, none⟩), .int .i64 ((k : Int) + 1), .int .i64 d] w (PPost r (.lev k a) d w) := by
  have HR := Lib.hid hr
  have few := hr.few
  have C0 := Lib.hid (SD w hr ho)
  have HCH := Lib.hid CH
  have CL := Lib.hid (fun s W => plevel_any s (k + 1) (by omega) (by omega) W)
  rw [show ((k + 1 : Nat) : Int) = (k : Int) + 1 by omega] at CL
  have hkk : Hid (k ≤ 6) := Lib.hid hk
  clear hr ho SD CH
  go_enter Tryd.func15, Tryd.ntmps15
  go_wp2_with fail
  refine C0.out.mono ?_
  rintro e w1 ⟨hk1, ⟨n0, p0, hev, rfl, hn, hp1, hp2, ho1⟩ | ⟨p, x, q, hev, hx, rfl, hb⟩⟩
  · have A0 : Hid (PCh r k a d w n0 p0 w1) := Lib.hid ⟨hn, hp1, hp2, ho1, hk1, fun res h => Rest.lev hev h⟩
    clear hk1 hev hn hp1 hp2 ho1 C0
    go_wp2_with fail
    go_loopw [8] (fun v wr => ∃ (n : Int) (p : Nat), v = .int .i64 n ∧ PCh r k a d w n p wr) (fun _ wr => PM r wr)
    case atStart => exact ⟨n0, p0, rfl, A0.out⟩
    case round =>
      obtain ⟨n, p, rfl, hc⟩ := hrel
      have HC := Lib.hid hc
      have c0 := hc.ok.cells
      unfold Rdr.pc at c0
      clear hc A0
      have CS := Lib.hid (fun W h1 h2 => psign_any r p W h1 h2)
      obtain ⟨s, es⟩ : ∃ s, sgn r.toks p = s := ⟨_, rfl⟩
      rw [es] at CS
      have HS := Lib.hid es
      clear es
      go_wp2_with fail
      refine region_grows (Keep wr) (by kernel_rfl) (by kernel_rfl) (Keep.refl _).drew ?_
      repeat (first
        | (apply text_pass (by rfl); go_simp)
        | (apply text_step (by rfl)
           · intro W hW
             have o := HC.out.ok.keep hW
             have c := o.cells
             unfold Rdr.pc at c
             go_simp
             first
               | exact ⟨rfl, hW⟩
               | (apply yes_enter; go_at_call 28; refine (CS.out _ ((HR.out.but HC.out.keep).keep hW) o).mono ?_; rintro e w' ⟨rfl, hk⟩; exact ⟨rfl, hW.trans hk⟩)
           go_simp))
      apply text_end
      intro W1 hW1
      have K1 := Lib.hid (HC.out.keep.trans (hW1.but _))
      have o1 := HC.out.ok.keep hW1
      have O1 := Lib.hid o1
      have c1 := o1.cells
      unfold Rdr.pc at c1
      have f1 := o1.thawed
      clear hW1 o1 c0
      by_cases hl : k + 1 ≤ levT s
      · have h6 := levT_le s
        obtain ⟨j, hj⟩ : ∃ j, levT s = j + 1 := ⟨levT s - 1, by omega⟩
        have CLs := fun W => CL.out s W
        rw [if_pos hl, hj] at CLs
        have CL2 := Lib.hid CLs
        have hj6 : j < 6 := by omega
        have hsg : signAt r.toks p (lvS j) = some s := by
          rw [sgn_lev _ _ _ hj6, HS.out, if_pos hj]
        have hlt : p < r.toks.length := by
          obtain ⟨t, ht, _⟩ := signAt_kind hsg
          exact (List.getElem?_eq_some_iff.1 ht).1
        have SG := Lib.hid hsg
        have hkj : Hid (k ≤ j) := Lib.hid (by omega)
        have LS : Hid (levT s ≠ 0) := Lib.hid (by omega)
        have JJ := Lib.hid hj6
        have hjb : ((j + 1 : Nat) : Int) ≤ 6 := by omega
        have hj0 : (0 : Int) < ((j + 1 : Nat) : Int) := by omega
        obtain ⟨L, hL⟩ : ∃ L, L = j + 1 := ⟨_, rfl⟩
        have LJ := Lib.hid hL
        rw [← hL] at CL2 hjb hj0
        have lz : ((L : Int) == 0) = false := beq_eq_false_iff_ne.2 (by omega)
        have pb : (p : Int) < 1000 := by omega
        have pb0 : (0 : Int) ≤ (p : Int) := Int.natCast_nonneg _
        have LT := Lib.hid hlt
        have N2 : Hid (r.POk (W1.setCell ⟨r.b, 1, none⟩ (.int .i64 ((p : Int) + 1))) ((p + 1 : Nat) : Int)) := Lib.hid (by
          have h := O1.out.next ((p : Int) + 1)
          simpa using h)
        have K2 : Hid (KeepBut (fun z => z = r.b) w (W1.setCell ⟨r.b, 1, none⟩ (.int .i64 ((p : Int) + 1)))) := Lib.hid (KeepBut.setAt (S := fun z => z = r.b) (.inl rfl) K1.out _)
        have CC := Lib.hid (HCH.out L p _ (by omega) (by omega) HC.out.lo hlt (HR.out.but K2.out) N2.out)
        clear hl h6 hj CLs hj6 hsg hlt hL
        go_wp2_with fail
        refine (CL2.out _).mono ?_
        rintro e w2 ⟨rfl, rfl⟩
        go_wp2_with fail
        refine CC.out.mono ?_
        rintro e w3 ⟨hk3, ⟨m, q, hev, rfl, hm, hq1, hq2, ho3⟩ | ⟨q, x, f, hev, hx, rfl, hb⟩⟩
        · have K3 := Lib.hid (K2.out.trans hk3)
          have EV : Hid (Ev r.toks r.names (.lev (j + 1) (p + 1)) d (.ok m q)) := Lib.hid (by rw [← LJ.out]; exact hev)
          have QB := Lib.hid (And.intro hq1 hq2)
          have HM := Lib.hid hm
          have O3 := Lib.hid ho3
          have CD := Lib.hid (fun W => pdo_any s n m W HC.out.inb hm LS.out)
          have CF := Lib.hid (fun W => pfault_any p 14 W)
          clear hk3 hev hm hq1 hq2 ho3 c1 f1
          go_wp2_with fail
          refine (CD.out _).mono ?_
          rintro e w4 ⟨rfl, hd⟩
          cases hjn : joinE s n m with
          | none =>
            have JN := Lib.hid hjn
            rw [hjn] at hd
            obtain ⟨v, rfl⟩ := hd
            clear hjn
            go_wp2_with fail
            refine (CF.out _).mono ?_
            rintro e w5 ⟨f, rfl, hb, hk5⟩
            have HE := Lib.hid (PPost.bad (HC.out.rest _ (rest_over hkj.out JJ.out SG.out EV.out JN.out)) (by decide) (K3.out.trans (hk5.but _)) hb)
            clear hb hk5
            unfold faultP at *
            go_wp2_with fail
            go_ret2
            exact HE.out
          | some x =>
            have JN := Lib.hid hjn
            rw [hjn] at hd
            dsimp only at hd
            subst hd
            have hp3 := O3.out.pm
            have hp1 := HC.out.ok.pm
            have M : PM r w3 < PM r wr := by
              rw [hp3, hp1]
              have h2 := LT.out
              have h1 := QB.out.1
              have h3 := QB.out.2
              simp only [EvM.at_] at h1
              omega
            have HM2 := Lib.hid M
            have A2 : Hid (PCh r k a d w x q w3) := Lib.hid ⟨joinE_in HC.out.inb hjn, by have := HC.out.lo; have h1 := QB.out.1; simp only [EvM.at_] at h1; omega, QB.out.2, O3.out, K3.out, fun res h => HC.out.rest res (rest_go JJ.out SG.out EV.out JN.out (j - k) k res (by have := hkj.out; omega) h)⟩
            clear hjn hp3 hp1 M
            go_wp2_with fail
            go_roundw
            case rel => exact ⟨x, q, rfl, A2.out⟩
            case measure => exact HM2.out
        · have EV : Hid (Ev r.toks r.names (.lev (j + 1) (p + 1)) d (.bad q x)) := Lib.hid (by rw [← LJ.out]; exact hev)
          have HE := Lib.hid (PPost.bad (HC.out.rest _ (rest_bad hkj.out JJ.out SG.out EV.out)) hx (K2.out.trans hk3) hb)
          clear hk3 hev hx hb c1 f1
          unfold faultP at *
          go_wp2_with fail
          go_ret2
          exact HE.out
      · have CLs := fun W => CL.out s W
        rw [if_neg hl] at CLs
        have CL2 := Lib.hid CLs
        have hev := HC.out.rest _ (rest_stop (6 - k) k (by have := hkk.out; omega) (fun i h1 h2 => sgn_none (k := k) (by rw [HS.out]; omega) i h1 h2))
        have HE := Lib.hid (PPost.ok hev HC.out.inb HC.out.lo HC.out.hi K1.out O1.out)
        clear hl CLs hev
        go_wp2_with fail
        refine (CL2.out _).mono ?_
        rintro e w2 ⟨rfl, rfl⟩
        go_wp2_with fail
        go_ret2
        exact HE.out
  · have HE := Lib.hid (PPost.bad (w := w) (Ev.upBad k (6 - k) (by omega) (by rw [show k + (6 - k) = 6 by omega]; exact .top hev)) hx hk1 hb)
    clear hk1 hev hx hb
    unfold faultP at *
    go_wp2_with fail
    go_ret2
    exact HE.out
/-- Any level, any place. -/
theorem plevels_all (r : Rdr) : ∀ (M : Nat),
    (∀ (k a d : Nat) w, k ≤ 6 → a ≤ r.toks.length → 2 * (r.toks.length - a) + 1 ≤ M → d ≤ 17 → r.PIn w → r.POk w a → Calls Tryd.prog 15 #[.pointer (some ⟨r.b, 0, none⟩), .int .i64 ((k : Int) + 1), .int .i64 d] w (PPost r (.lev k a) d w)) ∧
    (∀ (a d : Nat) w, a ≤ r.toks.length → 2 * (r.toks.length - a) ≤ M → d ≤ 17 → r.PIn w → r.POk w a → Calls Tryd.prog 27 #[.pointer (some ⟨r.b, 0, none⟩), .int .i64 d] w (PPost r (.un a) d w)) := by
  intro M
  induction M using Nat.strongRecOn with
  | ind M ih =>
    refine ⟨?_, ?_⟩
    · intro k a d w hk ha hM hd hr ho
      refine pchain_any r k a d w hk hr ho (fun w' h1 h2 => (ih (M - 1) (by omega)).2 a d w' ha (by omega) hd h1 h2) fun L p w' hL hL6 hap hp h1 h2 => ?_
      exact (ih (M - 1) (by omega)).1 L (p + 1) d w' hL6 (by omega) (by omega) hd h1 h2
    · intro a d w ha hM hd hr ho
      refine pside_any r a d w hr ho ha fun s t w' ht hk htx h1 h2 => ?_
      have hlt := (List.getElem?_eq_some_iff.1 ht).1
      refine popened_any r a d w' h1 h2 hd s t ht hk htx (fun d16 w2 g1 g2 => ?_) (fun d16 w2 g1 g2 => ?_)
      · have h := (ih (M - 1) (by omega)).2 (a + 1) (d + 1) w2 (by omega) (by omega) (by omega) g1 g2
        simpa using h
      · have h := (ih (M - 1) (by omega)).1 0 (a + 1) (d + 1) w2 (by omega) (by omega) (by omega) (by omega) g1 g2
        simpa using h
end Go.Proofs.YtockkidbncpdlaaDoor

/- The program's Eval: a constant, from any place of any words. -/
namespace Go.Proofs.YtockkidbncpdlaaDoor
set_option linter.unusedVariables false
set_option linter.unusedSimpArgs false
open Go.RowKit
set_option maxHeartbeats 2000000 in
set_option maxRecDepth 100000 in
theorem pEval : PEval := by
  intro p cap q capN toks names at_ ha few fewN hcap hcapN hok hnm w ht hn _
  have C := Lib.hid (fun W (h1 : Rdr.PIn ⟨w.heap.size, p, cap, q, capN, toks, names⟩ W) (h2 : Rdr.POk ⟨w.heap.size, p, cap, q, capN, toks, names⟩ W at_) => (plevels_all ⟨w.heap.size, p, cap, q, capN, toks, names⟩ (2 * (toks.length - at_) + 1)).1 0 at_ 0 W (by decide) ha (Nat.le_refl _) (by decide) h1 h2)
  have HT := Lib.hid ht
  have HN := Lib.hid hn
  clear ht hn
  go_enter Tryd.func10, Tryd.ntmps10
  go_wp2_with fail
  have hIn : Rdr.PIn ⟨w.heap.size, p, cap, q, capN, toks, names⟩ (w.alloc (.cells #[.slice p toks.length cap, .int .i64 at_, .slice q names.length capN] 56)) :=
    ⟨HT.out.isIn ((Keep.refl _).alloc _) (Nat.le_refl _), HN.out.isIn ((Keep.refl _).alloc _) (Nat.le_refl _), few, fewN, hcap, hcapN, hok, hnm⟩
  have K0 := Lib.hid ((Keep.refl w).alloc (.cells #[.slice p toks.length cap, .int .i64 at_, .slice q names.length capN] 56))
  have C1 := Lib.hid (C.out _ hIn (Box.new _ _ _))
  clear hIn C
  refine C1.out.mono ?_
  rintro e w2 ⟨hk2, ⟨n, z, hev, rfl, hn, hp1, hp2, ho2⟩ | ⟨z, x, f, hev, hx, rfl, hb2⟩⟩
  · have K2 := Lib.hid (((K0.out.but _).trans hk2).keep (fun k hk => by subst hk; exact Nat.le_refl _))
    have EV := Lib.hid hev
    have PB := Lib.hid (And.intro hn hp2)
    have O2 := Lib.hid ho2
    have c2 := Box.cells ho2
    unfold Rdr.pc at c2
    clear hk2 hev hn hp1 hp2 ho2 C1
    go_wp2_with fail
    refine region_grows (Keep w2) (by kernel_rfl) (by kernel_rfl) (Keep.refl _).drew ?_
    repeat (first
      | (apply text_pass (by rfl); go_simp)
      | (apply text_step (by rfl)
         · intro W hW
           have c := Box.cells (Rdr.POk.keep O2.out hW)
           unfold Rdr.pc at c
           go_simp
           exact ⟨rfl, hW⟩
         go_simp))
    apply text_end
    intro W hW
    have KW := Lib.hid (K2.out.trans hW)
    clear hW c2
    go_wp2_with fail
    refine bodyPost_ret (v := .tuple #[.int .i64 n, .int .i64 z, .nilIface]) (by simp [results, Tryd.results10, go_sem]; done) rfl ⟨KW.out, .inl ⟨n, z, EV.out, PB.out.1, PB.out.2, rfl⟩⟩
  · have K2 := Lib.hid (((K0.out.but _).trans hk2).keep (fun k hk => by subst hk; exact Nat.le_refl _))
    have EV := Lib.hid hev
    have HX := Lib.hid hx
    have HB := Lib.hid hb2
    clear hk2 hev hx hb2 C1
    unfold faultP
    go_wp2_with fail
    refine bodyPost_ret (v := .tuple #[.int .i64 0, .int .i64 0, faultP f]) (by simp [results, Tryd.results10, go_sem, faultP]; done) rfl ⟨K2.out, .inr ⟨z, x, f, EV.out, HX.out, rfl, HB.out⟩⟩
end Go.Proofs.YtockkidbncpdlaaDoor
