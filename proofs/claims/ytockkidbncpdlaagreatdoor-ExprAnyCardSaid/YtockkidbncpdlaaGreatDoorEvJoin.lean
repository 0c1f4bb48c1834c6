/- The reference's times, join: what a sign makes of two numbers. -/
import Derived.Test.YtockkidbncpdlaaGreatDoorEvSign
namespace Go.Proofs.YtockkidbncpdlaaGreatDoor
set_option linter.unusedVariables false
set_option linter.unusedSimpArgs false
open Go.RowKit
def InB (n : Int) : Prop := -1099511627776 ≤ n ∧ n ≤ 1099511627776
/-- What came: a number, nothing changed; or the error at a place. -/
def JoinR (r : Rdr) (pl : Int) (o : Option Int) (w : World) (x : Ending) (w' : World) : Prop := match o with
  | some n => x = .returned (.int .i64 n) ∧ w = w'
  | none => x = .returned (.int .i64 0) ∧ KeepBut (fun z => z = r.b) w w' ∧ r.Bad w' pl 14
theorem JoinR.ok {r : Rdr} {pl : Int} {o : Option Int} {n : Int} {w : World} (h : o = some n) : JoinR r pl o w (.returned (.int .i64 n)) w := by subst h; exact ⟨rfl, rfl⟩
theorem JoinR.bad {r : Rdr} {pl : Int} {o : Option Int} {w w' : World} (h : o = none) (k : KeepBut (fun z => z = r.b) w w' ∧ r.Bad w' pl 14) : JoinR r pl o w (.returned (.int .i64 0)) w' := by subst h; exact ⟨rfl, k⟩
theorem timesE_mul {a b : Int} (h1 : a ≠ 0) (h2 : b ≠ 0) (h : ¬ absI a > 1099511627776 / absI b) : timesE a b = some (a * b) := by
  unfold timesE lxBig; rw [if_neg (by omega), if_neg h]
theorem timesE_over {a b : Int} (h1 : a ≠ 0) (h2 : b ≠ 0) (h : absI a > 1099511627776 / absI b) : timesE a b = none := by
  unfold timesE lxBig; rw [if_neg (by omega), if_pos h]
theorem pos_mul {x y : Int} (hx : 0 < x) (hy : 0 < y) (h : ¬ x > 1099511627776 / y) : 0 ≤ x * y ∧ x * y ≤ 1099511627776 := by
  have h4 : x ≤ 1099511627776 / y := by omega
  have h5 := Int.mul_le_mul_of_nonneg_right h4 (Int.le_of_lt hy)
  have h6 := Int.ediv_mul_le 1099511627776 (Int.ne_of_gt hy)
  exact ⟨Int.mul_nonneg (Int.le_of_lt hx) (Int.le_of_lt hy), by omega⟩
theorem quo_bd {y : Int} (hy : 0 < y) : 0 ≤ 1099511627776 / y ∧ 1099511627776 / y ≤ 1099511627776 := ⟨Int.ediv_nonneg (by decide) (Int.le_of_lt hy), Int.ediv_le_self _ (by decide)⟩
theorem abs_pos {x : Int} (h : 0 < x) : absI x = x := by unfold absI; rw [if_neg (by omega)]
theorem abs_neg {x : Int} (h : 0 < x) : absI (-x) = x := by unfold absI; rw [if_pos (by omega)]; omega
set_option maxHeartbeats 1000000 in
theorem rtimes_pp (r : Rdr) (c pl : Int) (w : World) (h : r.Ok w c) (x y : Int) (hx : 0 < x) (hx1 : x ≤ 1099511627776) (hy : 0 < y) (hy1 : y ≤ 1099511627776) : Calls Tryz.prog 57 #[.pointer (some ⟨r.b, 0, none⟩), .int .i64 x, .int .i64 y, .int .i64 pl] w (JoinR r pl (timesE x y) w) := by
  have C := Lib.hid (rfail_ok r c pl 14 (by decide) w h)
  clear h
  have az : x ≠ 0 := by omega
  have bz : y ≠ 0 := by omega
  have az' : (x == 0) = false := beq_eq_false_iff_ne.2 az
  have bz' : (y == 0) = false := beq_eq_false_iff_ne.2 bz
  have ax : absI x = x := abs_pos hx
  have ay : absI y = y := abs_pos hy
  obtain ⟨q0, q1⟩ := quo_bd hy
  by_cases over : x > 1099511627776 / y
  · have HE := Lib.hid (timesE_over az bz (by rw [ax, ay]; exact over))
    clear az bz ax ay
    go_enter Tryz.func57, Tryz.ntmps57
    go_wp2_with fail
    refine C.out.mono ?_
    rintro e w' ⟨rfl, hk⟩
    have HK := Lib.hid hk
    clear hk
    go_wp2_with fail
    go_ret
    exact JoinR.bad HE.out HK.out
  · have HE := Lib.hid (timesE_mul az bz (by rw [ax, ay]; exact over))
    obtain ⟨m0, m1⟩ := pos_mul hx hy over
    have pr : x * y = x * y := rfl
    have hw : IntKind.i64.wrap (x * y) = x * y := by rw [pr, IntKind.wrap_i64]; omega
    rw [pr] at HE
    have over' : decide (1099511627776 / y < x) = false := decide_eq_false over
    have bo0 : -9223372036854775808 ≤ x * y := by omega
    have bo1 : x * y ≤ 9223372036854775807 := by omega
    clear az bz ax ay pr
    go_enter Tryz.func57, Tryz.ntmps57
    go_wp2_with fail
    go_ret
    exact JoinR.ok HE.out
set_option maxHeartbeats 1000000 in
theorem rtimes_pn (r : Rdr) (c pl : Int) (w : World) (h : r.Ok w c) (x y : Int) (hx : 0 < x) (hx1 : x ≤ 1099511627776) (hy : 0 < y) (hy1 : y ≤ 1099511627776) : Calls Tryz.prog 57 #[.pointer (some ⟨r.b, 0, none⟩), .int .i64 x, .int .i64 (-y), .int .i64 pl] w (JoinR r pl (timesE x (-y)) w) := by
  have C := Lib.hid (rfail_ok r c pl 14 (by decide) w h)
  clear h
  have az : x ≠ 0 := by omega
  have bz : (-y) ≠ 0 := by omega
  have az' : (x == 0) = false := beq_eq_false_iff_ne.2 az
  have bz' : ((-y) == 0) = false := beq_eq_false_iff_ne.2 bz
  have ax : absI x = x := abs_pos hx
  have ay : absI (-y) = y := abs_neg hy
  obtain ⟨q0, q1⟩ := quo_bd hy
  by_cases over : x > 1099511627776 / y
  · have HE := Lib.hid (timesE_over az bz (by rw [ax, ay]; exact over))
    clear az bz ax ay
    go_enter Tryz.func57, Tryz.ntmps57
    go_wp2_with fail
    refine C.out.mono ?_
    rintro e w' ⟨rfl, hk⟩
    have HK := Lib.hid hk
    clear hk
    go_wp2_with fail
    go_ret
    exact JoinR.bad HE.out HK.out
  · have HE := Lib.hid (timesE_mul az bz (by rw [ax, ay]; exact over))
    obtain ⟨m0, m1⟩ := pos_mul hx hy over
    have pr : x * (-y) = -(x * y) := Int.mul_neg x y
    have hw : IntKind.i64.wrap (x * -y) = -(x * y) := by rw [pr, IntKind.wrap_i64]; omega
    rw [pr] at HE
    have over' : decide (1099511627776 / y < x) = false := decide_eq_false over
    have bo0 : -9223372036854775808 ≤ -(x * y) := by omega
    have bo1 : -(x * y) ≤ 9223372036854775807 := by omega
    clear az bz ax ay pr
    go_enter Tryz.func57, Tryz.ntmps57
    go_wp2_with fail
    go_ret
    exact JoinR.ok HE.out
set_option maxHeartbeats 1000000 in
theorem rtimes_np (r : Rdr) (c pl : Int) (w : World) (h : r.Ok w c) (x y : Int) (hx : 0 < x) (hx1 : x ≤ 1099511627776) (hy : 0 < y) (hy1 : y ≤ 1099511627776) : Calls Tryz.prog 57 #[.pointer (some ⟨r.b, 0, none⟩), .int .i64 (-x), .int .i64 y, .int .i64 pl] w (JoinR r pl (timesE (-x) y) w) := by
  have C := Lib.hid (rfail_ok r c pl 14 (by decide) w h)
  clear h
  have az : (-x) ≠ 0 := by omega
  have bz : y ≠ 0 := by omega
  have az' : ((-x) == 0) = false := beq_eq_false_iff_ne.2 az
  have bz' : (y == 0) = false := beq_eq_false_iff_ne.2 bz
  have ax : absI (-x) = x := abs_neg hx
  have ay : absI y = y := abs_pos hy
  obtain ⟨q0, q1⟩ := quo_bd hy
  by_cases over : x > 1099511627776 / y
  · have HE := Lib.hid (timesE_over az bz (by rw [ax, ay]; exact over))
    clear az bz ax ay
    go_enter Tryz.func57, Tryz.ntmps57
    go_wp2_with fail
    refine C.out.mono ?_
    rintro e w' ⟨rfl, hk⟩
    have HK := Lib.hid hk
    clear hk
    go_wp2_with fail
    go_ret
    exact JoinR.bad HE.out HK.out
  · have HE := Lib.hid (timesE_mul az bz (by rw [ax, ay]; exact over))
    obtain ⟨m0, m1⟩ := pos_mul hx hy over
    have pr : (-x) * y = -(x * y) := Int.neg_mul x y
    have hw : IntKind.i64.wrap (-x * y) = -(x * y) := by rw [pr, IntKind.wrap_i64]; omega
    rw [pr] at HE
    have over' : decide (1099511627776 / y < x) = false := decide_eq_false over
    have bo0 : -9223372036854775808 ≤ -(x * y) := by omega
    have bo1 : -(x * y) ≤ 9223372036854775807 := by omega
    clear az bz ax ay pr
    go_enter Tryz.func57, Tryz.ntmps57
    go_wp2_with fail
    go_ret
    exact JoinR.ok HE.out
set_option maxHeartbeats 1000000 in
theorem rtimes_nn (r : Rdr) (c pl : Int) (w : World) (h : r.Ok w c) (x y : Int) (hx : 0 < x) (hx1 : x ≤ 1099511627776) (hy : 0 < y) (hy1 : y ≤ 1099511627776) : Calls Tryz.prog 57 #[.pointer (some ⟨r.b, 0, none⟩), .int .i64 (-x), .int .i64 (-y), .int .i64 pl] w (JoinR r pl (timesE (-x) (-y)) w) := by
  have C := Lib.hid (rfail_ok r c pl 14 (by decide) w h)
  clear h
  have az : (-x) ≠ 0 := by omega
  have bz : (-y) ≠ 0 := by omega
  have az' : ((-x) == 0) = false := beq_eq_false_iff_ne.2 az
  have bz' : ((-y) == 0) = false := beq_eq_false_iff_ne.2 bz
  have ax : absI (-x) = x := abs_neg hx
  have ay : absI (-y) = y := abs_neg hy
  obtain ⟨q0, q1⟩ := quo_bd hy
  by_cases over : x > 1099511627776 / y
  · have HE := Lib.hid (timesE_over az bz (by rw [ax, ay]; exact over))
    clear az bz ax ay
    go_enter Tryz.func57, Tryz.ntmps57
    go_wp2_with fail
    refine C.out.mono ?_
    rintro e w' ⟨rfl, hk⟩
    have HK := Lib.hid hk
    clear hk
    go_wp2_with fail
    go_ret
    exact JoinR.bad HE.out HK.out
  · have HE := Lib.hid (timesE_mul az bz (by rw [ax, ay]; exact over))
    obtain ⟨m0, m1⟩ := pos_mul hx hy over
    have pr : (-x) * (-y) = x * y := Int.neg_mul_neg x y
    have hw : IntKind.i64.wrap (-x * -y) = x * y := by rw [pr, IntKind.wrap_i64]; omega
    rw [pr] at HE
    have over' : decide (1099511627776 / y < x) = false := decide_eq_false over
    have bo0 : -9223372036854775808 ≤ x * y := by omega
    have bo1 : x * y ≤ 9223372036854775807 := by omega
    clear az bz ax ay pr
    go_enter Tryz.func57, Tryz.ntmps57
    go_wp2_with fail
    go_ret
    exact JoinR.ok HE.out
theorem rtimes_any (r : Rdr) (c a b pl : Int) (w : World) (h : r.Ok w c) (ha : InB a) (hb : InB b) : Calls Tryz.prog 57 #[.pointer (some ⟨r.b, 0, none⟩), .int .i64 a, .int .i64 b, .int .i64 pl] w (JoinR r pl (timesE a b) w) := by
  obtain ⟨a0, a1⟩ := ha
  obtain ⟨b0, b1⟩ := hb
  by_cases az : a = 0
  · subst az
    have HE : Hid (timesE 0 b = some 0) := Lib.hid (by unfold timesE; rw [if_pos (.inl rfl)])
    go_enter Tryz.func57, Tryz.ntmps57
    go_wp2_with fail
    go_ret
    exact JoinR.ok HE.out
  · by_cases bz : b = 0
    · subst bz
      have HE : Hid (timesE a 0 = some 0) := Lib.hid (by unfold timesE; rw [if_pos (.inr rfl)])
      have az' : (a == 0) = false := beq_eq_false_iff_ne.2 az
      clear az
      go_enter Tryz.func57, Tryz.ntmps57
      go_wp2_with fail
      go_ret
      exact JoinR.ok HE.out
    · by_cases an : a < 0
      · obtain ⟨x, rfl⟩ : ∃ x, a = -x := ⟨-a, by omega⟩
        by_cases bn : b < 0
        · obtain ⟨y, rfl⟩ : ∃ y, b = -y := ⟨-b, by omega⟩
          exact rtimes_nn r c pl w h x y (by omega) (by omega) (by omega) (by omega)
        · exact rtimes_np r c pl w h x b (by omega) (by omega) (by omega) (by omega)
      · by_cases bn : b < 0
        · obtain ⟨y, rfl⟩ : ∃ y, b = -y := ⟨-b, by omega⟩
          exact rtimes_pn r c pl w h a y (by omega) (by omega) (by omega) (by omega)
        · exact rtimes_pp r c pl w h a b (by omega) (by omega) (by omega) (by omega)
end Go.Proofs.YtockkidbncpdlaaGreatDoor
