/- Package cap: Has, Sub, meets. -/
import Derived.Test.YtbeeomdpdmmllaaDoorChecked
import Derived.Test.YtbeeomdpdmmllaaDoorCapDef
import Derived.WalkKit
namespace Go.Proofs.YtbeeomdpdmmllaaDoor
set_option linter.unusedVariables false
set_option linter.unusedSimpArgs false
open Go.RowKit

theorem has_any (t : Bool) (b p a m y : Int) (x n : Int) (hb : 0 ≤ b ∧ b ≤ 4294967295) (hp : 0 ≤ p ∧ p ≤ 4294967295) (hx : 0 ≤ x ∧ x ≤ 4294967295) (hn : 0 ≤ n ∧ n ≤ 4294967295) (w : World) :
    Calls Tryd.prog 33 #[.agg #[.bool t, .int .u32 b, .int .u32 p, .int .u32 a, .int .u16 m, .int .u16 y], .int .u32 x, .int .u32 n] w fun e w' => e = .returned (.bool (hasB b p x n)) ∧ Keep w w' := by
  obtain ⟨b0, b1⟩ := hb
  obtain ⟨p0, p1⟩ := hp
  obtain ⟨x0, x1⟩ := hx
  obtain ⟨n0, n1⟩ := hn
  by_cases c1 : b ≤ x
  · by_cases c2 : x + n ≤ p
    · rw [hasB_true c1 c2]
      go_enter Tryd.func33, Tryd.ntmps33
      go_wp2
      go_ret
      exact ⟨rfl, (Keep.refl _).alloc _⟩
    · rw [hasB_false (by omega)]
      go_enter Tryd.func33, Tryd.ntmps33
      go_wp2
      go_ret
      exact ⟨rfl, (Keep.refl _).alloc _⟩
  · rw [hasB_false (by omega)]
    go_enter Tryd.func33, Tryd.ntmps33
    go_wp2
    go_ret
    exact ⟨rfl, (Keep.refl _).alloc _⟩

theorem sub_any (t : Bool) (b p a m y : Int) (t1 : Bool) (b1 p1 a1 m1 y1 : Int) (w : World) :
    Calls Tryd.prog 35 #[.agg #[.bool t, .int .u32 b, .int .u32 p, .int .u32 a, .int .u16 m, .int .u16 y], .agg #[.bool t1, .int .u32 b1, .int .u32 p1, .int .u32 a1, .int .u16 m1, .int .u16 y1]] w fun e w' => e = .returned (.bool (subB b p m b1 p1 m1)) ∧ Keep w w' := by
  by_cases c1 : b1 ≤ b
  · by_cases c2 : p ≤ p1
    · have hv : subB b p m b1 p1 m1 = (bits .andNot .u16 m m1 == 0) := by simp [subB, c1, c2]
      rw [hv]
      clear hv
      go_enter Tryd.func35, Tryd.ntmps35
      go_wp2
      go_ret
      exact ⟨rfl, ((Keep.refl _).alloc _).alloc _⟩
    · have hv : subB b p m b1 p1 m1 = false := by simp [subB, c2]
      rw [hv]
      clear hv
      go_enter Tryd.func35, Tryd.ntmps35
      go_wp2
      go_ret
      exact ⟨rfl, ((Keep.refl _).alloc _).alloc _⟩
  · have hv : subB b p m b1 p1 m1 = false := by simp [subB, c1]
    rw [hv]
    clear hv
    go_enter Tryd.func35, Tryd.ntmps35
    go_wp2
    go_ret
    exact ⟨rfl, ((Keep.refl _).alloc _).alloc _⟩

theorem meets0 (t : Bool) (b p a m y : Int) (n q : Int) (hb : 0 ≤ b ∧ b ≤ 4294967295) (hp : 0 ≤ p ∧ p ≤ 4294967295) (ha : 0 ≤ a ∧ a ≤ 4294967295) (hn : 0 ≤ n ∧ n ≤ 4294967295) (w : World) :
    Calls Tryd.prog 40 #[.agg #[.bool t, .int .u32 b, .int .u32 p, .int .u32 a, .int .u16 m, .int .u16 y], .int .i64 0, .int .u32 n, .int .u16 q] w fun e w' => e = .returned (.bool (meetsB t b p a m y n q)) ∧ Keep w w' := by
  obtain ⟨b0, b1⟩ := hb
  obtain ⟨p0, p1⟩ := hp
  obtain ⟨a0, a1⟩ := ha
  obtain ⟨n0, n1⟩ := hn
  cases t
  · have hv : (meetsB false b p a m y n q) = false := by simp [meetsB, *]
    rw [hv]
    clear hv
    go_enter Tryd.func40, Tryd.ntmps40
    go_wp2_with fail
    go_ret
    exact ⟨rfl, (Keep.refl _).alloc _⟩
  · rcases Bool.eq_false_or_eq_true (hasB b p a n) with d1 | d1
    · rcases Bool.eq_false_or_eq_true ((bits .and .u16 m q == q)) with d2 | d2
      · have hv : (meetsB true b p a m y n q) = (y == 0) := by simp [meetsB, *]
        rw [hv]
        clear hv
        go_enter Tryd.func40, Tryd.ntmps40
        go_wp2_with fail
        refine (has_any _ _ _ _ _ _ _ _ ⟨b0, b1⟩ ⟨p0, p1⟩ ⟨a0, a1⟩ ⟨n0, n1⟩ _).mono ?_
        rintro e w1 ⟨rfl, hk⟩
        have hc := ((Box.new _ _ _).keep hk).cells
        go_wp2_with fail
        go_ret
        exact ⟨rfl, ((Keep.refl _).alloc _).trans hk⟩
      · have hv : (meetsB true b p a m y n q) = false := by simp [meetsB, *]
        rw [hv]
        clear hv
        go_enter Tryd.func40, Tryd.ntmps40
        go_wp2_with fail
        refine (has_any _ _ _ _ _ _ _ _ ⟨b0, b1⟩ ⟨p0, p1⟩ ⟨a0, a1⟩ ⟨n0, n1⟩ _).mono ?_
        rintro e w1 ⟨rfl, hk⟩
        have hc := ((Box.new _ _ _).keep hk).cells
        go_wp2_with fail
        go_ret
        exact ⟨rfl, ((Keep.refl _).alloc _).trans hk⟩
    · have hv : (meetsB true b p a m y n q) = false := by simp [meetsB, *]
      rw [hv]
      clear hv
      go_enter Tryd.func40, Tryd.ntmps40
      go_wp2_with fail
      refine (has_any _ _ _ _ _ _ _ _ ⟨b0, b1⟩ ⟨p0, p1⟩ ⟨a0, a1⟩ ⟨n0, n1⟩ _).mono ?_
      rintro e w1 ⟨rfl, hk⟩
      have hc := ((Box.new _ _ _).keep hk).cells
      go_wp2_with fail
      go_ret
      exact ⟨rfl, ((Keep.refl _).alloc _).trans hk⟩

theorem meets1 (t : Bool) (b p a m y : Int) (n q : Int) (hb : 0 ≤ b ∧ b ≤ 4294967295) (hp : 0 ≤ p ∧ p ≤ 4294967295) (ha : 0 ≤ a ∧ a ≤ 4294967295) (hn : 0 ≤ n ∧ n ≤ 4294967295) (w : World) :
    Calls Tryd.prog 40 #[.agg #[.bool t, .int .u32 b, .int .u32 p, .int .u32 a, .int .u16 m, .int .u16 y], .int .i64 1, .int .u32 n, .int .u16 q] w fun e w' => e = .returned (.bool (hasB b p a n && (bits .and .u16 m q == q) && (y == 0))) ∧ Keep w w' := by
  obtain ⟨b0, b1⟩ := hb
  obtain ⟨p0, p1⟩ := hp
  obtain ⟨a0, a1⟩ := ha
  obtain ⟨n0, n1⟩ := hn
  rcases Bool.eq_false_or_eq_true (hasB b p a n) with d0 | d0
  · rcases Bool.eq_false_or_eq_true ((bits .and .u16 m q == q)) with d1 | d1
    · have hv : (hasB b p a n && (bits .and .u16 m q == q) && (y == 0)) = (y == 0) := by simp [Bool.true_and, Bool.false_and, *]
      rw [hv]
      clear hv
      go_enter Tryd.func40, Tryd.ntmps40
      go_wp2_with fail
      refine (has_any _ _ _ _ _ _ _ _ ⟨b0, b1⟩ ⟨p0, p1⟩ ⟨a0, a1⟩ ⟨n0, n1⟩ _).mono ?_
      rintro e w1 ⟨rfl, hk⟩
      have hc := ((Box.new _ _ _).keep hk).cells
      go_wp2_with fail
      go_ret
      exact ⟨rfl, ((Keep.refl _).alloc _).trans hk⟩
    · have hv : (hasB b p a n && (bits .and .u16 m q == q) && (y == 0)) = false := by simp [Bool.true_and, Bool.false_and, *]
      rw [hv]
      clear hv
      go_enter Tryd.func40, Tryd.ntmps40
      go_wp2_with fail
      refine (has_any _ _ _ _ _ _ _ _ ⟨b0, b1⟩ ⟨p0, p1⟩ ⟨a0, a1⟩ ⟨n0, n1⟩ _).mono ?_
      rintro e w1 ⟨rfl, hk⟩
      have hc := ((Box.new _ _ _).keep hk).cells
      go_wp2_with fail
      go_ret
      exact ⟨rfl, ((Keep.refl _).alloc _).trans hk⟩
  · have hv : (hasB b p a n && (bits .and .u16 m q == q) && (y == 0)) = false := by simp [Bool.true_and, Bool.false_and, *]
    rw [hv]
    clear hv
    go_enter Tryd.func40, Tryd.ntmps40
    go_wp2_with fail
    refine (has_any _ _ _ _ _ _ _ _ ⟨b0, b1⟩ ⟨p0, p1⟩ ⟨a0, a1⟩ ⟨n0, n1⟩ _).mono ?_
    rintro e w1 ⟨rfl, hk⟩
    have hc := ((Box.new _ _ _).keep hk).cells
    go_wp2_with fail
    go_ret
    exact ⟨rfl, ((Keep.refl _).alloc _).trans hk⟩

theorem meets2 (t : Bool) (b p a m y : Int) (n q : Int) (hb : 0 ≤ b ∧ b ≤ 4294967295) (hp : 0 ≤ p ∧ p ≤ 4294967295) (ha : 0 ≤ a ∧ a ≤ 4294967295) (hn : 0 ≤ n ∧ n ≤ 4294967295) (w : World) :
    Calls Tryd.prog 40 #[.agg #[.bool t, .int .u32 b, .int .u32 p, .int .u32 a, .int .u16 m, .int .u16 y], .int .i64 2, .int .u32 n, .int .u16 q] w fun e w' => e = .returned (.bool ((bits .and .u16 m q == q) && (y == 0))) ∧ Keep w w' := by
  obtain ⟨b0, b1⟩ := hb
  obtain ⟨p0, p1⟩ := hp
  obtain ⟨a0, a1⟩ := ha
  obtain ⟨n0, n1⟩ := hn
  rcases Bool.eq_false_or_eq_true ((bits .and .u16 m q == q)) with d0 | d0
  · have hv : ((bits .and .u16 m q == q) && (y == 0)) = (y == 0) := by simp [Bool.true_and, Bool.false_and, *]
    rw [hv]
    clear hv
    go_enter Tryd.func40, Tryd.ntmps40
    go_wp2_with fail
    go_ret
    exact ⟨rfl, (Keep.refl _).alloc _⟩
  · have hv : ((bits .and .u16 m q == q) && (y == 0)) = false := by simp [Bool.true_and, Bool.false_and, *]
    rw [hv]
    clear hv
    go_enter Tryd.func40, Tryd.ntmps40
    go_wp2_with fail
    go_ret
    exact ⟨rfl, (Keep.refl _).alloc _⟩

theorem meets3 (t : Bool) (b p a m y : Int) (n q : Int) (hb : 0 ≤ b ∧ b ≤ 4294967295) (hp : 0 ≤ p ∧ p ≤ 4294967295) (ha : 0 ≤ a ∧ a ≤ 4294967295) (hn : 0 ≤ n ∧ n ≤ 4294967295) (w : World) :
    Calls Tryd.prog 40 #[.agg #[.bool t, .int .u32 b, .int .u32 p, .int .u32 a, .int .u16 m, .int .u16 y], .int .i64 3, .int .u32 n, .int .u16 q] w fun e w' => e = .returned (.bool ((y == 0))) ∧ Keep w w' := by
  obtain ⟨b0, b1⟩ := hb
  obtain ⟨p0, p1⟩ := hp
  obtain ⟨a0, a1⟩ := ha
  obtain ⟨n0, n1⟩ := hn
  go_enter Tryd.func40, Tryd.ntmps40
  go_wp2_with fail
  go_ret
  exact ⟨rfl, (Keep.refl _).alloc _⟩

end Go.Proofs.YtbeeomdpdmmllaaDoor
