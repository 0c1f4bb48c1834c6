/- CapAsk, CapMake, CapRef, CapRoot, CapOf, CapEq, CapData: Package cap: Has, Sub, meets. -/
import Derived.Test.YtgfoohiaioojoaaDoorChecked
import Derived.Test.YtgfoohiaioojoaaDoorGBase
import Derived.WalkKit
import Derived.Laws.StructEq
import Derived.ProofKit
import Derived.OpenShut
import Derived.Deep.Fields
/- Package cap: Has, Sub, meets. -/
namespace Go.Proofs.YtgfoohiaioojoaaDoor
set_option linter.unusedVariables false
set_option linter.unusedSimpArgs false
open Go.RowKit

theorem has_any (t : Bool) (b p a m y : Int) (x n : Int) (hb : 0 ≤ b ∧ b ≤ 4294967295) (hp : 0 ≤ p ∧ p ≤ 4294967295) (hx : 0 ≤ x ∧ x ≤ 4294967295) (hn : 0 ≤ n ∧ n ≤ 4294967295) (w : World) :
    Calls Tryd.prog 75 #[.agg #[.bool t, .int .u32 b, .int .u32 p, .int .u32 a, .int .u16 m, .int .u16 y], .int .u32 x, .int .u32 n] w fun e w' => e = .returned (.bool (hasB b p x n)) ∧ Keep w w' := by
  obtain ⟨b0, b1⟩ := hb
  obtain ⟨p0, p1⟩ := hp
  obtain ⟨x0, x1⟩ := hx
  obtain ⟨n0, n1⟩ := hn
  by_cases c1 : b ≤ x
  · by_cases c2 : x + n ≤ p
    · rw [hasB_true c1 c2]
      go_enter Tryd.func75, Tryd.ntmps75
      go_wp2
      go_ret
      exact ⟨rfl, (Keep.refl _).alloc _⟩
    · rw [hasB_false (by omega)]
      go_enter Tryd.func75, Tryd.ntmps75
      go_wp2
      go_ret
      exact ⟨rfl, (Keep.refl _).alloc _⟩
  · rw [hasB_false (by omega)]
    go_enter Tryd.func75, Tryd.ntmps75
    go_wp2
    go_ret
    exact ⟨rfl, (Keep.refl _).alloc _⟩

theorem meets0 (t : Bool) (b p a m y : Int) (n q : Int) (hb : 0 ≤ b ∧ b ≤ 4294967295) (hp : 0 ≤ p ∧ p ≤ 4294967295) (ha : 0 ≤ a ∧ a ≤ 4294967295) (hn : 0 ≤ n ∧ n ≤ 4294967295) (w : World) :
    Calls Tryd.prog 68 #[.agg #[.bool t, .int .u32 b, .int .u32 p, .int .u32 a, .int .u16 m, .int .u16 y], .int .i64 0, .int .u32 n, .int .u16 q] w fun e w' => e = .returned (.bool (meetsB t b p a m y n q)) ∧ Keep w w' := by
  obtain ⟨b0, b1⟩ := hb
  obtain ⟨p0, p1⟩ := hp
  obtain ⟨a0, a1⟩ := ha
  obtain ⟨n0, n1⟩ := hn
  cases t
  · have hv : (meetsB false b p a m y n q) = false := by simp [meetsB, *]
    rw [hv]
    clear hv
    go_enter Tryd.func68, Tryd.ntmps68
    go_wp2_with fail
    go_ret
    exact ⟨rfl, (Keep.refl _).alloc _⟩
  · rcases Bool.eq_false_or_eq_true (hasB b p a n) with d1 | d1
    · rcases Bool.eq_false_or_eq_true ((bits .and .u16 m q == q)) with d2 | d2
      · have hv : (meetsB true b p a m y n q) = (y == 0) := by simp [meetsB, *]
        rw [hv]
        clear hv
        go_enter Tryd.func68, Tryd.ntmps68
        go_wp2_with fail
        refine (has_any _ _ _ _ _ _ _ _ ⟨b0, b1⟩ ⟨p0, p1⟩ ⟨a0, a1⟩ ⟨n0, n1⟩ _).mono ?_
        rintro e w1 ⟨rfl, hk⟩
        have hc := ((Box.new _ _ _).keep hk).cells
        go_wp2_with fail
        go_ret
        exact ⟨rfl, ((Keep.refl _).alloc _).trans hk⟩
      · have hv : (meetsB true b p a m y n q) = false := by simp [meetsB, *]
        rw [hv]
        clear hv
        go_enter Tryd.func68, Tryd.ntmps68
        go_wp2_with fail
        refine (has_any _ _ _ _ _ _ _ _ ⟨b0, b1⟩ ⟨p0, p1⟩ ⟨a0, a1⟩ ⟨n0, n1⟩ _).mono ?_
        rintro e w1 ⟨rfl, hk⟩
        have hc := ((Box.new _ _ _).keep hk).cells
        go_wp2_with fail
        go_ret
        exact ⟨rfl, ((Keep.refl _).alloc _).trans hk⟩
    · have hv : (meetsB true b p a m y n q) = false := by simp [meetsB, *]
      rw [hv]
      clear hv
      go_enter Tryd.func68, Tryd.ntmps68
      go_wp2_with fail
      refine (has_any _ _ _ _ _ _ _ _ ⟨b0, b1⟩ ⟨p0, p1⟩ ⟨a0, a1⟩ ⟨n0, n1⟩ _).mono ?_
      rintro e w1 ⟨rfl, hk⟩
      have hc := ((Box.new _ _ _).keep hk).cells
      go_wp2_with fail
      go_ret
      exact ⟨rfl, ((Keep.refl _).alloc _).trans hk⟩

theorem meets1 (t : Bool) (b p a m y : Int) (n q : Int) (hb : 0 ≤ b ∧ b ≤ 4294967295) (hp : 0 ≤ p ∧ p ≤ 4294967295) (ha : 0 ≤ a ∧ a ≤ 4294967295) (hn : 0 ≤ n ∧ n ≤ 4294967295) (w : World) :
    Calls Tryd.prog 68 #[.agg #[.bool t, .int .u32 b, .int .u32 p, .int .u32 a, .int .u16 m, .int .u16 y], .int .i64 1, .int .u32 n, .int .u16 q] w fun e w' => e = .returned (.bool (hasB b p a n && (bits .and .u16 m q == q) && (y == 0))) ∧ Keep w w' := by
  obtain ⟨b0, b1⟩ := hb
  obtain ⟨p0, p1⟩ := hp
  obtain ⟨a0, a1⟩ := ha
  obtain ⟨n0, n1⟩ := hn
  rcases Bool.eq_false_or_eq_true (hasB b p a n) with d0 | d0
  · rcases Bool.eq_false_or_eq_true ((bits .and .u16 m q == q)) with d1 | d1
    · have hv : (hasB b p a n && (bits .and .u16 m q == q) && (y == 0)) = (y == 0) := by simp [Bool.true_and, Bool.false_and, *]
      rw [hv]
      clear hv
      go_enter Tryd.func68, Tryd.ntmps68
      go_wp2_with fail
      refine (has_any _ _ _ _ _ _ _ _ ⟨b0, b1⟩ ⟨p0, p1⟩ ⟨a0, a1⟩ ⟨n0, n1⟩ _).mono ?_
      rintro e w1 ⟨rfl, hk⟩
      have hc := ((Box.new _ _ _).keep hk).cells
      go_wp2_with fail
      go_ret
      exact ⟨rfl, ((Keep.refl _).alloc _).trans hk⟩
    · have hv : (hasB b p a n && (bits .and .u16 m q == q) && (y == 0)) = false := by simp [Bool.true_and, Bool.false_and, *]
      rw [hv]
      clear hv
      go_enter Tryd.func68, Tryd.ntmps68
      go_wp2_with fail
      refine (has_any _ _ _ _ _ _ _ _ ⟨b0, b1⟩ ⟨p0, p1⟩ ⟨a0, a1⟩ ⟨n0, n1⟩ _).mono ?_
      rintro e w1 ⟨rfl, hk⟩
      have hc := ((Box.new _ _ _).keep hk).cells
      go_wp2_with fail
      go_ret
      exact ⟨rfl, ((Keep.refl _).alloc _).trans hk⟩
  · have hv : (hasB b p a n && (bits .and .u16 m q == q) && (y == 0)) = false := by simp [Bool.true_and, Bool.false_and, *]
    rw [hv]
    clear hv
    go_enter Tryd.func68, Tryd.ntmps68
    go_wp2_with fail
    refine (has_any _ _ _ _ _ _ _ _ ⟨b0, b1⟩ ⟨p0, p1⟩ ⟨a0, a1⟩ ⟨n0, n1⟩ _).mono ?_
    rintro e w1 ⟨rfl, hk⟩
    have hc := ((Box.new _ _ _).keep hk).cells
    go_wp2_with fail
    go_ret
    exact ⟨rfl, ((Keep.refl _).alloc _).trans hk⟩

theorem meets2 (t : Bool) (b p a m y : Int) (n q : Int) (hb : 0 ≤ b ∧ b ≤ 4294967295) (hp : 0 ≤ p ∧ p ≤ 4294967295) (ha : 0 ≤ a ∧ a ≤ 4294967295) (hn : 0 ≤ n ∧ n ≤ 4294967295) (w : World) :
    Calls Tryd.prog 68 #[.agg #[.bool t, .int .u32 b, .int .u32 p, .int .u32 a, .int .u16 m, .int .u16 y], .int .i64 2, .int .u32 n, .int .u16 q] w fun e w' => e = .returned (.bool ((bits .and .u16 m q == q) && (y == 0))) ∧ Keep w w' := by
  obtain ⟨b0, b1⟩ := hb
  obtain ⟨p0, p1⟩ := hp
  obtain ⟨a0, a1⟩ := ha
  obtain ⟨n0, n1⟩ := hn
  rcases Bool.eq_false_or_eq_true ((bits .and .u16 m q == q)) with d0 | d0
  · have hv : ((bits .and .u16 m q == q) && (y == 0)) = (y == 0) := by simp [Bool.true_and, Bool.false_and, *]
    rw [hv]
    clear hv
    go_enter Tryd.func68, Tryd.ntmps68
    go_wp2_with fail
    go_ret
    exact ⟨rfl, (Keep.refl _).alloc _⟩
  · have hv : ((bits .and .u16 m q == q) && (y == 0)) = false := by simp [Bool.true_and, Bool.false_and, *]
    rw [hv]
    clear hv
    go_enter Tryd.func68, Tryd.ntmps68
    go_wp2_with fail
    go_ret
    exact ⟨rfl, (Keep.refl _).alloc _⟩

theorem meets3 (t : Bool) (b p a m y : Int) (n q : Int) (hb : 0 ≤ b ∧ b ≤ 4294967295) (hp : 0 ≤ p ∧ p ≤ 4294967295) (ha : 0 ≤ a ∧ a ≤ 4294967295) (hn : 0 ≤ n ∧ n ≤ 4294967295) (w : World) :
    Calls Tryd.prog 68 #[.agg #[.bool t, .int .u32 b, .int .u32 p, .int .u32 a, .int .u16 m, .int .u16 y], .int .i64 3, .int .u32 n, .int .u16 q] w fun e w' => e = .returned (.bool ((y == 0))) ∧ Keep w w' := by
  obtain ⟨b0, b1⟩ := hb
  obtain ⟨p0, p1⟩ := hp
  obtain ⟨a0, a1⟩ := ha
  obtain ⟨n0, n1⟩ := hn
  go_enter Tryd.func68, Tryd.ntmps68
  go_wp2_with fail
  go_ret
  exact ⟨rfl, (Keep.refl _).alloc _⟩

end Go.Proofs.YtgfoohiaioojoaaDoor

/- Package cap: what is made of a capability: SetAddr, Bounds, AndPerm, Clear, Enter, Int, Root, Seal, Unseal. -/
namespace Go.Proofs.YtgfoohiaioojoaaDoor
set_option linter.unusedVariables false
set_option linter.unusedSimpArgs false
open Go.RowKit

theorem and0 (m : Int) (h : 0 ≤ m ∧ m ≤ 65535) : (bits .and .u16 m 0 == 0) = true := by
  rw [u16_and m 0 (by omega) (by omega) (by decide) (by decide)]
  simp

theorem setAddr_any (t : Bool) (b p a m y : Int) (x : Int) (hb : 0 ≤ b ∧ b ≤ 4294967295) (hp : 0 ≤ p ∧ p ≤ 4294967295) (ha : 0 ≤ a ∧ a ≤ 4294967295) (hm : 0 ≤ m ∧ m ≤ 65535) (w : World) :
    Calls Tryd.prog 33 #[.agg #[.bool t, .int .u32 b, .int .u32 p, .int .u32 a, .int .u16 m, .int .u16 y], .int .u32 x] w fun e w' => e = .returned (.agg #[.bool (tagOpen t y), .int .u32 b, .int .u32 p, .int .u32 x, .int .u16 m, .int .u16 y]) ∧ Keep w w' := by
  have m00 := and0 m hm
  cases t
  · have hv : tagOpen false y = false := by simp [tagOpen, tagBounds, tagEnter, *]
    rw [hv]
    clear hv
    go_enter Tryd.func33, Tryd.ntmps33
    go_wp2_with fail
    refine bodyPost_ret (v := .agg #[.bool false, .int .u32 b, .int .u32 p, .int .u32 x, .int .u16 m, .int .u16 y]) (by simp [results, Tryd.results33, go_sem]) rfl ⟨rfl, ?_⟩
    exact (((Keep.refl _).alloc _).alloc _)
  · have hv : tagOpen true y = (y == 0) := by simp [tagOpen, tagBounds, tagEnter, *]
    rw [hv]
    clear hv
    go_enter Tryd.func33, Tryd.ntmps33
    go_wp2_with fail
    refine (meets3 _ _ _ _ _ _ 0 0 hb hp ha (by omega) _).mono ?_
    rintro e w1 ⟨rfl, hk1⟩
    have B0_1 : Box w1 w.heap.size #[.bool true, .int .u32 b, .int .u32 p, .int .u32 a, .int .u16 m, .int .u16 y] := ((Box.new _ _ _).alloc _).keep hk1
    have B1_1 : Box w1 (w.heap.size + 1) #[.bool false, .int .u32 0, .int .u32 0, .int .u32 0, .int .u16 0, .int .u16 0] := (Box.new1 _ _ _ _).keep hk1
    have c0 := B0_1.cells
    have f0 := B0_1.thawed
    have c1 := B1_1.cells
    have f1 := B1_1.thawed
    go_wp2_with fail
    refine bodyPost_ret (v := .agg #[.bool (y == 0), .int .u32 b, .int .u32 p, .int .u32 x, .int .u16 m, .int .u16 y]) (by simp [results, Tryd.results33, go_sem, c1]) rfl ⟨rfl, ?_⟩
    repeat (with_reducible refine Keep.setCell ?_ (by simp <;> omega) _)
    exact ((((Keep.refl _).alloc _).alloc _).trans hk1)

theorem bounds_any (t : Bool) (b p a m y : Int) (x : Int) (hb : 0 ≤ b ∧ b ≤ 4294967295) (hp : 0 ≤ p ∧ p ≤ 4294967295) (ha : 0 ≤ a ∧ a ≤ 4294967295) (hm : 0 ≤ m ∧ m ≤ 65535) (hx : 0 ≤ x ∧ x ≤ 4294967295) (w : World) :
    Calls Tryd.prog 32 #[.agg #[.bool t, .int .u32 b, .int .u32 p, .int .u32 a, .int .u16 m, .int .u16 y], .int .u32 x] w fun e w' => e = .returned (.agg #[.bool (tagBounds t b p a y x), .int .u32 a, .int .u32 ((a + x) % 4294967296), .int .u32 a, .int .u16 m, .int .u16 y]) ∧ Keep w w' := by
  have m00 := and0 m hm
  cases t
  · have hv : tagBounds false b p a y x = false := by simp [tagOpen, tagBounds, tagEnter, *]
    rw [hv]
    clear hv
    go_enter Tryd.func32, Tryd.ntmps32
    go_wp2_with fail
    refine bodyPost_ret (v := .agg #[.bool false, .int .u32 a, .int .u32 ((a + x) % 4294967296), .int .u32 a, .int .u16 m, .int .u16 y]) (by simp [results, Tryd.results32, go_sem]) rfl ⟨rfl, ?_⟩
    exact (((Keep.refl _).alloc _).alloc _)
  · have hv : tagBounds true b p a y x = (hasB b p a x && (y == 0)) := by simp [tagOpen, tagBounds, tagEnter, *]
    rw [hv]
    clear hv
    go_enter Tryd.func32, Tryd.ntmps32
    go_wp2_with fail
    refine (meets1 _ _ _ _ _ _ x 0 hb hp ha hx _).mono ?_
    rintro e w1 ⟨rfl, hk1⟩
    have B0_1 : Box w1 w.heap.size #[.bool true, .int .u32 b, .int .u32 p, .int .u32 a, .int .u16 m, .int .u16 y] := ((Box.new _ _ _).alloc _).keep hk1
    have B1_1 : Box w1 (w.heap.size + 1) #[.bool false, .int .u32 0, .int .u32 0, .int .u32 0, .int .u16 0, .int .u16 0] := (Box.new1 _ _ _ _).keep hk1
    have c0 := B0_1.cells
    have f0 := B0_1.thawed
    have c1 := B1_1.cells
    have f1 := B1_1.thawed
    go_wp2_with fail
    refine bodyPost_ret (v := .agg #[.bool (hasB b p a x && (y == 0)), .int .u32 a, .int .u32 ((a + x) % 4294967296), .int .u32 a, .int .u16 m, .int .u16 y]) (by simp [results, Tryd.results32, go_sem, c1]) rfl ⟨rfl, ?_⟩
    repeat (with_reducible refine Keep.setCell ?_ (by simp <;> omega) _)
    exact ((((Keep.refl _).alloc _).alloc _).trans hk1)

theorem andPerm_any (t : Bool) (b p a m y : Int) (x : Int) (hb : 0 ≤ b ∧ b ≤ 4294967295) (hp : 0 ≤ p ∧ p ≤ 4294967295) (ha : 0 ≤ a ∧ a ≤ 4294967295) (hm : 0 ≤ m ∧ m ≤ 65535) (hx : 0 ≤ x ∧ x ≤ 65535) (w : World) :
    Calls Tryd.prog 31 #[.agg #[.bool t, .int .u32 b, .int .u32 p, .int .u32 a, .int .u16 m, .int .u16 y], .int .u16 x] w fun e w' => e = .returned (.agg #[.bool (tagOpen t y), .int .u32 b, .int .u32 p, .int .u32 a, .int .u16 (bits .and .u16 m x), .int .u16 y]) ∧ Keep w w' := by
  have m00 := and0 m hm
  cases t
  · have hv : tagOpen false y = false := by simp [tagOpen, tagBounds, tagEnter, *]
    rw [hv]
    clear hv
    go_enter Tryd.func31, Tryd.ntmps31
    go_wp2_with fail
    refine bodyPost_ret (v := .agg #[.bool false, .int .u32 b, .int .u32 p, .int .u32 a, .int .u16 (bits .and .u16 m x), .int .u16 y]) (by simp [results, Tryd.results31, go_sem]) rfl ⟨rfl, ?_⟩
    exact (((Keep.refl _).alloc _).alloc _)
  · have hv : tagOpen true y = (y == 0) := by simp [tagOpen, tagBounds, tagEnter, *]
    rw [hv]
    clear hv
    go_enter Tryd.func31, Tryd.ntmps31
    go_wp2_with fail
    refine (meets3 _ _ _ _ _ _ 0 0 hb hp ha (by omega) _).mono ?_
    rintro e w1 ⟨rfl, hk1⟩
    have B0_1 : Box w1 w.heap.size #[.bool true, .int .u32 b, .int .u32 p, .int .u32 a, .int .u16 m, .int .u16 y] := ((Box.new _ _ _).alloc _).keep hk1
    have B1_1 : Box w1 (w.heap.size + 1) #[.bool false, .int .u32 0, .int .u32 0, .int .u32 0, .int .u16 0, .int .u16 0] := (Box.new1 _ _ _ _).keep hk1
    have c0 := B0_1.cells
    have f0 := B0_1.thawed
    have c1 := B1_1.cells
    have f1 := B1_1.thawed
    go_wp2_with fail
    refine bodyPost_ret (v := .agg #[.bool (y == 0), .int .u32 b, .int .u32 p, .int .u32 a, .int .u16 (bits .and .u16 m x), .int .u16 y]) (by simp [results, Tryd.results31, go_sem, c1]) rfl ⟨rfl, ?_⟩
    repeat (with_reducible refine Keep.setCell ?_ (by simp <;> omega) _)
    exact ((((Keep.refl _).alloc _).alloc _).trans hk1)

theorem clear_any (t : Bool) (b p a m y : Int) (w : World) :
    Calls Tryd.prog 54 #[.agg #[.bool t, .int .u32 b, .int .u32 p, .int .u32 a, .int .u16 m, .int .u16 y]] w fun e w' => e = .returned (.agg #[.bool false, .int .u32 b, .int .u32 p, .int .u32 a, .int .u16 m, .int .u16 y]) ∧ Keep w w' := by
  go_enter Tryd.func54, Tryd.ntmps54
  go_wp2_with fail
  refine bodyPost_ret (v := .agg #[.bool false, .int .u32 b, .int .u32 p, .int .u32 a, .int .u16 m, .int .u16 y]) (by simp [results, Tryd.results54, go_sem]) rfl ⟨rfl, ?_⟩
  exact (((Keep.refl _).alloc _).alloc _)

theorem root_any (x : Int) (w : World) :
    Calls Tryd.prog 24 #[.int .u32 x] w fun e w' => e = .returned (.agg #[.bool true, .int .u32 0, .int .u32 x, .int .u32 0, .int .u16 127, .int .u16 0]) ∧ Keep w w' := by
  go_enter Tryd.func24, Tryd.ntmps24
  go_wp2_with fail
  refine bodyPost_ret (v := .agg #[.bool true, .int .u32 0, .int .u32 x, .int .u32 0, .int .u16 127, .int .u16 0]) (by simp [results, Tryd.results24, go_sem]) rfl ⟨rfl, ?_⟩
  exact ((Keep.refl _).alloc _)

end Go.Proofs.YtgfoohiaioojoaaDoor

/- The reference's capabilities (haspref11): each by the same plain functions. -/
namespace Go.Proofs.YtgfoohiaioojoaaDoor
set_option linter.unusedVariables false
set_option linter.unusedSimpArgs false
open Go.RowKit

theorem rhas_any (t : Bool) (b p a m y : Int) (x n : Int) (hb : 0 ≤ b ∧ b ≤ 4294967295) (hp : 0 ≤ p ∧ p ≤ 4294967295) (hx : 0 ≤ x ∧ x ≤ 4294967295) (hn : 0 ≤ n ∧ n ≤ 4294967295) (w : World) :
    Calls Tryd.prog 38 #[.agg #[.bool t, .int .u32 b, .int .u32 p, .int .u32 a, .int .u16 m, .int .u16 y], .int .u32 x, .int .u32 n] w fun e w' => e = .returned (.bool (hasB b p x n)) ∧ Keep w w' := by
  obtain ⟨b0, b1⟩ := hb
  obtain ⟨p0, p1⟩ := hp
  obtain ⟨x0, x1⟩ := hx
  obtain ⟨n0, n1⟩ := hn
  by_cases c1 : b ≤ x
  · by_cases c2 : x + n ≤ p
    · rw [hasB_true c1 c2]
      go_enter Tryd.func38, Tryd.ntmps38
      go_wp2
      go_ret
      exact ⟨rfl, (Keep.refl _).alloc _⟩
    · rw [hasB_false (by omega)]
      go_enter Tryd.func38, Tryd.ntmps38
      go_wp2
      go_ret
      exact ⟨rfl, (Keep.refl _).alloc _⟩
  · rw [hasB_false (by omega)]
    go_enter Tryd.func38, Tryd.ntmps38
    go_wp2
    go_ret
    exact ⟨rfl, (Keep.refl _).alloc _⟩

theorem and4 (m : Int) (h : 0 ≤ m ∧ m ≤ 65535) : bits .and .u16 m 4 = 0 ∨ bits .and .u16 m 4 = 4 := by
  rw [u16_and m 4 (by omega) (by omega) (by decide) (by decide)]
  have e : m.toNat &&& (4 : Int).toNat = 4 * (m.toNat / 4 % 2) := by
    apply Nat.eq_of_testBit_eq
    intro i
    rw [Nat.testBit_and, show (4 : Int).toNat = 2 ^ 2 from rfl, Nat.testBit_two_pow, show 4 * (m.toNat / 4 % 2) = 2 ^ 2 * (m.toNat / 4 % 2) from rfl, Nat.testBit_two_pow_mul]
    by_cases hi : i = 2
    · subst hi
      simp [Nat.testBit_eq_decide_div_mod_eq]
    · have : ¬ 2 = i := fun h => hi h.symm
      simp only [this, decide_false, Bool.and_false]
      by_cases h2 : 2 ≤ i
      · obtain ⟨j, rfl⟩ : ∃ j, i = 2 + (j + 1) := ⟨i - 3, by omega⟩
        rw [Nat.add_sub_cancel_left, Nat.testBit_succ]
        have : m.toNat / 4 % 2 / 2 = 0 := by omega
        simp [this]
      · simp [h2]
  rw [e]
  omega

theorem rasks_any (t : Bool) (b p a m y : Int) (ok : Bool) (w : World) :
    Calls Tryd.prog 56 #[.agg #[.bool t, .int .u32 b, .int .u32 p, .int .u32 a, .int .u16 m, .int .u16 y], .bool ok] w fun e w' => e = .returned (.agg #[.bool (t && ok), .int .u32 b, .int .u32 p, .int .u32 a, .int .u16 m, .int .u16 y]) ∧ Keep w w' := by
  cases t <;> cases ok
  · go_enter Tryd.func56, Tryd.ntmps56
    go_wp2_with fail
    refine bodyPost_ret (v := .agg #[.bool false, .int .u32 b, .int .u32 p, .int .u32 a, .int .u16 m, .int .u16 y]) (by simp [results, Tryd.results56, go_sem]) rfl ⟨rfl, ?_⟩
    exact (((Keep.refl _).alloc _).alloc _)
  · go_enter Tryd.func56, Tryd.ntmps56
    go_wp2_with fail
    refine bodyPost_ret (v := .agg #[.bool false, .int .u32 b, .int .u32 p, .int .u32 a, .int .u16 m, .int .u16 y]) (by simp [results, Tryd.results56, go_sem]) rfl ⟨rfl, ?_⟩
    exact (((Keep.refl _).alloc _).alloc _)
  · go_enter Tryd.func56, Tryd.ntmps56
    go_wp2_with fail
    refine bodyPost_ret (v := .agg #[.bool false, .int .u32 b, .int .u32 p, .int .u32 a, .int .u16 m, .int .u16 y]) (by simp [results, Tryd.results56, go_sem]) rfl ⟨rfl, ?_⟩
    exact (((Keep.refl _).alloc _).alloc _)
  · go_enter Tryd.func56, Tryd.ntmps56
    go_wp2_with fail
    refine bodyPost_ret (v := .agg #[.bool true, .int .u32 b, .int .u32 p, .int .u32 a, .int .u16 m, .int .u16 y]) (by simp [results, Tryd.results56, go_sem]) rfl ⟨rfl, ?_⟩
    exact (((Keep.refl _).alloc _).alloc _)

theorem rroot_any (x : Int) (w : World) :
    Calls Tryd.prog 44 #[.int .u32 x] w fun e w' => e = .returned (.agg #[.bool true, .int .u32 0, .int .u32 x, .int .u32 0, .int .u16 127, .int .u16 0]) ∧ Keep w w' := by
  go_enter Tryd.func44, Tryd.ntmps44
  go_wp2_with fail
  refine bodyPost_ret (v := .agg #[.bool true, .int .u32 0, .int .u32 x, .int .u32 0, .int .u16 127, .int .u16 0]) (by simp [results, Tryd.results44, go_sem]) rfl ⟨rfl, ?_⟩
  exact ((Keep.refl _).alloc _)

end Go.Proofs.YtgfoohiaioojoaaDoor

/- cap.Int, cap.Root. -/
namespace Go.Proofs.YtgfoohiaioojoaaDoor
set_option linter.unusedVariables false
set_option linter.unusedSimpArgs false
open Go.RowKit
theorem croot_any (x : Int) (w : World) : Calls Tryd.prog 24 #[.int .u32 x] w fun e w' => e = .returned (.agg #[.bool true, .int .u32 0, .int .u32 x, .int .u32 0, .int .u16 127, .int .u16 0]) ∧ Keep w w' := by
  go_enter Tryd.func24, Tryd.ntmps24
  go_wp2_with fail
  refine bodyPost_ret (v := .agg #[.bool true, .int .u32 0, .int .u32 x, .int .u32 0, .int .u16 127, .int .u16 0]) (by simp [results, Tryd.results24, go_sem]) rfl ⟨rfl, ?_⟩
  exact ((Keep.refl _).alloc _)
end Go.Proofs.YtgfoohiaioojoaaDoor

/- hasplaw2.Of; a capability's fields out of a slot. -/
namespace Go.Proofs.YtgfoohiaioojoaaDoor
set_option linter.unusedVariables false
set_option linter.unusedSimpArgs false
open Go.RowKit

theorem fld0 (t : Bool) (b p a m y : Int) (w : World) : (Instr.field 25 (.agg #[.bool t, .int .u32 b, .int .u32 p, .int .u32 a, .int .u16 m, .int .u16 y]) 0).run Tryd.prog w = .ok (.bool t) w := by kernel_rfl
theorem fld1 (t : Bool) (b p a m y : Int) (w : World) : (Instr.field 25 (.agg #[.bool t, .int .u32 b, .int .u32 p, .int .u32 a, .int .u16 m, .int .u16 y]) 1).run Tryd.prog w = .ok (.int .u32 b) w := by kernel_rfl
theorem fld2 (t : Bool) (b p a m y : Int) (w : World) : (Instr.field 25 (.agg #[.bool t, .int .u32 b, .int .u32 p, .int .u32 a, .int .u16 m, .int .u16 y]) 2).run Tryd.prog w = .ok (.int .u32 p) w := by kernel_rfl
theorem fld3 (t : Bool) (b p a m y : Int) (w : World) : (Instr.field 25 (.agg #[.bool t, .int .u32 b, .int .u32 p, .int .u32 a, .int .u16 m, .int .u16 y]) 3).run Tryd.prog w = .ok (.int .u32 a) w := by kernel_rfl
theorem fld4 (t : Bool) (b p a m y : Int) (w : World) : (Instr.field 25 (.agg #[.bool t, .int .u32 b, .int .u32 p, .int .u32 a, .int .u16 m, .int .u16 y]) 4).run Tryd.prog w = .ok (.int .u16 m) w := by kernel_rfl
theorem fld5 (t : Bool) (b p a m y : Int) (w : World) : (Instr.field 25 (.agg #[.bool t, .int .u32 b, .int .u32 p, .int .u32 a, .int .u16 m, .int .u16 y]) 5).run Tryd.prog w = .ok (.int .u16 y) w := by kernel_rfl
theorem of_any (t : Bool) (b p a m y : Int) (w : World) :
    Calls Tryd.prog 13 #[.agg #[.bool t, .int .u32 b, .int .u32 p, .int .u32 a, .int .u16 m, .int .u16 y]] w fun e w' => e = .returned (.agg #[.bool t, .int .u32 b, .int .u32 p, .int .u32 a, .int .u16 m, .int .u16 y]) ∧ Keep w w' := by
  go_enter Tryd.func13, Tryd.ntmps13
  go_wp2_with fail
  refine bodyPost_ret (v := .agg #[.bool t, .int .u32 b, .int .u32 p, .int .u32 a, .int .u16 m, .int .u16 y]) (by simp [results, Tryd.results13, go_sem]) rfl ⟨rfl, ?_⟩
  exact (((Keep.refl _).alloc _).alloc _)

end Go.Proofs.YtgfoohiaioojoaaDoor

/- Two capabilities, compared. -/
namespace Go.Proofs.YtgfoohiaioojoaaDoor
set_option linter.unusedVariables false
set_option linter.unusedSimpArgs false
open Go.RowKit

theorem eqin_cap (t : Bool) (b p a m y b1 p1 a1 m1 y1 : Int) (w : World) :
    (Op.equalIn 10000 25 (.agg #[.bool t, .int .u32 b, .int .u32 p, .int .u32 a, .int .u16 m, .int .u16 y]) (.agg #[.bool t, .int .u32 b1, .int .u32 p1, .int .u32 a1, .int .u16 m1, .int .u16 y1])).run Tryd.prog w =
      .ok ((b == b1) && ((p == p1) && ((a == a1) && ((m == m1) && (y == y1))))) w := by
  cases h1 : (b == b1) <;> cases h2 : (p == p1) <;> cases h3 : (a == a1) <;> cases h4 : (m == m1) <;> cases h5 : (y == y1)
  all_goals go_simp
end Go.Proofs.YtgfoohiaioojoaaDoor

/- A capability as an argument by value: what it reads as, and back. -/
namespace Go.Proofs.YtgfoohiaioojoaaDoor
set_option linter.unusedVariables false
set_option linter.unusedSimpArgs false
open Go.ChangeShapes Go.WideShapes Go.ChangeAt Go.RowKit Go.Deep

section
variable {H : Type} {enc : TypeId × Value → H} {w : World} {base : Nat} {spare : Nat → Bool} {held : Bool}
theorem cellsCap : Tryd.prog.cellsOf 25 = 6 := by kernel_rfl
theorem cellsB : Tryd.prog.cellsOf 4 = 1 := by kernel_rfl
theorem cells32 : Tryd.prog.cellsOf 22 = 1 := by kernel_rfl
theorem cells16 : Tryd.prog.cellsOf 23 = 1 := by kernel_rfl
set_option maxRecDepth 100000 in
theorem cap_cells {fuel : Nat} {cs : List Value} {x : DataW H × List MemPlace} (hf : DataW.trod enc Tryd.prog w base spare held fuel 25 cs = some x) :
    ∃ (t : Bool) (b p a m y : Int), cs = [.bool t, .int .u32 b, .int .u32 p, .int .u32 a, .int .u16 m, .int .u16 y] ∧
      (Lit.int .u32 b).wf = true ∧ (Lit.int .u32 p).wf = true ∧ (Lit.int .u32 a).wf = true ∧ (Lit.int .u16 m).wf = true ∧ (Lit.int .u16 y).wf = true := by
  obtain ⟨xs, n, _, hx, hsz, hlen, hg⟩ := DataW.trod_struct Tryd.underlying25 hf
  rw [cellsCap] at hsz
  match cs, hsz, xs, hlen with
  | [c0, c1, c2, c3, c4, c5], _, [y0, y1, y2, y3, y4, y5], _ =>
    have g0 : DataW.trod enc Tryd.prog w base spare held n 4 [c0] = some y0 := by
      have h : DataW.trod enc Tryd.prog w base spare held n 4 ((List.drop 0 [c0, c1, c2, c3, c4, c5]).take (Tryd.prog.cellsOf 4)) = some y0 := hg 0 _ rfl
      rw [cellsB] at h
      exact h
    have g1 : DataW.trod enc Tryd.prog w base spare held n 22 [c1] = some y1 := by
      have h : DataW.trod enc Tryd.prog w base spare held n 22 ((List.drop 1 [c0, c1, c2, c3, c4, c5]).take (Tryd.prog.cellsOf 22)) = some y1 := hg 1 _ rfl
      rw [cells32] at h
      exact h
    have g2 : DataW.trod enc Tryd.prog w base spare held n 22 [c2] = some y2 := by
      have h : DataW.trod enc Tryd.prog w base spare held n 22 ((List.drop 2 [c0, c1, c2, c3, c4, c5]).take (Tryd.prog.cellsOf 22)) = some y2 := hg 2 _ rfl
      rw [cells32] at h
      exact h
    have g3 : DataW.trod enc Tryd.prog w base spare held n 22 [c3] = some y3 := by
      have h : DataW.trod enc Tryd.prog w base spare held n 22 ((List.drop 3 [c0, c1, c2, c3, c4, c5]).take (Tryd.prog.cellsOf 22)) = some y3 := hg 3 _ rfl
      rw [cells32] at h
      exact h
    have g4 : DataW.trod enc Tryd.prog w base spare held n 23 [c4] = some y4 := by
      have h : DataW.trod enc Tryd.prog w base spare held n 23 ((List.drop 4 [c0, c1, c2, c3, c4, c5]).take (Tryd.prog.cellsOf 23)) = some y4 := hg 4 _ rfl
      rw [cells16] at h
      exact h
    have g5 : DataW.trod enc Tryd.prog w base spare held n 23 [c5] = some y5 := by
      have h : DataW.trod enc Tryd.prog w base spare held n 23 ((List.drop 5 [c0, c1, c2, c3, c4, c5]).take (Tryd.prog.cellsOf 23)) = some y5 := hg 5 _ rfl
      rw [cells16] at h
      exact h
    obtain ⟨t, e0, rfl⟩ := DataW.trod_bool Tryd.underlying4 g0
    obtain ⟨b, e1, rfl, w1⟩ := DataW.trod_int Tryd.underlying22 g1
    obtain ⟨p, e2, rfl, w2⟩ := DataW.trod_int Tryd.underlying22 g2
    obtain ⟨a, e3, rfl, w3⟩ := DataW.trod_int Tryd.underlying22 g3
    obtain ⟨m, e4, rfl, w4⟩ := DataW.trod_int Tryd.underlying23 g4
    obtain ⟨y, e5, rfl, w5⟩ := DataW.trod_int Tryd.underlying23 g5
    simp only [List.cons.injEq, and_true] at e0 e1 e2 e3 e4 e5
    subst e0 e1 e2 e3 e4 e5
    exact ⟨t, b, p, a, m, y, rfl, w1, w2, w3, w4, w5⟩
set_option maxRecDepth 100000 in
theorem open_cap {r : Reach} {b0 : Nat} {v : Value} {d : DataW H} {pl : List MemPlace} (hv : Value.okWide Tryd.prog w r b0 25 v) (h : DataW.Trod enc Tryd.prog w base spare held 25 v d pl) :
    ∃ (t : Bool) (b p a m y : Int), v = .agg #[.bool t, .int .u32 b, .int .u32 p, .int .u32 a, .int .u16 m, .int .u16 y] ∧
      d = .agg [.lit (.bool t), .lit (.int .u32 b), .lit (.int .u32 p), .lit (.int .u32 a), .lit (.int .u16 m), .lit (.int .u16 y)] ∧ pl = [] ∧
      (Lit.int .u32 b).wf = true ∧ (Lit.int .u32 p).wf = true ∧ (Lit.int .u32 a).wf = true ∧ (Lit.int .u16 m).wf = true ∧ (Lit.int .u16 y).wf = true := by
  obtain ⟨cs, rfl, hsz⟩ := okWide_struct Tryd.underlying25 hv
  obtain ⟨fuel, hf⟩ := h
  obtain ⟨xs, n, _, hx, _, hlen, hg⟩ := DataW.trod_struct Tryd.underlying25 hf
  rw [cellsCap] at hsz
  obtain ⟨l⟩ := cs
  match l, hsz, xs, hlen with
  | [c0, c1, c2, c3, c4, c5], _, [y0, y1, y2, y3, y4, y5], _ =>
    have g0 : DataW.trod enc Tryd.prog w base spare held n 4 [c0] = some y0 := by
      have h : DataW.trod enc Tryd.prog w base spare held n 4 ((List.drop 0 [c0, c1, c2, c3, c4, c5]).take (Tryd.prog.cellsOf 4)) = some y0 := hg 0 _ rfl
      rw [cellsB] at h
      exact h
    have g1 : DataW.trod enc Tryd.prog w base spare held n 22 [c1] = some y1 := by
      have h : DataW.trod enc Tryd.prog w base spare held n 22 ((List.drop 1 [c0, c1, c2, c3, c4, c5]).take (Tryd.prog.cellsOf 22)) = some y1 := hg 1 _ rfl
      rw [cells32] at h
      exact h
    have g2 : DataW.trod enc Tryd.prog w base spare held n 22 [c2] = some y2 := by
      have h : DataW.trod enc Tryd.prog w base spare held n 22 ((List.drop 2 [c0, c1, c2, c3, c4, c5]).take (Tryd.prog.cellsOf 22)) = some y2 := hg 2 _ rfl
      rw [cells32] at h
      exact h
    have g3 : DataW.trod enc Tryd.prog w base spare held n 22 [c3] = some y3 := by
      have h : DataW.trod enc Tryd.prog w base spare held n 22 ((List.drop 3 [c0, c1, c2, c3, c4, c5]).take (Tryd.prog.cellsOf 22)) = some y3 := hg 3 _ rfl
      rw [cells32] at h
      exact h
    have g4 : DataW.trod enc Tryd.prog w base spare held n 23 [c4] = some y4 := by
      have h : DataW.trod enc Tryd.prog w base spare held n 23 ((List.drop 4 [c0, c1, c2, c3, c4, c5]).take (Tryd.prog.cellsOf 23)) = some y4 := hg 4 _ rfl
      rw [cells16] at h
      exact h
    have g5 : DataW.trod enc Tryd.prog w base spare held n 23 [c5] = some y5 := by
      have h : DataW.trod enc Tryd.prog w base spare held n 23 ((List.drop 5 [c0, c1, c2, c3, c4, c5]).take (Tryd.prog.cellsOf 23)) = some y5 := hg 5 _ rfl
      rw [cells16] at h
      exact h
    obtain ⟨t, e0, rfl⟩ := DataW.trod_bool Tryd.underlying4 g0
    obtain ⟨b, e1, rfl, w1⟩ := DataW.trod_int Tryd.underlying22 g1
    obtain ⟨p, e2, rfl, w2⟩ := DataW.trod_int Tryd.underlying22 g2
    obtain ⟨a, e3, rfl, w3⟩ := DataW.trod_int Tryd.underlying22 g3
    obtain ⟨m, e4, rfl, w4⟩ := DataW.trod_int Tryd.underlying23 g4
    obtain ⟨y, e5, rfl, w5⟩ := DataW.trod_int Tryd.underlying23 g5
    simp only [List.cons.injEq, and_true] at e0 e1 e2 e3 e4 e5
    subst e0 e1 e2 e3 e4 e5
    simp only [Prod.mk.injEq, List.map_cons, List.map_nil, List.flatMap_cons, List.flatMap_nil, List.append_nil] at hx
    exact ⟨t, b, p, a, m, y, rfl, hx.1, hx.2, w1, w2, w3, w4, w5⟩
set_option maxRecDepth 100000 in
theorem shut_cap (t : Bool) {b p a m y : Int} (w1 : (Lit.int .u32 b).wf = true) (w2 : (Lit.int .u32 p).wf = true) (w3 : (Lit.int .u32 a).wf = true) (w4 : (Lit.int .u16 m).wf = true) (w5 : (Lit.int .u16 y).wf = true) :
    DataW.Trod enc Tryd.prog w base spare held 25 (.agg #[.bool t, .int .u32 b, .int .u32 p, .int .u32 a, .int .u16 m, .int .u16 y])
      (.agg [.lit (.bool t), .lit (.int .u32 b), .lit (.int .u32 p), .lit (.int .u32 a), .lit (.int .u16 m), .lit (.int .u16 y)]) [] := by
  refine ⟨2, ?_⟩
  simp [DataW.trod, Tryd.underlying25, cellsCap, cellsB, cells32, cells16, Tryd.underlying4, Tryd.underlying22, Tryd.underlying23, Value.cells, w1, w2, w3, w4, w5]
end
end Go.Proofs.YtgfoohiaioojoaaDoor
