/- The reference's capabilities (haspref11): each by the same plain functions. -/
import Derived.Test.YtbeeomdpdmmllaaDoorCapMake
import Derived.WalkKit
namespace Go.Proofs.YtbeeomdpdmmllaaDoor
set_option linter.unusedVariables false
set_option linter.unusedSimpArgs false
open Go.RowKit

theorem rhas_any (t : Bool) (b p a m y : Int) (x n : Int) (hb : 0 ≤ b ∧ b ≤ 4294967295) (hp : 0 ≤ p ∧ p ≤ 4294967295) (hx : 0 ≤ x ∧ x ≤ 4294967295) (hn : 0 ≤ n ∧ n ≤ 4294967295) (w : World) :
    Calls Tryd.prog 34 #[.agg #[.bool t, .int .u32 b, .int .u32 p, .int .u32 a, .int .u16 m, .int .u16 y], .int .u32 x, .int .u32 n] w fun e w' => e = .returned (.bool (hasB b p x n)) ∧ Keep w w' := by
  obtain ⟨b0, b1⟩ := hb
  obtain ⟨p0, p1⟩ := hp
  obtain ⟨x0, x1⟩ := hx
  obtain ⟨n0, n1⟩ := hn
  by_cases c1 : b ≤ x
  · by_cases c2 : x + n ≤ p
    · rw [hasB_true c1 c2]
      go_enter Tryd.func34, Tryd.ntmps34
      go_wp2
      go_ret
      exact ⟨rfl, (Keep.refl _).alloc _⟩
    · rw [hasB_false (by omega)]
      go_enter Tryd.func34, Tryd.ntmps34
      go_wp2
      go_ret
      exact ⟨rfl, (Keep.refl _).alloc _⟩
  · rw [hasB_false (by omega)]
    go_enter Tryd.func34, Tryd.ntmps34
    go_wp2
    go_ret
    exact ⟨rfl, (Keep.refl _).alloc _⟩

theorem rsub_any (t : Bool) (b p a m y : Int) (t1 : Bool) (b1 p1 a1 m1 y1 : Int) (w : World) :
    Calls Tryd.prog 36 #[.agg #[.bool t, .int .u32 b, .int .u32 p, .int .u32 a, .int .u16 m, .int .u16 y], .agg #[.bool t1, .int .u32 b1, .int .u32 p1, .int .u32 a1, .int .u16 m1, .int .u16 y1]] w fun e w' => e = .returned (.bool (subB b p m b1 p1 m1)) ∧ Keep w w' := by
  by_cases c1 : b1 ≤ b
  · by_cases c2 : p ≤ p1
    · have hv : subB b p m b1 p1 m1 = (bits .andNot .u16 m m1 == 0) := by simp [subB, c1, c2]
      rw [hv]
      clear hv
      go_enter Tryd.func36, Tryd.ntmps36
      go_wp2
      go_ret
      exact ⟨rfl, ((Keep.refl _).alloc _).alloc _⟩
    · have hv : subB b p m b1 p1 m1 = false := by simp [subB, c2]
      rw [hv]
      clear hv
      go_enter Tryd.func36, Tryd.ntmps36
      go_wp2
      go_ret
      exact ⟨rfl, ((Keep.refl _).alloc _).alloc _⟩
  · have hv : subB b p m b1 p1 m1 = false := by simp [subB, c1]
    rw [hv]
    clear hv
    go_enter Tryd.func36, Tryd.ntmps36
    go_wp2
    go_ret
    exact ⟨rfl, ((Keep.refl _).alloc _).alloc _⟩

theorem and4 (m : Int) (h : 0 ≤ m ∧ m ≤ 65535) : bits .and .u16 m 4 = 0 ∨ bits .and .u16 m 4 = 4 := by
  rw [u16_and m 4 (by omega) (by omega) (by decide) (by decide)]
  have e : m.toNat &&& (4 : Int).toNat = 4 * (m.toNat / 4 % 2) := by
    apply Nat.eq_of_testBit_eq
    intro i
    rw [Nat.testBit_and, show (4 : Int).toNat = 2 ^ 2 from rfl, Nat.testBit_two_pow, show 4 * (m.toNat / 4 % 2) = 2 ^ 2 * (m.toNat / 4 % 2) from rfl, Nat.testBit_two_pow_mul]
    by_cases hi : i = 2
    · subst hi
      simp [Nat.testBit_eq_decide_div_mod_eq]
    · have : ¬ 2 = i := fun h => hi h.symm
      simp only [this, decide_false, Bool.and_false]
      by_cases h2 : 2 ≤ i
      · obtain ⟨j, rfl⟩ : ∃ j, i = 2 + (j + 1) := ⟨i - 3, by omega⟩
        rw [Nat.add_sub_cancel_left, Nat.testBit_succ]
        have : m.toNat / 4 % 2 / 2 = 0 := by omega
        simp [this]
      · simp [h2]
  rw [e]
  omega

theorem rasks_any (t : Bool) (b p a m y : Int) (ok : Bool) (w : World) :
    Calls Tryd.prog 41 #[.agg #[.bool t, .int .u32 b, .int .u32 p, .int .u32 a, .int .u16 m, .int .u16 y], .bool ok] w fun e w' => e = .returned (.agg #[.bool (t && ok), .int .u32 b, .int .u32 p, .int .u32 a, .int .u16 m, .int .u16 y]) ∧ Keep w w' := by
  cases t <;> cases ok
  · go_enter Tryd.func41, Tryd.ntmps41
    go_wp2_with fail
    refine bodyPost_ret (v := .agg #[.bool false, .int .u32 b, .int .u32 p, .int .u32 a, .int .u16 m, .int .u16 y]) (by simp [results, Tryd.results41, go_sem]) rfl ⟨rfl, ?_⟩
    exact (((Keep.refl _).alloc _).alloc _)
  · go_enter Tryd.func41, Tryd.ntmps41
    go_wp2_with fail
    refine bodyPost_ret (v := .agg #[.bool false, .int .u32 b, .int .u32 p, .int .u32 a, .int .u16 m, .int .u16 y]) (by simp [results, Tryd.results41, go_sem]) rfl ⟨rfl, ?_⟩
    exact (((Keep.refl _).alloc _).alloc _)
  · go_enter Tryd.func41, Tryd.ntmps41
    go_wp2_with fail
    refine bodyPost_ret (v := .agg #[.bool false, .int .u32 b, .int .u32 p, .int .u32 a, .int .u16 m, .int .u16 y]) (by simp [results, Tryd.results41, go_sem]) rfl ⟨rfl, ?_⟩
    exact (((Keep.refl _).alloc _).alloc _)
  · go_enter Tryd.func41, Tryd.ntmps41
    go_wp2_with fail
    refine bodyPost_ret (v := .agg #[.bool true, .int .u32 b, .int .u32 p, .int .u32 a, .int .u16 m, .int .u16 y]) (by simp [results, Tryd.results41, go_sem]) rfl ⟨rfl, ?_⟩
    exact (((Keep.refl _).alloc _).alloc _)

theorem rsetAddr_any (t : Bool) (b p a m y : Int) (x : Int) (hb : 0 ≤ b ∧ b ≤ 4294967295) (hp : 0 ≤ p ∧ p ≤ 4294967295) (ha : 0 ≤ a ∧ a ≤ 4294967295) (hm : 0 ≤ m ∧ m ≤ 65535) (hy : 0 ≤ y ∧ y ≤ 65535) (w : World) :
    Calls Tryd.prog 16 #[.agg #[.bool t, .int .u32 b, .int .u32 p, .int .u32 a, .int .u16 m, .int .u16 y], .int .u32 x] w fun e w' => e = .returned (.agg #[.bool (tagOpen t y), .int .u32 b, .int .u32 p, .int .u32 x, .int .u16 m, .int .u16 y]) ∧ Keep w w' := by
  rcases Bool.eq_false_or_eq_true (y == 0) with d0 | d0
  · skip
    have ht : tagOpen t y = t := by simp [tagOpen, *]
    rw [ht]
    clear ht
    go_enter Tryd.func16, Tryd.ntmps16
    go_wp2_with fail
    refine (rasks_any _ _ _ _ _ _ _ _).mono ?_
    rintro e w1 ⟨rfl, hk1⟩
    have B1_1 : Box w1 (w.heap.size + 1) #[.bool false, .int .u32 0, .int .u32 0, .int .u32 0, .int .u16 0, .int .u16 0] := (Box.new1 _ _ _ _).keep hk1
    have c1 := B1_1.cells
    have f1 := B1_1.thawed
    go_wp2_with fail
    refine bodyPost_ret (v := .agg #[.bool t, .int .u32 b, .int .u32 p, .int .u32 x, .int .u16 m, .int .u16 y]) (by simp [results, Tryd.results16, go_sem, c1]) rfl ⟨rfl, ?_⟩
    repeat (with_reducible refine Keep.setCell ?_ (by simp <;> omega) _)
    refine Keep.trans ?_ hk1
    exact (((Keep.refl _).alloc _).alloc _)
  · skip
    have ht : tagOpen t y = false := by simp [tagOpen, *]
    rw [ht]
    clear ht
    go_enter Tryd.func16, Tryd.ntmps16
    go_wp2_with fail
    refine (rasks_any _ _ _ _ _ _ _ _).mono ?_
    rintro e w1 ⟨rfl, hk1⟩
    have B1_1 : Box w1 (w.heap.size + 1) #[.bool false, .int .u32 0, .int .u32 0, .int .u32 0, .int .u16 0, .int .u16 0] := (Box.new1 _ _ _ _).keep hk1
    have c1 := B1_1.cells
    have f1 := B1_1.thawed
    go_wp2_with fail
    refine bodyPost_ret (v := .agg #[.bool false, .int .u32 b, .int .u32 p, .int .u32 x, .int .u16 m, .int .u16 y]) (by simp [results, Tryd.results16, go_sem, c1]) rfl ⟨rfl, ?_⟩
    repeat (with_reducible refine Keep.setCell ?_ (by simp <;> omega) _)
    refine Keep.trans ?_ hk1
    exact (((Keep.refl _).alloc _).alloc _)

theorem rbounds_any (t : Bool) (b p a m y : Int) (x : Int) (hb : 0 ≤ b ∧ b ≤ 4294967295) (hp : 0 ≤ p ∧ p ≤ 4294967295) (ha : 0 ≤ a ∧ a ≤ 4294967295) (hm : 0 ≤ m ∧ m ≤ 65535) (hy : 0 ≤ y ∧ y ≤ 65535) (hx : 0 ≤ x ∧ x ≤ 4294967295) (w : World) :
    Calls Tryd.prog 18 #[.agg #[.bool t, .int .u32 b, .int .u32 p, .int .u32 a, .int .u16 m, .int .u16 y], .int .u32 x] w fun e w' => e = .returned (.agg #[.bool (tagBounds t b p a y x), .int .u32 a, .int .u32 ((a + x) % 4294967296), .int .u32 a, .int .u16 m, .int .u16 y]) ∧ Keep w w' := by
  obtain ⟨a0, a1⟩ := ha
  obtain ⟨x0, x1⟩ := hx
  rcases Bool.eq_false_or_eq_true (y == 0) with d0 | d0
  · skip
    rcases Bool.eq_false_or_eq_true (hasB b p a x) with d1 | d1
    · skip
      have ht : tagBounds t b p a y x = t := by simp [tagBounds, *]
      rw [ht]
      clear ht
      go_enter Tryd.func18, Tryd.ntmps18
      go_wp2_with fail
      refine (rhas_any _ _ _ _ _ _ _ _ hb hp ⟨a0, a1⟩ ⟨x0, x1⟩ _).mono ?_
      rintro e w1 ⟨rfl, hk1⟩
      have B0_1 : Box w1 w.heap.size #[.bool t, .int .u32 b, .int .u32 p, .int .u32 a, .int .u16 m, .int .u16 y] := ((Box.new _ _ _).alloc _).keep hk1
      have B1_1 : Box w1 (w.heap.size + 1) #[.bool false, .int .u32 0, .int .u32 0, .int .u32 0, .int .u16 0, .int .u16 0] := (Box.new1 _ _ _ _).keep hk1
      have c0 := B0_1.cells
      have f0 := B0_1.thawed
      have c1 := B1_1.cells
      have f1 := B1_1.thawed
      go_wp2_with fail
      refine (rasks_any _ _ _ _ _ _ _ _).mono ?_
      rintro e w2 ⟨rfl, hk2⟩
      clear c0 f0 c1 f1
      have B1_2 : Box w2 (w.heap.size + 1) #[.bool false, .int .u32 0, .int .u32 0, .int .u32 0, .int .u16 0, .int .u16 0] := (by repeat (first | exact B1_1 | refine Box.other ?_ (by simp <;> omega) _) : Box _ (w.heap.size + 1) #[.bool false, .int .u32 0, .int .u32 0, .int .u32 0, .int .u16 0, .int .u16 0]).keep hk2
      have c1 := B1_2.cells
      have f1 := B1_2.thawed
      go_wp2_with fail
      refine bodyPost_ret (v := .agg #[.bool t, .int .u32 a, .int .u32 ((a + x) % 4294967296), .int .u32 a, .int .u16 m, .int .u16 y]) (by simp [results, Tryd.results18, go_sem, c1]) rfl ⟨rfl, ?_⟩
      repeat (with_reducible refine Keep.setCell ?_ (by simp <;> omega) _)
      refine Keep.trans ?_ hk2
      repeat (with_reducible refine Keep.setCell ?_ (by simp <;> omega) _)
      exact ((((Keep.refl _).alloc _).alloc _).trans hk1)
    · skip
      have ht : tagBounds t b p a y x = false := by simp [tagBounds, *]
      rw [ht]
      clear ht
      go_enter Tryd.func18, Tryd.ntmps18
      go_wp2_with fail
      refine (rhas_any _ _ _ _ _ _ _ _ hb hp ⟨a0, a1⟩ ⟨x0, x1⟩ _).mono ?_
      rintro e w1 ⟨rfl, hk1⟩
      have B0_1 : Box w1 w.heap.size #[.bool t, .int .u32 b, .int .u32 p, .int .u32 a, .int .u16 m, .int .u16 y] := ((Box.new _ _ _).alloc _).keep hk1
      have B1_1 : Box w1 (w.heap.size + 1) #[.bool false, .int .u32 0, .int .u32 0, .int .u32 0, .int .u16 0, .int .u16 0] := (Box.new1 _ _ _ _).keep hk1
      have c0 := B0_1.cells
      have f0 := B0_1.thawed
      have c1 := B1_1.cells
      have f1 := B1_1.thawed
      go_wp2_with fail
      refine (rasks_any _ _ _ _ _ _ _ _).mono ?_
      rintro e w2 ⟨rfl, hk2⟩
      clear c0 f0 c1 f1
      have B1_2 : Box w2 (w.heap.size + 1) #[.bool false, .int .u32 0, .int .u32 0, .int .u32 0, .int .u16 0, .int .u16 0] := (by repeat (first | exact B1_1 | refine Box.other ?_ (by simp <;> omega) _) : Box _ (w.heap.size + 1) #[.bool false, .int .u32 0, .int .u32 0, .int .u32 0, .int .u16 0, .int .u16 0]).keep hk2
      have c1 := B1_2.cells
      have f1 := B1_2.thawed
      go_wp2_with fail
      refine bodyPost_ret (v := .agg #[.bool false, .int .u32 a, .int .u32 ((a + x) % 4294967296), .int .u32 a, .int .u16 m, .int .u16 y]) (by simp [results, Tryd.results18, go_sem, c1]) rfl ⟨rfl, ?_⟩
      repeat (with_reducible refine Keep.setCell ?_ (by simp <;> omega) _)
      refine Keep.trans ?_ hk2
      repeat (with_reducible refine Keep.setCell ?_ (by simp <;> omega) _)
      exact ((((Keep.refl _).alloc _).alloc _).trans hk1)
  · skip
    have ht : tagBounds t b p a y x = false := by simp [tagBounds, *]
    rw [ht]
    clear ht
    go_enter Tryd.func18, Tryd.ntmps18
    go_wp2_with fail
    refine (rasks_any _ _ _ _ _ _ _ _).mono ?_
    rintro e w1 ⟨rfl, hk1⟩
    have B1_1 : Box w1 (w.heap.size + 1) #[.bool false, .int .u32 0, .int .u32 0, .int .u32 0, .int .u16 0, .int .u16 0] := (Box.new1 _ _ _ _).keep hk1
    have c1 := B1_1.cells
    have f1 := B1_1.thawed
    go_wp2_with fail
    refine bodyPost_ret (v := .agg #[.bool false, .int .u32 a, .int .u32 ((a + x) % 4294967296), .int .u32 a, .int .u16 m, .int .u16 y]) (by simp [results, Tryd.results18, go_sem, c1]) rfl ⟨rfl, ?_⟩
    repeat (with_reducible refine Keep.setCell ?_ (by simp <;> omega) _)
    refine Keep.trans ?_ hk1
    exact (((Keep.refl _).alloc _).alloc _)

theorem randPerm_any (t : Bool) (b p a m y : Int) (x : Int) (hb : 0 ≤ b ∧ b ≤ 4294967295) (hp : 0 ≤ p ∧ p ≤ 4294967295) (ha : 0 ≤ a ∧ a ≤ 4294967295) (hm : 0 ≤ m ∧ m ≤ 65535) (hy : 0 ≤ y ∧ y ≤ 65535) (hx : 0 ≤ x ∧ x ≤ 65535) (w : World) :
    Calls Tryd.prog 20 #[.agg #[.bool t, .int .u32 b, .int .u32 p, .int .u32 a, .int .u16 m, .int .u16 y], .int .u16 x] w fun e w' => e = .returned (.agg #[.bool (tagOpen t y), .int .u32 b, .int .u32 p, .int .u32 a, .int .u16 (bits .and .u16 m x), .int .u16 y]) ∧ Keep w w' := by
  rcases Bool.eq_false_or_eq_true (y == 0) with d0 | d0
  · skip
    have ht : tagOpen t y = t := by simp [tagOpen, *]
    rw [ht]
    clear ht
    go_enter Tryd.func20, Tryd.ntmps20
    go_wp2_with fail
    refine (rasks_any _ _ _ _ _ _ _ _).mono ?_
    rintro e w1 ⟨rfl, hk1⟩
    have B1_1 : Box w1 (w.heap.size + 1) #[.bool false, .int .u32 0, .int .u32 0, .int .u32 0, .int .u16 0, .int .u16 0] := (Box.new1 _ _ _ _).keep hk1
    have c1 := B1_1.cells
    have f1 := B1_1.thawed
    go_wp2_with fail
    refine bodyPost_ret (v := .agg #[.bool t, .int .u32 b, .int .u32 p, .int .u32 a, .int .u16 (bits .and .u16 m x), .int .u16 y]) (by simp [results, Tryd.results20, go_sem, c1]) rfl ⟨rfl, ?_⟩
    repeat (with_reducible refine Keep.setCell ?_ (by simp <;> omega) _)
    refine Keep.trans ?_ hk1
    exact (((Keep.refl _).alloc _).alloc _)
  · skip
    have ht : tagOpen t y = false := by simp [tagOpen, *]
    rw [ht]
    clear ht
    go_enter Tryd.func20, Tryd.ntmps20
    go_wp2_with fail
    refine (rasks_any _ _ _ _ _ _ _ _).mono ?_
    rintro e w1 ⟨rfl, hk1⟩
    have B1_1 : Box w1 (w.heap.size + 1) #[.bool false, .int .u32 0, .int .u32 0, .int .u32 0, .int .u16 0, .int .u16 0] := (Box.new1 _ _ _ _).keep hk1
    have c1 := B1_1.cells
    have f1 := B1_1.thawed
    go_wp2_with fail
    refine bodyPost_ret (v := .agg #[.bool false, .int .u32 b, .int .u32 p, .int .u32 a, .int .u16 (bits .and .u16 m x), .int .u16 y]) (by simp [results, Tryd.results20, go_sem, c1]) rfl ⟨rfl, ?_⟩
    repeat (with_reducible refine Keep.setCell ?_ (by simp <;> omega) _)
    refine Keep.trans ?_ hk1
    exact (((Keep.refl _).alloc _).alloc _)

theorem renter_any (t : Bool) (b p a m y : Int)  (hb : 0 ≤ b ∧ b ≤ 4294967295) (hp : 0 ≤ p ∧ p ≤ 4294967295) (ha : 0 ≤ a ∧ a ≤ 4294967295) (hm : 0 ≤ m ∧ m ≤ 65535) (hy : 0 ≤ y ∧ y ≤ 65535) (w : World) :
    Calls Tryd.prog 24 #[.agg #[.bool t, .int .u32 b, .int .u32 p, .int .u32 a, .int .u16 m, .int .u16 y]] w fun e w' => e = .returned (.agg #[.bool (tagEnter t m y), .int .u32 b, .int .u32 p, .int .u32 a, .int .u16 m, .int .u16 1]) ∧ Keep w w' := by
  have h4 := and4 m hm
  rcases Bool.eq_false_or_eq_true (y == 0) with d0 | d0
  · skip
    rcases Bool.eq_false_or_eq_true (bits .and .u16 m 4 == 4) with d1 | d1
    · skip
      have e4 : (bits .and .u16 m 4 == 0) = false := by have := eq_of_beq d1; rw [this]; rfl
      have e5 : (bits .and .u16 m 4 != 0) = true := by rw [bne, e4]; rfl
      clear h4
      have ht : tagEnter t m y = t := by simp [tagEnter, *]
      rw [ht]
      clear ht
      go_enter Tryd.func24, Tryd.ntmps24
      go_wp2_with fail
      refine (rasks_any _ _ _ _ _ _ _ _).mono ?_
      rintro e w1 ⟨rfl, hk1⟩
      have B1_1 : Box w1 (w.heap.size + 1) #[.bool false, .int .u32 0, .int .u32 0, .int .u32 0, .int .u16 0, .int .u16 0] := (Box.new1 _ _ _ _).keep hk1
      have c1 := B1_1.cells
      have f1 := B1_1.thawed
      go_wp2_with fail
      refine bodyPost_ret (v := .agg #[.bool t, .int .u32 b, .int .u32 p, .int .u32 a, .int .u16 m, .int .u16 1]) (by simp [results, Tryd.results24, go_sem, c1]) rfl ⟨rfl, ?_⟩
      repeat (with_reducible refine Keep.setCell ?_ (by simp <;> omega) _)
      refine Keep.trans ?_ hk1
      exact (((Keep.refl _).alloc _).alloc _)
    · skip
      have e4 : (bits .and .u16 m 4 == 0) = true := by rcases h4 with h | h <;> rw [h] at d1 ⊢ <;> first | rfl | exact absurd d1 (by decide)
      have e5 : (bits .and .u16 m 4 != 0) = false := by rw [bne, e4]; rfl
      clear h4
      have ht : tagEnter t m y = false := by simp [tagEnter, *]
      rw [ht]
      clear ht
      go_enter Tryd.func24, Tryd.ntmps24
      go_wp2_with fail
      refine (rasks_any _ _ _ _ _ _ _ _).mono ?_
      rintro e w1 ⟨rfl, hk1⟩
      have B1_1 : Box w1 (w.heap.size + 1) #[.bool false, .int .u32 0, .int .u32 0, .int .u32 0, .int .u16 0, .int .u16 0] := (Box.new1 _ _ _ _).keep hk1
      have c1 := B1_1.cells
      have f1 := B1_1.thawed
      go_wp2_with fail
      refine bodyPost_ret (v := .agg #[.bool false, .int .u32 b, .int .u32 p, .int .u32 a, .int .u16 m, .int .u16 1]) (by simp [results, Tryd.results24, go_sem, c1]) rfl ⟨rfl, ?_⟩
      repeat (with_reducible refine Keep.setCell ?_ (by simp <;> omega) _)
      refine Keep.trans ?_ hk1
      exact (((Keep.refl _).alloc _).alloc _)
  · skip
    have ht : tagEnter t m y = false := by simp [tagEnter, *]
    rw [ht]
    clear ht
    go_enter Tryd.func24, Tryd.ntmps24
    go_wp2_with fail
    refine (rasks_any _ _ _ _ _ _ _ _).mono ?_
    rintro e w1 ⟨rfl, hk1⟩
    have B1_1 : Box w1 (w.heap.size + 1) #[.bool false, .int .u32 0, .int .u32 0, .int .u32 0, .int .u16 0, .int .u16 0] := (Box.new1 _ _ _ _).keep hk1
    have c1 := B1_1.cells
    have f1 := B1_1.thawed
    go_wp2_with fail
    refine bodyPost_ret (v := .agg #[.bool false, .int .u32 b, .int .u32 p, .int .u32 a, .int .u16 m, .int .u16 1]) (by simp [results, Tryd.results24, go_sem, c1]) rfl ⟨rfl, ?_⟩
    repeat (with_reducible refine Keep.setCell ?_ (by simp <;> omega) _)
    refine Keep.trans ?_ hk1
    exact (((Keep.refl _).alloc _).alloc _)

theorem rclear_any (t : Bool) (b p a m y : Int) (w : World) :
    Calls Tryd.prog 22 #[.agg #[.bool t, .int .u32 b, .int .u32 p, .int .u32 a, .int .u16 m, .int .u16 y]] w fun e w' => e = .returned (.agg #[.bool false, .int .u32 b, .int .u32 p, .int .u32 a, .int .u16 m, .int .u16 y]) ∧ Keep w w' := by
  go_enter Tryd.func22, Tryd.ntmps22
  go_wp2_with fail
  refine (rasks_any _ _ _ _ _ _ _ _).mono ?_
  rintro e w1 ⟨rfl, hk1⟩
  have hf0 : (t && false) = false := by simp
  have B1_1 : Box w1 (w.heap.size + 1) #[.bool false, .int .u32 0, .int .u32 0, .int .u32 0, .int .u16 0, .int .u16 0] := (Box.new1 _ _ _ _).keep hk1
  have c1 := B1_1.cells
  have f1 := B1_1.thawed
  go_wp2_with fail
  refine bodyPost_ret (v := .agg #[.bool false, .int .u32 b, .int .u32 p, .int .u32 a, .int .u16 m, .int .u16 y]) (by simp [results, Tryd.results22, go_sem, c1]) rfl ⟨rfl, ?_⟩
  repeat (with_reducible refine Keep.setCell ?_ (by simp <;> omega) _)
  exact ((((Keep.refl _).alloc _).alloc _).trans hk1)

theorem rint_any (x : Int) (w : World) :
    Calls Tryd.prog 26 #[.int .u32 x] w fun e w' => e = .returned (.agg #[.bool false, .int .u32 0, .int .u32 0, .int .u32 x, .int .u16 0, .int .u16 0]) ∧ Keep w w' := by
  go_enter Tryd.func26, Tryd.ntmps26
  go_wp2_with fail
  refine bodyPost_ret (v := .agg #[.bool false, .int .u32 0, .int .u32 0, .int .u32 x, .int .u16 0, .int .u16 0]) (by simp [results, Tryd.results26, go_sem]) rfl ⟨rfl, ?_⟩
  exact ((Keep.refl _).alloc _)

theorem rroot_any (x : Int) (w : World) :
    Calls Tryd.prog 28 #[.int .u32 x] w fun e w' => e = .returned (.agg #[.bool true, .int .u32 0, .int .u32 x, .int .u32 0, .int .u16 127, .int .u16 0]) ∧ Keep w w' := by
  go_enter Tryd.func28, Tryd.ntmps28
  go_wp2_with fail
  refine bodyPost_ret (v := .agg #[.bool true, .int .u32 0, .int .u32 x, .int .u32 0, .int .u16 127, .int .u16 0]) (by simp [results, Tryd.results28, go_sem]) rfl ⟨rfl, ?_⟩
  exact ((Keep.refl _).alloc _)

theorem rkey_any (t : Bool) (b p a m y : Int) (q : Int) (hb : 0 ≤ b ∧ b ≤ 4294967295) (hp : 0 ≤ p ∧ p ≤ 4294967295) (ha : 0 ≤ a ∧ a ≤ 4294967295) (w : World) :
    Calls Tryd.prog 42 #[.agg #[.bool t, .int .u32 b, .int .u32 p, .int .u32 a, .int .u16 m, .int .u16 y], .int .u16 q] w fun e w' => e = .returned (.bool (meetsB t b p a m y 1 q)) ∧ Keep w w' := by
  cases t
  · skip
    have hv : meetsB false b p a m y 1 q = false := by simp [meetsB, *]
    rw [hv]
    clear hv
    go_enter Tryd.func42, Tryd.ntmps42
    go_wp2_with fail
    go_ret
    exact ⟨rfl, (Keep.refl _).alloc _⟩
  · rcases Bool.eq_false_or_eq_true (y == 0) with d0 | d0
    · rcases Bool.eq_false_or_eq_true (bits .and .u16 m q == q) with d1 | d1
      · skip
        have hv : meetsB true b p a m y 1 q = hasB b p a 1 := by simp [meetsB, *]
        rw [hv]
        clear hv
        go_enter Tryd.func42, Tryd.ntmps42
        go_wp2_with fail
        refine (rhas_any _ _ _ _ _ _ _ _ hb hp ha (by omega) _).mono ?_
        rintro e w1 ⟨rfl, hk1⟩
        go_wp2_with fail
        go_ret
        exact ⟨rfl, ((Keep.refl _).alloc _).trans hk1⟩
      · skip
        have hv : meetsB true b p a m y 1 q = false := by simp [meetsB, *]
        rw [hv]
        clear hv
        go_enter Tryd.func42, Tryd.ntmps42
        go_wp2_with fail
        go_ret
        exact ⟨rfl, (Keep.refl _).alloc _⟩
    · skip
      have hv : meetsB true b p a m y 1 q = false := by simp [meetsB, *]
      rw [hv]
      clear hv
      go_enter Tryd.func42, Tryd.ntmps42
      go_wp2_with fail
      go_ret
      exact ⟨rfl, (Keep.refl _).alloc _⟩

theorem rseal_any (t : Bool) (b p a m y : Int) (tk : Bool) (bk pk ak mk yk : Int) (hb : 0 ≤ b ∧ b ≤ 4294967295) (hp : 0 ≤ p ∧ p ≤ 4294967295) (ha : 0 ≤ a ∧ a ≤ 4294967295) (hm : 0 ≤ m ∧ m ≤ 65535) (hy : 0 ≤ y ∧ y ≤ 65535) (hbk : 0 ≤ bk ∧ bk ≤ 4294967295) (hpk : 0 ≤ pk ∧ pk ≤ 4294967295) (hak : 0 ≤ ak ∧ ak ≤ 4294967295) (w : World) :
    Calls Tryd.prog 30 #[.agg #[.bool t, .int .u32 b, .int .u32 p, .int .u32 a, .int .u16 m, .int .u16 y], .agg #[.bool tk, .int .u32 bk, .int .u32 pk, .int .u32 ak, .int .u16 mk, .int .u16 yk]] w fun e w' => e = .returned (.agg #[.bool (sealTag t y tk bk pk ak mk yk), .int .u32 b, .int .u32 p, .int .u32 a, .int .u16 m, .int .u16 (sealTy y tk bk pk ak mk yk)]) ∧ Keep w w' := by
  obtain ⟨y0, y1⟩ := hy
  obtain ⟨k0, k1⟩ := hak
  have hf0 : (t && false) = false := by simp
  rcases Bool.eq_false_or_eq_true (y == 0) with d0 | d0
  · skip
    have e0 : (y != 0) = false := by rw [bne, d0]; rfl
    rcases Bool.eq_false_or_eq_true (meetsB tk bk pk ak mk yk 1 32) with d1 | d1
    · skip
      rcases Bool.eq_false_or_eq_true (decide (2 ≤ ak)) with d2 | d2
      · skip
        have g2 := of_decide_eq_true d2
        rcases Bool.eq_false_or_eq_true (decide (ak < 1024)) with d3 | d3
        · skip
          have g3 := of_decide_eq_true d3
          have km : ak % 65536 = ak := by omega
          have ho : sealOk y tk bk pk ak mk yk = true := by simp [sealOk, *]
          have ht : sealTag t y tk bk pk ak mk yk = t := by simp [sealTag, ho]
          have hu : sealTy y tk bk pk ak mk yk = ak := by simp [sealTy, ho]
          rw [ht, hu]
          clear ho ht hu
          go_enter Tryd.func30, Tryd.ntmps30
          go_wp2_with fail
          refine (rkey_any _ _ _ _ _ _ 32 hbk hpk ⟨k0, k1⟩ _).mono ?_
          rintro e w1 ⟨rfl, hk1⟩
          have B0_1 : Box w1 w.heap.size #[.bool t, .int .u32 b, .int .u32 p, .int .u32 a, .int .u16 m, .int .u16 y] := (((Box.new _ _ _).alloc _).alloc _).keep hk1
          have B1_1 : Box w1 (w.heap.size + 1) #[.bool tk, .int .u32 bk, .int .u32 pk, .int .u32 ak, .int .u16 mk, .int .u16 yk] := ((Box.new1 _ _ _ _).alloc _).keep hk1
          have B2_1 : Box w1 (w.heap.size + 2) #[.bool false, .int .u32 0, .int .u32 0, .int .u32 0, .int .u16 0, .int .u16 0] := (Box.new2 _ _ _ _ _).keep hk1
          have c0 := B0_1.cells
          have f0 := B0_1.thawed
          have c1 := B1_1.cells
          have f1 := B1_1.thawed
          have c2 := B2_1.cells
          have f2 := B2_1.thawed
          go_wp2_with fail
          refine bodyPost_ret (v := .agg #[.bool t, .int .u32 b, .int .u32 p, .int .u32 a, .int .u16 m, .int .u16 ak]) (by simp [results, Tryd.results30, go_sem, c2]) rfl ⟨rfl, ?_⟩
          repeat (with_reducible refine Keep.setCell ?_ (by simp <;> omega) _)
          exact (((((Keep.refl _).alloc _).alloc _).alloc _).trans hk1)
        · skip
          have g3 := of_decide_eq_false d3
          have ho : sealOk y tk bk pk ak mk yk = false := by simp [sealOk, *]
          have ht : sealTag t y tk bk pk ak mk yk = false := by simp [sealTag, ho]
          have hu : sealTy y tk bk pk ak mk yk = y := by simp [sealTy, ho]
          rw [ht, hu]
          clear ho ht hu
          go_enter Tryd.func30, Tryd.ntmps30
          go_wp2_with fail
          refine (rkey_any _ _ _ _ _ _ 32 hbk hpk ⟨k0, k1⟩ _).mono ?_
          rintro e w1 ⟨rfl, hk1⟩
          have B0_1 : Box w1 w.heap.size #[.bool t, .int .u32 b, .int .u32 p, .int .u32 a, .int .u16 m, .int .u16 y] := (((Box.new _ _ _).alloc _).alloc _).keep hk1
          have B1_1 : Box w1 (w.heap.size + 1) #[.bool tk, .int .u32 bk, .int .u32 pk, .int .u32 ak, .int .u16 mk, .int .u16 yk] := ((Box.new1 _ _ _ _).alloc _).keep hk1
          have B2_1 : Box w1 (w.heap.size + 2) #[.bool false, .int .u32 0, .int .u32 0, .int .u32 0, .int .u16 0, .int .u16 0] := (Box.new2 _ _ _ _ _).keep hk1
          have c0 := B0_1.cells
          have f0 := B0_1.thawed
          have c1 := B1_1.cells
          have f1 := B1_1.thawed
          have c2 := B2_1.cells
          have f2 := B2_1.thawed
          go_wp2_with fail
          refine (rasks_any _ _ _ _ _ _ _ _).mono ?_
          rintro e w2 ⟨rfl, hk2⟩
          have B0_2 : Box w2 w.heap.size #[.bool t, .int .u32 b, .int .u32 p, .int .u32 a, .int .u16 m, .int .u16 y] := B0_1.keep hk2
          have B1_2 : Box w2 (w.heap.size + 1) #[.bool tk, .int .u32 bk, .int .u32 pk, .int .u32 ak, .int .u16 mk, .int .u16 yk] := B1_1.keep hk2
          have B2_2 : Box w2 (w.heap.size + 2) #[.bool false, .int .u32 0, .int .u32 0, .int .u32 0, .int .u16 0, .int .u16 0] := B2_1.keep hk2
          clear c0 f0 c1 f1 c2 f2
          have c0 := B0_2.cells
          have f0 := B0_2.thawed
          have c1 := B1_2.cells
          have f1 := B1_2.thawed
          have c2 := B2_2.cells
          have f2 := B2_2.thawed
          go_wp2_with fail
          refine bodyPost_ret (v := .agg #[.bool false, .int .u32 b, .int .u32 p, .int .u32 a, .int .u16 m, .int .u16 y]) (by simp [results, Tryd.results30, go_sem, c2]) rfl ⟨rfl, ?_⟩
          repeat (with_reducible refine Keep.setCell ?_ (by simp <;> omega) _)
          exact ((((((Keep.refl _).alloc _).alloc _).alloc _).trans hk1).trans hk2)
      · skip
        have g2 := of_decide_eq_false d2
        have ho : sealOk y tk bk pk ak mk yk = false := by simp [sealOk, *]
        have ht : sealTag t y tk bk pk ak mk yk = false := by simp [sealTag, ho]
        have hu : sealTy y tk bk pk ak mk yk = y := by simp [sealTy, ho]
        rw [ht, hu]
        clear ho ht hu
        go_enter Tryd.func30, Tryd.ntmps30
        go_wp2_with fail
        refine (rkey_any _ _ _ _ _ _ 32 hbk hpk ⟨k0, k1⟩ _).mono ?_
        rintro e w1 ⟨rfl, hk1⟩
        have B0_1 : Box w1 w.heap.size #[.bool t, .int .u32 b, .int .u32 p, .int .u32 a, .int .u16 m, .int .u16 y] := (((Box.new _ _ _).alloc _).alloc _).keep hk1
        have B1_1 : Box w1 (w.heap.size + 1) #[.bool tk, .int .u32 bk, .int .u32 pk, .int .u32 ak, .int .u16 mk, .int .u16 yk] := ((Box.new1 _ _ _ _).alloc _).keep hk1
        have B2_1 : Box w1 (w.heap.size + 2) #[.bool false, .int .u32 0, .int .u32 0, .int .u32 0, .int .u16 0, .int .u16 0] := (Box.new2 _ _ _ _ _).keep hk1
        have c0 := B0_1.cells
        have f0 := B0_1.thawed
        have c1 := B1_1.cells
        have f1 := B1_1.thawed
        have c2 := B2_1.cells
        have f2 := B2_1.thawed
        go_wp2_with fail
        refine (rasks_any _ _ _ _ _ _ _ _).mono ?_
        rintro e w2 ⟨rfl, hk2⟩
        have B0_2 : Box w2 w.heap.size #[.bool t, .int .u32 b, .int .u32 p, .int .u32 a, .int .u16 m, .int .u16 y] := B0_1.keep hk2
        have B1_2 : Box w2 (w.heap.size + 1) #[.bool tk, .int .u32 bk, .int .u32 pk, .int .u32 ak, .int .u16 mk, .int .u16 yk] := B1_1.keep hk2
        have B2_2 : Box w2 (w.heap.size + 2) #[.bool false, .int .u32 0, .int .u32 0, .int .u32 0, .int .u16 0, .int .u16 0] := B2_1.keep hk2
        clear c0 f0 c1 f1 c2 f2
        have c0 := B0_2.cells
        have f0 := B0_2.thawed
        have c1 := B1_2.cells
        have f1 := B1_2.thawed
        have c2 := B2_2.cells
        have f2 := B2_2.thawed
        go_wp2_with fail
        refine bodyPost_ret (v := .agg #[.bool false, .int .u32 b, .int .u32 p, .int .u32 a, .int .u16 m, .int .u16 y]) (by simp [results, Tryd.results30, go_sem, c2]) rfl ⟨rfl, ?_⟩
        repeat (with_reducible refine Keep.setCell ?_ (by simp <;> omega) _)
        exact ((((((Keep.refl _).alloc _).alloc _).alloc _).trans hk1).trans hk2)
    · skip
      have ho : sealOk y tk bk pk ak mk yk = false := by simp [sealOk, *]
      have ht : sealTag t y tk bk pk ak mk yk = false := by simp [sealTag, ho]
      have hu : sealTy y tk bk pk ak mk yk = y := by simp [sealTy, ho]
      rw [ht, hu]
      clear ho ht hu
      go_enter Tryd.func30, Tryd.ntmps30
      go_wp2_with fail
      refine (rkey_any _ _ _ _ _ _ 32 hbk hpk ⟨k0, k1⟩ _).mono ?_
      rintro e w1 ⟨rfl, hk1⟩
      have B0_1 : Box w1 w.heap.size #[.bool t, .int .u32 b, .int .u32 p, .int .u32 a, .int .u16 m, .int .u16 y] := (((Box.new _ _ _).alloc _).alloc _).keep hk1
      have B1_1 : Box w1 (w.heap.size + 1) #[.bool tk, .int .u32 bk, .int .u32 pk, .int .u32 ak, .int .u16 mk, .int .u16 yk] := ((Box.new1 _ _ _ _).alloc _).keep hk1
      have B2_1 : Box w1 (w.heap.size + 2) #[.bool false, .int .u32 0, .int .u32 0, .int .u32 0, .int .u16 0, .int .u16 0] := (Box.new2 _ _ _ _ _).keep hk1
      have c0 := B0_1.cells
      have f0 := B0_1.thawed
      have c1 := B1_1.cells
      have f1 := B1_1.thawed
      have c2 := B2_1.cells
      have f2 := B2_1.thawed
      go_wp2_with fail
      refine (rasks_any _ _ _ _ _ _ _ _).mono ?_
      rintro e w2 ⟨rfl, hk2⟩
      have B0_2 : Box w2 w.heap.size #[.bool t, .int .u32 b, .int .u32 p, .int .u32 a, .int .u16 m, .int .u16 y] := B0_1.keep hk2
      have B1_2 : Box w2 (w.heap.size + 1) #[.bool tk, .int .u32 bk, .int .u32 pk, .int .u32 ak, .int .u16 mk, .int .u16 yk] := B1_1.keep hk2
      have B2_2 : Box w2 (w.heap.size + 2) #[.bool false, .int .u32 0, .int .u32 0, .int .u32 0, .int .u16 0, .int .u16 0] := B2_1.keep hk2
      clear c0 f0 c1 f1 c2 f2
      have c0 := B0_2.cells
      have f0 := B0_2.thawed
      have c1 := B1_2.cells
      have f1 := B1_2.thawed
      have c2 := B2_2.cells
      have f2 := B2_2.thawed
      go_wp2_with fail
      refine bodyPost_ret (v := .agg #[.bool false, .int .u32 b, .int .u32 p, .int .u32 a, .int .u16 m, .int .u16 y]) (by simp [results, Tryd.results30, go_sem, c2]) rfl ⟨rfl, ?_⟩
      repeat (with_reducible refine Keep.setCell ?_ (by simp <;> omega) _)
      exact ((((((Keep.refl _).alloc _).alloc _).alloc _).trans hk1).trans hk2)
  · skip
    have e0 : (y != 0) = true := by rw [bne, d0]; rfl
    have ho : sealOk y tk bk pk ak mk yk = false := by simp [sealOk, *]
    have ht : sealTag t y tk bk pk ak mk yk = false := by simp [sealTag, ho]
    have hu : sealTy y tk bk pk ak mk yk = y := by simp [sealTy, ho]
    rw [ht, hu]
    clear ho ht hu
    go_enter Tryd.func30, Tryd.ntmps30
    go_wp2_with fail
    refine (rasks_any _ _ _ _ _ _ _ _).mono ?_
    rintro e w1 ⟨rfl, hk1⟩
    have B0_1 : Box w1 w.heap.size #[.bool t, .int .u32 b, .int .u32 p, .int .u32 a, .int .u16 m, .int .u16 y] := (((Box.new _ _ _).alloc _).alloc _).keep hk1
    have B1_1 : Box w1 (w.heap.size + 1) #[.bool tk, .int .u32 bk, .int .u32 pk, .int .u32 ak, .int .u16 mk, .int .u16 yk] := ((Box.new1 _ _ _ _).alloc _).keep hk1
    have B2_1 : Box w1 (w.heap.size + 2) #[.bool false, .int .u32 0, .int .u32 0, .int .u32 0, .int .u16 0, .int .u16 0] := (Box.new2 _ _ _ _ _).keep hk1
    have c0 := B0_1.cells
    have f0 := B0_1.thawed
    have c1 := B1_1.cells
    have f1 := B1_1.thawed
    have c2 := B2_1.cells
    have f2 := B2_1.thawed
    go_wp2_with fail
    refine bodyPost_ret (v := .agg #[.bool false, .int .u32 b, .int .u32 p, .int .u32 a, .int .u16 m, .int .u16 y]) (by simp [results, Tryd.results30, go_sem, c2]) rfl ⟨rfl, ?_⟩
    repeat (with_reducible refine Keep.setCell ?_ (by simp <;> omega) _)
    exact (((((Keep.refl _).alloc _).alloc _).alloc _).trans hk1)

theorem runseal_any (t : Bool) (b p a m y : Int) (tk : Bool) (bk pk ak mk yk : Int) (hb : 0 ≤ b ∧ b ≤ 4294967295) (hp : 0 ≤ p ∧ p ≤ 4294967295) (ha : 0 ≤ a ∧ a ≤ 4294967295) (hm : 0 ≤ m ∧ m ≤ 65535) (hy : 0 ≤ y ∧ y ≤ 65535) (hbk : 0 ≤ bk ∧ bk ≤ 4294967295) (hpk : 0 ≤ pk ∧ pk ≤ 4294967295) (hak : 0 ≤ ak ∧ ak ≤ 4294967295) (w : World) :
    Calls Tryd.prog 32 #[.agg #[.bool t, .int .u32 b, .int .u32 p, .int .u32 a, .int .u16 m, .int .u16 y], .agg #[.bool tk, .int .u32 bk, .int .u32 pk, .int .u32 ak, .int .u16 mk, .int .u16 yk]] w fun e w' => e = .returned (.agg #[.bool (openTag t y tk bk pk ak mk yk), .int .u32 b, .int .u32 p, .int .u32 a, .int .u16 m, .int .u16 (openTy y tk bk pk ak mk yk)]) ∧ Keep w w' := by
  obtain ⟨y0, y1⟩ := hy
  obtain ⟨k0, k1⟩ := hak
  have hf0 : (t && false) = false := by simp
  rcases Bool.eq_false_or_eq_true (decide (2 ≤ y)) with d0 | d0
  · skip
    have g0 := of_decide_eq_true d0
    rcases Bool.eq_false_or_eq_true (meetsB tk bk pk ak mk yk 1 64) with d1 | d1
    · skip
      rcases Bool.eq_false_or_eq_true (y == ak) with d2 | d2
      · skip
        have e2 : (ak == y) = true := by rw [eq_of_beq d2]; simp
        have e3 : (ak != y) = false := by rw [bne, e2]; rfl
        have ho : openOk y tk bk pk ak mk yk = true := by simp [openOk, *]
        have ht : openTag t y tk bk pk ak mk yk = t := by simp [openTag, ho]
        have hu : openTy y tk bk pk ak mk yk = 0 := by simp [openTy, ho]
        rw [ht, hu]
        clear ho ht hu
        go_enter Tryd.func32, Tryd.ntmps32
        go_wp2_with fail
        refine (rkey_any _ _ _ _ _ _ 64 hbk hpk ⟨k0, k1⟩ _).mono ?_
        rintro e w1 ⟨rfl, hk1⟩
        have B0_1 : Box w1 w.heap.size #[.bool t, .int .u32 b, .int .u32 p, .int .u32 a, .int .u16 m, .int .u16 y] := (((Box.new _ _ _).alloc _).alloc _).keep hk1
        have B1_1 : Box w1 (w.heap.size + 1) #[.bool tk, .int .u32 bk, .int .u32 pk, .int .u32 ak, .int .u16 mk, .int .u16 yk] := ((Box.new1 _ _ _ _).alloc _).keep hk1
        have B2_1 : Box w1 (w.heap.size + 2) #[.bool false, .int .u32 0, .int .u32 0, .int .u32 0, .int .u16 0, .int .u16 0] := (Box.new2 _ _ _ _ _).keep hk1
        have c0 := B0_1.cells
        have f0 := B0_1.thawed
        have c1 := B1_1.cells
        have f1 := B1_1.thawed
        have c2 := B2_1.cells
        have f2 := B2_1.thawed
        go_wp2_with fail
        refine bodyPost_ret (v := .agg #[.bool t, .int .u32 b, .int .u32 p, .int .u32 a, .int .u16 m, .int .u16 0]) (by simp [results, Tryd.results32, go_sem, c2]) rfl ⟨rfl, ?_⟩
        repeat (with_reducible refine Keep.setCell ?_ (by simp <;> omega) _)
        exact (((((Keep.refl _).alloc _).alloc _).alloc _).trans hk1)
      · skip
        have e2 : (ak == y) = false := by rw [beq_eq_false_iff_ne] at d2 ⊢; exact fun h => d2 h.symm
        have e3 : (ak != y) = true := by rw [bne, e2]; rfl
        have ho : openOk y tk bk pk ak mk yk = false := by simp [openOk, *]
        have ht : openTag t y tk bk pk ak mk yk = false := by simp [openTag, ho]
        have hu : openTy y tk bk pk ak mk yk = y := by simp [openTy, ho]
        rw [ht, hu]
        clear ho ht hu
        go_enter Tryd.func32, Tryd.ntmps32
        go_wp2_with fail
        refine (rkey_any _ _ _ _ _ _ 64 hbk hpk ⟨k0, k1⟩ _).mono ?_
        rintro e w1 ⟨rfl, hk1⟩
        have B0_1 : Box w1 w.heap.size #[.bool t, .int .u32 b, .int .u32 p, .int .u32 a, .int .u16 m, .int .u16 y] := (((Box.new _ _ _).alloc _).alloc _).keep hk1
        have B1_1 : Box w1 (w.heap.size + 1) #[.bool tk, .int .u32 bk, .int .u32 pk, .int .u32 ak, .int .u16 mk, .int .u16 yk] := ((Box.new1 _ _ _ _).alloc _).keep hk1
        have B2_1 : Box w1 (w.heap.size + 2) #[.bool false, .int .u32 0, .int .u32 0, .int .u32 0, .int .u16 0, .int .u16 0] := (Box.new2 _ _ _ _ _).keep hk1
        have c0 := B0_1.cells
        have f0 := B0_1.thawed
        have c1 := B1_1.cells
        have f1 := B1_1.thawed
        have c2 := B2_1.cells
        have f2 := B2_1.thawed
        go_wp2_with fail
        refine (rasks_any _ _ _ _ _ _ _ _).mono ?_
        rintro e w2 ⟨rfl, hk2⟩
        have B0_2 : Box w2 w.heap.size #[.bool t, .int .u32 b, .int .u32 p, .int .u32 a, .int .u16 m, .int .u16 y] := B0_1.keep hk2
        have B1_2 : Box w2 (w.heap.size + 1) #[.bool tk, .int .u32 bk, .int .u32 pk, .int .u32 ak, .int .u16 mk, .int .u16 yk] := B1_1.keep hk2
        have B2_2 : Box w2 (w.heap.size + 2) #[.bool false, .int .u32 0, .int .u32 0, .int .u32 0, .int .u16 0, .int .u16 0] := B2_1.keep hk2
        clear c0 f0 c1 f1 c2 f2
        have c0 := B0_2.cells
        have f0 := B0_2.thawed
        have c1 := B1_2.cells
        have f1 := B1_2.thawed
        have c2 := B2_2.cells
        have f2 := B2_2.thawed
        go_wp2_with fail
        refine bodyPost_ret (v := .agg #[.bool false, .int .u32 b, .int .u32 p, .int .u32 a, .int .u16 m, .int .u16 y]) (by simp [results, Tryd.results32, go_sem, c2]) rfl ⟨rfl, ?_⟩
        repeat (with_reducible refine Keep.setCell ?_ (by simp <;> omega) _)
        exact ((((((Keep.refl _).alloc _).alloc _).alloc _).trans hk1).trans hk2)
    · skip
      have ho : openOk y tk bk pk ak mk yk = false := by simp [openOk, *]
      have ht : openTag t y tk bk pk ak mk yk = false := by simp [openTag, ho]
      have hu : openTy y tk bk pk ak mk yk = y := by simp [openTy, ho]
      rw [ht, hu]
      clear ho ht hu
      go_enter Tryd.func32, Tryd.ntmps32
      go_wp2_with fail
      refine (rkey_any _ _ _ _ _ _ 64 hbk hpk ⟨k0, k1⟩ _).mono ?_
      rintro e w1 ⟨rfl, hk1⟩
      have B0_1 : Box w1 w.heap.size #[.bool t, .int .u32 b, .int .u32 p, .int .u32 a, .int .u16 m, .int .u16 y] := (((Box.new _ _ _).alloc _).alloc _).keep hk1
      have B1_1 : Box w1 (w.heap.size + 1) #[.bool tk, .int .u32 bk, .int .u32 pk, .int .u32 ak, .int .u16 mk, .int .u16 yk] := ((Box.new1 _ _ _ _).alloc _).keep hk1
      have B2_1 : Box w1 (w.heap.size + 2) #[.bool false, .int .u32 0, .int .u32 0, .int .u32 0, .int .u16 0, .int .u16 0] := (Box.new2 _ _ _ _ _).keep hk1
      have c0 := B0_1.cells
      have f0 := B0_1.thawed
      have c1 := B1_1.cells
      have f1 := B1_1.thawed
      have c2 := B2_1.cells
      have f2 := B2_1.thawed
      go_wp2_with fail
      refine (rasks_any _ _ _ _ _ _ _ _).mono ?_
      rintro e w2 ⟨rfl, hk2⟩
      have B0_2 : Box w2 w.heap.size #[.bool t, .int .u32 b, .int .u32 p, .int .u32 a, .int .u16 m, .int .u16 y] := B0_1.keep hk2
      have B1_2 : Box w2 (w.heap.size + 1) #[.bool tk, .int .u32 bk, .int .u32 pk, .int .u32 ak, .int .u16 mk, .int .u16 yk] := B1_1.keep hk2
      have B2_2 : Box w2 (w.heap.size + 2) #[.bool false, .int .u32 0, .int .u32 0, .int .u32 0, .int .u16 0, .int .u16 0] := B2_1.keep hk2
      clear c0 f0 c1 f1 c2 f2
      have c0 := B0_2.cells
      have f0 := B0_2.thawed
      have c1 := B1_2.cells
      have f1 := B1_2.thawed
      have c2 := B2_2.cells
      have f2 := B2_2.thawed
      go_wp2_with fail
      refine bodyPost_ret (v := .agg #[.bool false, .int .u32 b, .int .u32 p, .int .u32 a, .int .u16 m, .int .u16 y]) (by simp [results, Tryd.results32, go_sem, c2]) rfl ⟨rfl, ?_⟩
      repeat (with_reducible refine Keep.setCell ?_ (by simp <;> omega) _)
      exact ((((((Keep.refl _).alloc _).alloc _).alloc _).trans hk1).trans hk2)
  · skip
    have g0 := of_decide_eq_false d0
    have ho : openOk y tk bk pk ak mk yk = false := by simp [openOk, *]
    have ht : openTag t y tk bk pk ak mk yk = false := by simp [openTag, ho]
    have hu : openTy y tk bk pk ak mk yk = y := by simp [openTy, ho]
    rw [ht, hu]
    clear ho ht hu
    go_enter Tryd.func32, Tryd.ntmps32
    go_wp2_with fail
    refine (rasks_any _ _ _ _ _ _ _ _).mono ?_
    rintro e w1 ⟨rfl, hk1⟩
    have B0_1 : Box w1 w.heap.size #[.bool t, .int .u32 b, .int .u32 p, .int .u32 a, .int .u16 m, .int .u16 y] := (((Box.new _ _ _).alloc _).alloc _).keep hk1
    have B1_1 : Box w1 (w.heap.size + 1) #[.bool tk, .int .u32 bk, .int .u32 pk, .int .u32 ak, .int .u16 mk, .int .u16 yk] := ((Box.new1 _ _ _ _).alloc _).keep hk1
    have B2_1 : Box w1 (w.heap.size + 2) #[.bool false, .int .u32 0, .int .u32 0, .int .u32 0, .int .u16 0, .int .u16 0] := (Box.new2 _ _ _ _ _).keep hk1
    have c0 := B0_1.cells
    have f0 := B0_1.thawed
    have c1 := B1_1.cells
    have f1 := B1_1.thawed
    have c2 := B2_1.cells
    have f2 := B2_1.thawed
    go_wp2_with fail
    refine bodyPost_ret (v := .agg #[.bool false, .int .u32 b, .int .u32 p, .int .u32 a, .int .u16 m, .int .u16 y]) (by simp [results, Tryd.results32, go_sem, c2]) rfl ⟨rfl, ?_⟩
    repeat (with_reducible refine Keep.setCell ?_ (by simp <;> omega) _)
    exact (((((Keep.refl _).alloc _).alloc _).alloc _).trans hk1)

end Go.Proofs.YtbeeomdpdmmllaaDoor
