/- Package cap: what is made of a capability: SetAddr, Bounds, AndPerm, Clear, Enter, Int, Root, Seal, Unseal. -/
import Derived.Test.YtbeeomdpdmmllaaDoorCapAsk
import Derived.WalkKit
namespace Go.Proofs.YtbeeomdpdmmllaaDoor
set_option linter.unusedVariables false
set_option linter.unusedSimpArgs false
open Go.RowKit

theorem and0 (m : Int) (h : 0 ≤ m ∧ m ≤ 65535) : (bits .and .u16 m 0 == 0) = true := by
  rw [u16_and m 0 (by omega) (by omega) (by decide) (by decide)]
  simp

theorem setAddr_any (t : Bool) (b p a m y : Int) (x : Int) (hb : 0 ≤ b ∧ b ≤ 4294967295) (hp : 0 ≤ p ∧ p ≤ 4294967295) (ha : 0 ≤ a ∧ a ≤ 4294967295) (hm : 0 ≤ m ∧ m ≤ 65535) (w : World) :
    Calls Tryd.prog 15 #[.agg #[.bool t, .int .u32 b, .int .u32 p, .int .u32 a, .int .u16 m, .int .u16 y], .int .u32 x] w fun e w' => e = .returned (.agg #[.bool (tagOpen t y), .int .u32 b, .int .u32 p, .int .u32 x, .int .u16 m, .int .u16 y]) ∧ Keep w w' := by
  have m00 := and0 m hm
  cases t
  · have hv : tagOpen false y = false := by simp [tagOpen, tagBounds, tagEnter, *]
    rw [hv]
    clear hv
    go_enter Tryd.func15, Tryd.ntmps15
    go_wp2_with fail
    refine bodyPost_ret (v := .agg #[.bool false, .int .u32 b, .int .u32 p, .int .u32 x, .int .u16 m, .int .u16 y]) (by simp [results, Tryd.results15, go_sem]) rfl ⟨rfl, ?_⟩
    exact (((Keep.refl _).alloc _).alloc _)
  · have hv : tagOpen true y = (y == 0) := by simp [tagOpen, tagBounds, tagEnter, *]
    rw [hv]
    clear hv
    go_enter Tryd.func15, Tryd.ntmps15
    go_wp2_with fail
    refine (meets3 _ _ _ _ _ _ 0 0 hb hp ha (by omega) _).mono ?_
    rintro e w1 ⟨rfl, hk1⟩
    have B0_1 : Box w1 w.heap.size #[.bool true, .int .u32 b, .int .u32 p, .int .u32 a, .int .u16 m, .int .u16 y] := ((Box.new _ _ _).alloc _).keep hk1
    have B1_1 : Box w1 (w.heap.size + 1) #[.bool false, .int .u32 0, .int .u32 0, .int .u32 0, .int .u16 0, .int .u16 0] := (Box.new1 _ _ _ _).keep hk1
    have c0 := B0_1.cells
    have f0 := B0_1.thawed
    have c1 := B1_1.cells
    have f1 := B1_1.thawed
    go_wp2_with fail
    refine bodyPost_ret (v := .agg #[.bool (y == 0), .int .u32 b, .int .u32 p, .int .u32 x, .int .u16 m, .int .u16 y]) (by simp [results, Tryd.results15, go_sem, c1]) rfl ⟨rfl, ?_⟩
    repeat (with_reducible refine Keep.setCell ?_ (by simp <;> omega) _)
    exact ((((Keep.refl _).alloc _).alloc _).trans hk1)

theorem bounds_any (t : Bool) (b p a m y : Int) (x : Int) (hb : 0 ≤ b ∧ b ≤ 4294967295) (hp : 0 ≤ p ∧ p ≤ 4294967295) (ha : 0 ≤ a ∧ a ≤ 4294967295) (hm : 0 ≤ m ∧ m ≤ 65535) (hx : 0 ≤ x ∧ x ≤ 4294967295) (w : World) :
    Calls Tryd.prog 17 #[.agg #[.bool t, .int .u32 b, .int .u32 p, .int .u32 a, .int .u16 m, .int .u16 y], .int .u32 x] w fun e w' => e = .returned (.agg #[.bool (tagBounds t b p a y x), .int .u32 a, .int .u32 ((a + x) % 4294967296), .int .u32 a, .int .u16 m, .int .u16 y]) ∧ Keep w w' := by
  have m00 := and0 m hm
  cases t
  · have hv : tagBounds false b p a y x = false := by simp [tagOpen, tagBounds, tagEnter, *]
    rw [hv]
    clear hv
    go_enter Tryd.func17, Tryd.ntmps17
    go_wp2_with fail
    refine bodyPost_ret (v := .agg #[.bool false, .int .u32 a, .int .u32 ((a + x) % 4294967296), .int .u32 a, .int .u16 m, .int .u16 y]) (by simp [results, Tryd.results17, go_sem]) rfl ⟨rfl, ?_⟩
    exact (((Keep.refl _).alloc _).alloc _)
  · have hv : tagBounds true b p a y x = (hasB b p a x && (y == 0)) := by simp [tagOpen, tagBounds, tagEnter, *]
    rw [hv]
    clear hv
    go_enter Tryd.func17, Tryd.ntmps17
    go_wp2_with fail
    refine (meets1 _ _ _ _ _ _ x 0 hb hp ha hx _).mono ?_
    rintro e w1 ⟨rfl, hk1⟩
    have B0_1 : Box w1 w.heap.size #[.bool true, .int .u32 b, .int .u32 p, .int .u32 a, .int .u16 m, .int .u16 y] := ((Box.new _ _ _).alloc _).keep hk1
    have B1_1 : Box w1 (w.heap.size + 1) #[.bool false, .int .u32 0, .int .u32 0, .int .u32 0, .int .u16 0, .int .u16 0] := (Box.new1 _ _ _ _).keep hk1
    have c0 := B0_1.cells
    have f0 := B0_1.thawed
    have c1 := B1_1.cells
    have f1 := B1_1.thawed
    go_wp2_with fail
    refine bodyPost_ret (v := .agg #[.bool (hasB b p a x && (y == 0)), .int .u32 a, .int .u32 ((a + x) % 4294967296), .int .u32 a, .int .u16 m, .int .u16 y]) (by simp [results, Tryd.results17, go_sem, c1]) rfl ⟨rfl, ?_⟩
    repeat (with_reducible refine Keep.setCell ?_ (by simp <;> omega) _)
    exact ((((Keep.refl _).alloc _).alloc _).trans hk1)

theorem andPerm_any (t : Bool) (b p a m y : Int) (x : Int) (hb : 0 ≤ b ∧ b ≤ 4294967295) (hp : 0 ≤ p ∧ p ≤ 4294967295) (ha : 0 ≤ a ∧ a ≤ 4294967295) (hm : 0 ≤ m ∧ m ≤ 65535) (hx : 0 ≤ x ∧ x ≤ 65535) (w : World) :
    Calls Tryd.prog 19 #[.agg #[.bool t, .int .u32 b, .int .u32 p, .int .u32 a, .int .u16 m, .int .u16 y], .int .u16 x] w fun e w' => e = .returned (.agg #[.bool (tagOpen t y), .int .u32 b, .int .u32 p, .int .u32 a, .int .u16 (bits .and .u16 m x), .int .u16 y]) ∧ Keep w w' := by
  have m00 := and0 m hm
  cases t
  · have hv : tagOpen false y = false := by simp [tagOpen, tagBounds, tagEnter, *]
    rw [hv]
    clear hv
    go_enter Tryd.func19, Tryd.ntmps19
    go_wp2_with fail
    refine bodyPost_ret (v := .agg #[.bool false, .int .u32 b, .int .u32 p, .int .u32 a, .int .u16 (bits .and .u16 m x), .int .u16 y]) (by simp [results, Tryd.results19, go_sem]) rfl ⟨rfl, ?_⟩
    exact (((Keep.refl _).alloc _).alloc _)
  · have hv : tagOpen true y = (y == 0) := by simp [tagOpen, tagBounds, tagEnter, *]
    rw [hv]
    clear hv
    go_enter Tryd.func19, Tryd.ntmps19
    go_wp2_with fail
    refine (meets3 _ _ _ _ _ _ 0 0 hb hp ha (by omega) _).mono ?_
    rintro e w1 ⟨rfl, hk1⟩
    have B0_1 : Box w1 w.heap.size #[.bool true, .int .u32 b, .int .u32 p, .int .u32 a, .int .u16 m, .int .u16 y] := ((Box.new _ _ _).alloc _).keep hk1
    have B1_1 : Box w1 (w.heap.size + 1) #[.bool false, .int .u32 0, .int .u32 0, .int .u32 0, .int .u16 0, .int .u16 0] := (Box.new1 _ _ _ _).keep hk1
    have c0 := B0_1.cells
    have f0 := B0_1.thawed
    have c1 := B1_1.cells
    have f1 := B1_1.thawed
    go_wp2_with fail
    refine bodyPost_ret (v := .agg #[.bool (y == 0), .int .u32 b, .int .u32 p, .int .u32 a, .int .u16 (bits .and .u16 m x), .int .u16 y]) (by simp [results, Tryd.results19, go_sem, c1]) rfl ⟨rfl, ?_⟩
    repeat (with_reducible refine Keep.setCell ?_ (by simp <;> omega) _)
    exact ((((Keep.refl _).alloc _).alloc _).trans hk1)

theorem enter_any (t : Bool) (b p a m y : Int)  (hb : 0 ≤ b ∧ b ≤ 4294967295) (hp : 0 ≤ p ∧ p ≤ 4294967295) (ha : 0 ≤ a ∧ a ≤ 4294967295) (hm : 0 ≤ m ∧ m ≤ 65535) (w : World) :
    Calls Tryd.prog 23 #[.agg #[.bool t, .int .u32 b, .int .u32 p, .int .u32 a, .int .u16 m, .int .u16 y]] w fun e w' => e = .returned (.agg #[.bool (tagEnter t m y), .int .u32 b, .int .u32 p, .int .u32 a, .int .u16 m, .int .u16 1]) ∧ Keep w w' := by
  have m00 := and0 m hm
  cases t
  · have hv : tagEnter false m y = false := by simp [tagOpen, tagBounds, tagEnter, *]
    rw [hv]
    clear hv
    go_enter Tryd.func23, Tryd.ntmps23
    go_wp2_with fail
    refine bodyPost_ret (v := .agg #[.bool false, .int .u32 b, .int .u32 p, .int .u32 a, .int .u16 m, .int .u16 1]) (by simp [results, Tryd.results23, go_sem]) rfl ⟨rfl, ?_⟩
    exact (((Keep.refl _).alloc _).alloc _)
  · have hv : tagEnter true m y = ((bits .and .u16 m 4 == 4) && (y == 0)) := by simp [tagOpen, tagBounds, tagEnter, *]
    rw [hv]
    clear hv
    go_enter Tryd.func23, Tryd.ntmps23
    go_wp2_with fail
    refine (meets2 _ _ _ _ _ _ 0 4 hb hp ha (by omega) _).mono ?_
    rintro e w1 ⟨rfl, hk1⟩
    have B0_1 : Box w1 w.heap.size #[.bool true, .int .u32 b, .int .u32 p, .int .u32 a, .int .u16 m, .int .u16 y] := ((Box.new _ _ _).alloc _).keep hk1
    have B1_1 : Box w1 (w.heap.size + 1) #[.bool false, .int .u32 0, .int .u32 0, .int .u32 0, .int .u16 0, .int .u16 0] := (Box.new1 _ _ _ _).keep hk1
    have c0 := B0_1.cells
    have f0 := B0_1.thawed
    have c1 := B1_1.cells
    have f1 := B1_1.thawed
    go_wp2_with fail
    refine bodyPost_ret (v := .agg #[.bool ((bits .and .u16 m 4 == 4) && (y == 0)), .int .u32 b, .int .u32 p, .int .u32 a, .int .u16 m, .int .u16 1]) (by simp [results, Tryd.results23, go_sem, c1]) rfl ⟨rfl, ?_⟩
    repeat (with_reducible refine Keep.setCell ?_ (by simp <;> omega) _)
    exact ((((Keep.refl _).alloc _).alloc _).trans hk1)

theorem clear_any (t : Bool) (b p a m y : Int) (w : World) :
    Calls Tryd.prog 21 #[.agg #[.bool t, .int .u32 b, .int .u32 p, .int .u32 a, .int .u16 m, .int .u16 y]] w fun e w' => e = .returned (.agg #[.bool false, .int .u32 b, .int .u32 p, .int .u32 a, .int .u16 m, .int .u16 y]) ∧ Keep w w' := by
  go_enter Tryd.func21, Tryd.ntmps21
  go_wp2_with fail
  refine bodyPost_ret (v := .agg #[.bool false, .int .u32 b, .int .u32 p, .int .u32 a, .int .u16 m, .int .u16 y]) (by simp [results, Tryd.results21, go_sem]) rfl ⟨rfl, ?_⟩
  exact (((Keep.refl _).alloc _).alloc _)

theorem int_any (x : Int) (w : World) :
    Calls Tryd.prog 25 #[.int .u32 x] w fun e w' => e = .returned (.agg #[.bool false, .int .u32 0, .int .u32 0, .int .u32 x, .int .u16 0, .int .u16 0]) ∧ Keep w w' := by
  go_enter Tryd.func25, Tryd.ntmps25
  go_wp2_with fail
  refine bodyPost_ret (v := .agg #[.bool false, .int .u32 0, .int .u32 0, .int .u32 x, .int .u16 0, .int .u16 0]) (by simp [results, Tryd.results25, go_sem]) rfl ⟨rfl, ?_⟩
  exact ((Keep.refl _).alloc _)

theorem root_any (x : Int) (w : World) :
    Calls Tryd.prog 27 #[.int .u32 x] w fun e w' => e = .returned (.agg #[.bool true, .int .u32 0, .int .u32 x, .int .u32 0, .int .u16 127, .int .u16 0]) ∧ Keep w w' := by
  go_enter Tryd.func27, Tryd.ntmps27
  go_wp2_with fail
  refine bodyPost_ret (v := .agg #[.bool true, .int .u32 0, .int .u32 x, .int .u32 0, .int .u16 127, .int .u16 0]) (by simp [results, Tryd.results27, go_sem]) rfl ⟨rfl, ?_⟩
  exact ((Keep.refl _).alloc _)

theorem seal_any (t : Bool) (b p a m y : Int) (tk : Bool) (bk pk ak mk yk : Int) (hb : 0 ≤ b ∧ b ≤ 4294967295) (hp : 0 ≤ p ∧ p ≤ 4294967295) (ha : 0 ≤ a ∧ a ≤ 4294967295) (hm : 0 ≤ m ∧ m ≤ 65535) (hy : 0 ≤ y ∧ y ≤ 65535) (hbk : 0 ≤ bk ∧ bk ≤ 4294967295) (hpk : 0 ≤ pk ∧ pk ≤ 4294967295) (hak : 0 ≤ ak ∧ ak ≤ 4294967295) (w : World) :
    Calls Tryd.prog 29 #[.agg #[.bool t, .int .u32 b, .int .u32 p, .int .u32 a, .int .u16 m, .int .u16 y], .agg #[.bool tk, .int .u32 bk, .int .u32 pk, .int .u32 ak, .int .u16 mk, .int .u16 yk]] w fun e w' => e = .returned (.agg #[.bool (sealTag t y tk bk pk ak mk yk), .int .u32 b, .int .u32 p, .int .u32 a, .int .u16 m, .int .u16 (sealTy y tk bk pk ak mk yk)]) ∧ Keep w w' := by
  obtain ⟨y0, y1⟩ := hy
  obtain ⟨k0, k1⟩ := hak
  rcases Bool.eq_false_or_eq_true (decide (2 ≤ ak)) with d0 | d0
  · skip
    rcases Bool.eq_false_or_eq_true (decide (ak < 1024)) with d1 | d1
    · skip
      have km : ak % 65536 = ak := by have := of_decide_eq_true d1; omega
      rcases Bool.eq_false_or_eq_true (y == 0) with d2 | d2
      · skip
        rcases Bool.eq_false_or_eq_true (meetsB tk bk pk ak mk yk 1 32) with d3 | d3
        · skip
          have ho : sealOk y tk bk pk ak mk yk = true := by simp [sealOk, *]
          have ht : sealTag t y tk bk pk ak mk yk = t := by simp [sealTag, ho]
          have hu : sealTy y tk bk pk ak mk yk = ak := by simp [sealTy, ho]
          rw [ht, hu]
          clear ho ht hu
          go_enter Tryd.func29, Tryd.ntmps29
          go_wp2_with fail
          refine (meets3 _ _ _ _ _ _ 0 0 hb hp ha (by omega) _).mono ?_
          rintro e w1 ⟨rfl, hk1⟩
          have B0_1 : Box w1 w.heap.size #[.bool t, .int .u32 b, .int .u32 p, .int .u32 a, .int .u16 m, .int .u16 y] := (((Box.new _ _ _).alloc _).alloc _).keep hk1
          have B1_1 : Box w1 (w.heap.size + 1) #[.bool tk, .int .u32 bk, .int .u32 pk, .int .u32 ak, .int .u16 mk, .int .u16 yk] := ((Box.new1 _ _ _ _).alloc _).keep hk1
          have B2_1 : Box w1 (w.heap.size + 2) #[.bool false, .int .u32 0, .int .u32 0, .int .u32 0, .int .u16 0, .int .u16 0] := (Box.new2 _ _ _ _ _).keep hk1
          have c0 := B0_1.cells
          have f0 := B0_1.thawed
          have c1 := B1_1.cells
          have f1 := B1_1.thawed
          have c2 := B2_1.cells
          have f2 := B2_1.thawed
          go_wp2_with fail
          refine (meets0 _ _ _ _ _ _ 1 32 hbk hpk ⟨k0, k1⟩ (by omega) _).mono ?_
          rintro e w2 ⟨rfl, hk2⟩
          have B0_2 : Box w2 w.heap.size #[.bool t, .int .u32 b, .int .u32 p, .int .u32 a, .int .u16 m, .int .u16 y] := B0_1.keep hk2
          have B1_2 : Box w2 (w.heap.size + 1) #[.bool tk, .int .u32 bk, .int .u32 pk, .int .u32 ak, .int .u16 mk, .int .u16 yk] := B1_1.keep hk2
          have B2_2 : Box w2 (w.heap.size + 2) #[.bool false, .int .u32 0, .int .u32 0, .int .u32 0, .int .u16 0, .int .u16 0] := B2_1.keep hk2
          clear c0 f0 c1 f1 c2 f2
          have c0 := B0_2.cells
          have f0 := B0_2.thawed
          have c1 := B1_2.cells
          have f1 := B1_2.thawed
          have c2 := B2_2.cells
          have f2 := B2_2.thawed
          go_wp2_with fail
          refine bodyPost_ret (v := .agg #[.bool t, .int .u32 b, .int .u32 p, .int .u32 a, .int .u16 m, .int .u16 ak]) (by simp [results, Tryd.results29, go_sem, c2]) rfl ⟨rfl, ?_⟩
          repeat (with_reducible refine Keep.setCell ?_ (by simp <;> omega) _)
          exact ((((((Keep.refl _).alloc _).alloc _).alloc _).trans hk1).trans hk2)
        · skip
          have ho : sealOk y tk bk pk ak mk yk = false := by simp [sealOk, *]
          have ht : sealTag t y tk bk pk ak mk yk = false := by simp [sealTag, ho]
          have hu : sealTy y tk bk pk ak mk yk = y := by simp [sealTy, ho]
          rw [ht, hu]
          clear ho ht hu
          go_enter Tryd.func29, Tryd.ntmps29
          go_wp2_with fail
          refine (meets3 _ _ _ _ _ _ 0 0 hb hp ha (by omega) _).mono ?_
          rintro e w1 ⟨rfl, hk1⟩
          have B0_1 : Box w1 w.heap.size #[.bool t, .int .u32 b, .int .u32 p, .int .u32 a, .int .u16 m, .int .u16 y] := (((Box.new _ _ _).alloc _).alloc _).keep hk1
          have B1_1 : Box w1 (w.heap.size + 1) #[.bool tk, .int .u32 bk, .int .u32 pk, .int .u32 ak, .int .u16 mk, .int .u16 yk] := ((Box.new1 _ _ _ _).alloc _).keep hk1
          have B2_1 : Box w1 (w.heap.size + 2) #[.bool false, .int .u32 0, .int .u32 0, .int .u32 0, .int .u16 0, .int .u16 0] := (Box.new2 _ _ _ _ _).keep hk1
          have c0 := B0_1.cells
          have f0 := B0_1.thawed
          have c1 := B1_1.cells
          have f1 := B1_1.thawed
          have c2 := B2_1.cells
          have f2 := B2_1.thawed
          go_wp2_with fail
          refine (meets0 _ _ _ _ _ _ 1 32 hbk hpk ⟨k0, k1⟩ (by omega) _).mono ?_
          rintro e w2 ⟨rfl, hk2⟩
          have B0_2 : Box w2 w.heap.size #[.bool t, .int .u32 b, .int .u32 p, .int .u32 a, .int .u16 m, .int .u16 y] := B0_1.keep hk2
          have B1_2 : Box w2 (w.heap.size + 1) #[.bool tk, .int .u32 bk, .int .u32 pk, .int .u32 ak, .int .u16 mk, .int .u16 yk] := B1_1.keep hk2
          have B2_2 : Box w2 (w.heap.size + 2) #[.bool false, .int .u32 0, .int .u32 0, .int .u32 0, .int .u16 0, .int .u16 0] := B2_1.keep hk2
          clear c0 f0 c1 f1 c2 f2
          have c0 := B0_2.cells
          have f0 := B0_2.thawed
          have c1 := B1_2.cells
          have f1 := B1_2.thawed
          have c2 := B2_2.cells
          have f2 := B2_2.thawed
          go_wp2_with fail
          refine (clear_any _ _ _ _ _ _ _).mono ?_
          rintro e w3 ⟨rfl, hk3⟩
          have B0_3 : Box w3 w.heap.size #[.bool t, .int .u32 b, .int .u32 p, .int .u32 a, .int .u16 m, .int .u16 y] := B0_2.keep hk3
          have B1_3 : Box w3 (w.heap.size + 1) #[.bool tk, .int .u32 bk, .int .u32 pk, .int .u32 ak, .int .u16 mk, .int .u16 yk] := B1_2.keep hk3
          have B2_3 : Box w3 (w.heap.size + 2) #[.bool false, .int .u32 0, .int .u32 0, .int .u32 0, .int .u16 0, .int .u16 0] := B2_2.keep hk3
          clear c0 f0 c1 f1 c2 f2
          have c0 := B0_3.cells
          have f0 := B0_3.thawed
          have c1 := B1_3.cells
          have f1 := B1_3.thawed
          have c2 := B2_3.cells
          have f2 := B2_3.thawed
          go_wp2_with fail
          refine bodyPost_ret (v := .agg #[.bool false, .int .u32 b, .int .u32 p, .int .u32 a, .int .u16 m, .int .u16 y]) (by simp [results, Tryd.results29, go_sem, c2]) rfl ⟨rfl, ?_⟩
          repeat (with_reducible refine Keep.setCell ?_ (by simp <;> omega) _)
          exact (((((((Keep.refl _).alloc _).alloc _).alloc _).trans hk1).trans hk2).trans hk3)
      · skip
        have ho : sealOk y tk bk pk ak mk yk = false := by simp [sealOk, *]
        have ht : sealTag t y tk bk pk ak mk yk = false := by simp [sealTag, ho]
        have hu : sealTy y tk bk pk ak mk yk = y := by simp [sealTy, ho]
        rw [ht, hu]
        clear ho ht hu
        go_enter Tryd.func29, Tryd.ntmps29
        go_wp2_with fail
        refine (meets3 _ _ _ _ _ _ 0 0 hb hp ha (by omega) _).mono ?_
        rintro e w1 ⟨rfl, hk1⟩
        have B0_1 : Box w1 w.heap.size #[.bool t, .int .u32 b, .int .u32 p, .int .u32 a, .int .u16 m, .int .u16 y] := (((Box.new _ _ _).alloc _).alloc _).keep hk1
        have B1_1 : Box w1 (w.heap.size + 1) #[.bool tk, .int .u32 bk, .int .u32 pk, .int .u32 ak, .int .u16 mk, .int .u16 yk] := ((Box.new1 _ _ _ _).alloc _).keep hk1
        have B2_1 : Box w1 (w.heap.size + 2) #[.bool false, .int .u32 0, .int .u32 0, .int .u32 0, .int .u16 0, .int .u16 0] := (Box.new2 _ _ _ _ _).keep hk1
        have c0 := B0_1.cells
        have f0 := B0_1.thawed
        have c1 := B1_1.cells
        have f1 := B1_1.thawed
        have c2 := B2_1.cells
        have f2 := B2_1.thawed
        go_wp2_with fail
        refine (clear_any _ _ _ _ _ _ _).mono ?_
        rintro e w2 ⟨rfl, hk2⟩
        have B0_2 : Box w2 w.heap.size #[.bool t, .int .u32 b, .int .u32 p, .int .u32 a, .int .u16 m, .int .u16 y] := B0_1.keep hk2
        have B1_2 : Box w2 (w.heap.size + 1) #[.bool tk, .int .u32 bk, .int .u32 pk, .int .u32 ak, .int .u16 mk, .int .u16 yk] := B1_1.keep hk2
        have B2_2 : Box w2 (w.heap.size + 2) #[.bool false, .int .u32 0, .int .u32 0, .int .u32 0, .int .u16 0, .int .u16 0] := B2_1.keep hk2
        clear c0 f0 c1 f1 c2 f2
        have c0 := B0_2.cells
        have f0 := B0_2.thawed
        have c1 := B1_2.cells
        have f1 := B1_2.thawed
        have c2 := B2_2.cells
        have f2 := B2_2.thawed
        go_wp2_with fail
        refine bodyPost_ret (v := .agg #[.bool false, .int .u32 b, .int .u32 p, .int .u32 a, .int .u16 m, .int .u16 y]) (by simp [results, Tryd.results29, go_sem, c2]) rfl ⟨rfl, ?_⟩
        repeat (with_reducible refine Keep.setCell ?_ (by simp <;> omega) _)
        exact ((((((Keep.refl _).alloc _).alloc _).alloc _).trans hk1).trans hk2)
    · skip
      have ho : sealOk y tk bk pk ak mk yk = false := by simp [sealOk, *]
      have ht : sealTag t y tk bk pk ak mk yk = false := by simp [sealTag, ho]
      have hu : sealTy y tk bk pk ak mk yk = y := by simp [sealTy, ho]
      rw [ht, hu]
      clear ho ht hu
      go_enter Tryd.func29, Tryd.ntmps29
      go_wp2_with fail
      refine (clear_any _ _ _ _ _ _ _).mono ?_
      rintro e w1 ⟨rfl, hk1⟩
      have B0_1 : Box w1 w.heap.size #[.bool t, .int .u32 b, .int .u32 p, .int .u32 a, .int .u16 m, .int .u16 y] := (((Box.new _ _ _).alloc _).alloc _).keep hk1
      have B1_1 : Box w1 (w.heap.size + 1) #[.bool tk, .int .u32 bk, .int .u32 pk, .int .u32 ak, .int .u16 mk, .int .u16 yk] := ((Box.new1 _ _ _ _).alloc _).keep hk1
      have B2_1 : Box w1 (w.heap.size + 2) #[.bool false, .int .u32 0, .int .u32 0, .int .u32 0, .int .u16 0, .int .u16 0] := (Box.new2 _ _ _ _ _).keep hk1
      have c0 := B0_1.cells
      have f0 := B0_1.thawed
      have c1 := B1_1.cells
      have f1 := B1_1.thawed
      have c2 := B2_1.cells
      have f2 := B2_1.thawed
      go_wp2_with fail
      refine bodyPost_ret (v := .agg #[.bool false, .int .u32 b, .int .u32 p, .int .u32 a, .int .u16 m, .int .u16 y]) (by simp [results, Tryd.results29, go_sem, c2]) rfl ⟨rfl, ?_⟩
      repeat (with_reducible refine Keep.setCell ?_ (by simp <;> omega) _)
      exact (((((Keep.refl _).alloc _).alloc _).alloc _).trans hk1)
  · skip
    have ho : sealOk y tk bk pk ak mk yk = false := by simp [sealOk, *]
    have ht : sealTag t y tk bk pk ak mk yk = false := by simp [sealTag, ho]
    have hu : sealTy y tk bk pk ak mk yk = y := by simp [sealTy, ho]
    rw [ht, hu]
    clear ho ht hu
    go_enter Tryd.func29, Tryd.ntmps29
    go_wp2_with fail
    refine (clear_any _ _ _ _ _ _ _).mono ?_
    rintro e w1 ⟨rfl, hk1⟩
    have B0_1 : Box w1 w.heap.size #[.bool t, .int .u32 b, .int .u32 p, .int .u32 a, .int .u16 m, .int .u16 y] := (((Box.new _ _ _).alloc _).alloc _).keep hk1
    have B1_1 : Box w1 (w.heap.size + 1) #[.bool tk, .int .u32 bk, .int .u32 pk, .int .u32 ak, .int .u16 mk, .int .u16 yk] := ((Box.new1 _ _ _ _).alloc _).keep hk1
    have B2_1 : Box w1 (w.heap.size + 2) #[.bool false, .int .u32 0, .int .u32 0, .int .u32 0, .int .u16 0, .int .u16 0] := (Box.new2 _ _ _ _ _).keep hk1
    have c0 := B0_1.cells
    have f0 := B0_1.thawed
    have c1 := B1_1.cells
    have f1 := B1_1.thawed
    have c2 := B2_1.cells
    have f2 := B2_1.thawed
    go_wp2_with fail
    refine bodyPost_ret (v := .agg #[.bool false, .int .u32 b, .int .u32 p, .int .u32 a, .int .u16 m, .int .u16 y]) (by simp [results, Tryd.results29, go_sem, c2]) rfl ⟨rfl, ?_⟩
    repeat (with_reducible refine Keep.setCell ?_ (by simp <;> omega) _)
    exact (((((Keep.refl _).alloc _).alloc _).alloc _).trans hk1)

theorem unseal_any (t : Bool) (b p a m y : Int) (tk : Bool) (bk pk ak mk yk : Int) (hb : 0 ≤ b ∧ b ≤ 4294967295) (hp : 0 ≤ p ∧ p ≤ 4294967295) (ha : 0 ≤ a ∧ a ≤ 4294967295) (hm : 0 ≤ m ∧ m ≤ 65535) (hy : 0 ≤ y ∧ y ≤ 65535) (hbk : 0 ≤ bk ∧ bk ≤ 4294967295) (hpk : 0 ≤ pk ∧ pk ≤ 4294967295) (hak : 0 ≤ ak ∧ ak ≤ 4294967295) (w : World) :
    Calls Tryd.prog 31 #[.agg #[.bool t, .int .u32 b, .int .u32 p, .int .u32 a, .int .u16 m, .int .u16 y], .agg #[.bool tk, .int .u32 bk, .int .u32 pk, .int .u32 ak, .int .u16 mk, .int .u16 yk]] w fun e w' => e = .returned (.agg #[.bool (openTag t y tk bk pk ak mk yk), .int .u32 b, .int .u32 p, .int .u32 a, .int .u16 m, .int .u16 (openTy y tk bk pk ak mk yk)]) ∧ Keep w w' := by
  obtain ⟨y0, y1⟩ := hy
  obtain ⟨k0, k1⟩ := hak
  rcases Bool.eq_false_or_eq_true (decide (2 ≤ y)) with d0 | d0
  · skip
    rcases Bool.eq_false_or_eq_true (y == ak) with d1 | d1
    · skip
      rcases Bool.eq_false_or_eq_true (meetsB tk bk pk ak mk yk 1 64) with d2 | d2
      · skip
        have ho : openOk y tk bk pk ak mk yk = true := by simp [openOk, *]
        have ht : openTag t y tk bk pk ak mk yk = t := by simp [openTag, ho]
        have hu : openTy y tk bk pk ak mk yk = 0 := by simp [openTy, ho]
        rw [ht, hu]
        clear ho ht hu
        go_enter Tryd.func31, Tryd.ntmps31
        go_wp2_with fail
        refine (meets0 _ _ _ _ _ _ 1 64 hbk hpk ⟨k0, k1⟩ (by omega) _).mono ?_
        rintro e w1 ⟨rfl, hk1⟩
        have B0_1 : Box w1 w.heap.size #[.bool t, .int .u32 b, .int .u32 p, .int .u32 a, .int .u16 m, .int .u16 y] := (((Box.new _ _ _).alloc _).alloc _).keep hk1
        have B1_1 : Box w1 (w.heap.size + 1) #[.bool tk, .int .u32 bk, .int .u32 pk, .int .u32 ak, .int .u16 mk, .int .u16 yk] := ((Box.new1 _ _ _ _).alloc _).keep hk1
        have B2_1 : Box w1 (w.heap.size + 2) #[.bool false, .int .u32 0, .int .u32 0, .int .u32 0, .int .u16 0, .int .u16 0] := (Box.new2 _ _ _ _ _).keep hk1
        have c0 := B0_1.cells
        have f0 := B0_1.thawed
        have c1 := B1_1.cells
        have f1 := B1_1.thawed
        have c2 := B2_1.cells
        have f2 := B2_1.thawed
        go_wp2_with fail
        refine bodyPost_ret (v := .agg #[.bool t, .int .u32 b, .int .u32 p, .int .u32 a, .int .u16 m, .int .u16 0]) (by simp [results, Tryd.results31, go_sem, c2]) rfl ⟨rfl, ?_⟩
        repeat (with_reducible refine Keep.setCell ?_ (by simp <;> omega) _)
        exact (((((Keep.refl _).alloc _).alloc _).alloc _).trans hk1)
      · skip
        have ho : openOk y tk bk pk ak mk yk = false := by simp [openOk, *]
        have ht : openTag t y tk bk pk ak mk yk = false := by simp [openTag, ho]
        have hu : openTy y tk bk pk ak mk yk = y := by simp [openTy, ho]
        rw [ht, hu]
        clear ho ht hu
        go_enter Tryd.func31, Tryd.ntmps31
        go_wp2_with fail
        refine (meets0 _ _ _ _ _ _ 1 64 hbk hpk ⟨k0, k1⟩ (by omega) _).mono ?_
        rintro e w1 ⟨rfl, hk1⟩
        have B0_1 : Box w1 w.heap.size #[.bool t, .int .u32 b, .int .u32 p, .int .u32 a, .int .u16 m, .int .u16 y] := (((Box.new _ _ _).alloc _).alloc _).keep hk1
        have B1_1 : Box w1 (w.heap.size + 1) #[.bool tk, .int .u32 bk, .int .u32 pk, .int .u32 ak, .int .u16 mk, .int .u16 yk] := ((Box.new1 _ _ _ _).alloc _).keep hk1
        have B2_1 : Box w1 (w.heap.size + 2) #[.bool false, .int .u32 0, .int .u32 0, .int .u32 0, .int .u16 0, .int .u16 0] := (Box.new2 _ _ _ _ _).keep hk1
        have c0 := B0_1.cells
        have f0 := B0_1.thawed
        have c1 := B1_1.cells
        have f1 := B1_1.thawed
        have c2 := B2_1.cells
        have f2 := B2_1.thawed
        go_wp2_with fail
        refine (clear_any _ _ _ _ _ _ _).mono ?_
        rintro e w2 ⟨rfl, hk2⟩
        have B0_2 : Box w2 w.heap.size #[.bool t, .int .u32 b, .int .u32 p, .int .u32 a, .int .u16 m, .int .u16 y] := B0_1.keep hk2
        have B1_2 : Box w2 (w.heap.size + 1) #[.bool tk, .int .u32 bk, .int .u32 pk, .int .u32 ak, .int .u16 mk, .int .u16 yk] := B1_1.keep hk2
        have B2_2 : Box w2 (w.heap.size + 2) #[.bool false, .int .u32 0, .int .u32 0, .int .u32 0, .int .u16 0, .int .u16 0] := B2_1.keep hk2
        clear c0 f0 c1 f1 c2 f2
        have c0 := B0_2.cells
        have f0 := B0_2.thawed
        have c1 := B1_2.cells
        have f1 := B1_2.thawed
        have c2 := B2_2.cells
        have f2 := B2_2.thawed
        go_wp2_with fail
        refine bodyPost_ret (v := .agg #[.bool false, .int .u32 b, .int .u32 p, .int .u32 a, .int .u16 m, .int .u16 y]) (by simp [results, Tryd.results31, go_sem, c2]) rfl ⟨rfl, ?_⟩
        repeat (with_reducible refine Keep.setCell ?_ (by simp <;> omega) _)
        exact ((((((Keep.refl _).alloc _).alloc _).alloc _).trans hk1).trans hk2)
    · skip
      have ho : openOk y tk bk pk ak mk yk = false := by simp [openOk, *]
      have ht : openTag t y tk bk pk ak mk yk = false := by simp [openTag, ho]
      have hu : openTy y tk bk pk ak mk yk = y := by simp [openTy, ho]
      rw [ht, hu]
      clear ho ht hu
      go_enter Tryd.func31, Tryd.ntmps31
      go_wp2_with fail
      refine (clear_any _ _ _ _ _ _ _).mono ?_
      rintro e w1 ⟨rfl, hk1⟩
      have B0_1 : Box w1 w.heap.size #[.bool t, .int .u32 b, .int .u32 p, .int .u32 a, .int .u16 m, .int .u16 y] := (((Box.new _ _ _).alloc _).alloc _).keep hk1
      have B1_1 : Box w1 (w.heap.size + 1) #[.bool tk, .int .u32 bk, .int .u32 pk, .int .u32 ak, .int .u16 mk, .int .u16 yk] := ((Box.new1 _ _ _ _).alloc _).keep hk1
      have B2_1 : Box w1 (w.heap.size + 2) #[.bool false, .int .u32 0, .int .u32 0, .int .u32 0, .int .u16 0, .int .u16 0] := (Box.new2 _ _ _ _ _).keep hk1
      have c0 := B0_1.cells
      have f0 := B0_1.thawed
      have c1 := B1_1.cells
      have f1 := B1_1.thawed
      have c2 := B2_1.cells
      have f2 := B2_1.thawed
      go_wp2_with fail
      refine bodyPost_ret (v := .agg #[.bool false, .int .u32 b, .int .u32 p, .int .u32 a, .int .u16 m, .int .u16 y]) (by simp [results, Tryd.results31, go_sem, c2]) rfl ⟨rfl, ?_⟩
      repeat (with_reducible refine Keep.setCell ?_ (by simp <;> omega) _)
      exact (((((Keep.refl _).alloc _).alloc _).alloc _).trans hk1)
  · skip
    have ho : openOk y tk bk pk ak mk yk = false := by simp [openOk, *]
    have ht : openTag t y tk bk pk ak mk yk = false := by simp [openTag, ho]
    have hu : openTy y tk bk pk ak mk yk = y := by simp [openTy, ho]
    rw [ht, hu]
    clear ho ht hu
    go_enter Tryd.func31, Tryd.ntmps31
    go_wp2_with fail
    refine (clear_any _ _ _ _ _ _ _).mono ?_
    rintro e w1 ⟨rfl, hk1⟩
    have B0_1 : Box w1 w.heap.size #[.bool t, .int .u32 b, .int .u32 p, .int .u32 a, .int .u16 m, .int .u16 y] := (((Box.new _ _ _).alloc _).alloc _).keep hk1
    have B1_1 : Box w1 (w.heap.size + 1) #[.bool tk, .int .u32 bk, .int .u32 pk, .int .u32 ak, .int .u16 mk, .int .u16 yk] := ((Box.new1 _ _ _ _).alloc _).keep hk1
    have B2_1 : Box w1 (w.heap.size + 2) #[.bool false, .int .u32 0, .int .u32 0, .int .u32 0, .int .u16 0, .int .u16 0] := (Box.new2 _ _ _ _ _).keep hk1
    have c0 := B0_1.cells
    have f0 := B0_1.thawed
    have c1 := B1_1.cells
    have f1 := B1_1.thawed
    have c2 := B2_1.cells
    have f2 := B2_1.thawed
    go_wp2_with fail
    refine bodyPost_ret (v := .agg #[.bool false, .int .u32 b, .int .u32 p, .int .u32 a, .int .u16 m, .int .u16 y]) (by simp [results, Tryd.results31, go_sem, c2]) rfl ⟨rfl, ?_⟩
    repeat (with_reducible refine Keep.setCell ?_ (by simp <;> omega) _)
    exact (((((Keep.refl _).alloc _).alloc _).alloc _).trans hk1)

end Go.Proofs.YtbeeomdpdmmllaaDoor
