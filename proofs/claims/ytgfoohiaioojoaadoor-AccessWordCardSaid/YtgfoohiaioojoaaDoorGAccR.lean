/- AccRef, AccRefN, AccRefW, AccRefC: The reference's CheckAccess. -/
import Derived.Test.YtgfoohiaioojoaaDoorGAccA
import Derived.Test.YtgfoohiaioojoaaDoorGAccB
import Derived.Test.YtgfoohiaioojoaaDoorGAccD
/- The reference's CheckAccess. -/
namespace Go.Proofs.YtgfoohiaioojoaaDoor
set_option linter.unusedVariables false
set_option linter.unusedSimpArgs false
open Go.RowKit
theorem rcheck_any (t : Bool) (b p a m y x n q : Int) (hb : 0 ≤ b ∧ b ≤ 4294967295) (hp : 0 ≤ p ∧ p ≤ 4294967295) (hx : 0 ≤ x ∧ x ≤ 4294967295) (hn : 0 ≤ n ∧ n ≤ 4294967295) (w : World) :
    Calls Tryd.prog 12 #[.agg #[.bool t, .int .u32 b, .int .u32 p, .int .u32 a, .int .u16 m, .int .u16 y], .int .u32 x, .int .u32 n, .int .u16 q] w fun e w' => e = .returned (errV accessT x (lackN t b p m y x n q)) ∧ Keep w w' := by
  unfold lackN
  obtain ⟨x0, x1⟩ := hx
  obtain ⟨n0, n1⟩ := hn
  have eW : ∀ k, ¬ k = 0 → errV accessT x k = .agg #[.string ⟨#[97, 99, 99, 101, 115, 115]⟩, .int .i64 x, .int .i64 k] := fun k h => if_neg h
  have eO : errV accessT x 0 = .agg #[.string ⟨#[]⟩, .int .i64 0, .int .i64 0] := if_pos rfl
  cases t
  · rw [if_pos rfl, eW 1 (by decide)]
    clear eW eO
    go_enter Tryd.func12, Tryd.ntmps12
    go_wp2_with fail
    refine bodyPost_ret (v := .agg #[.string ⟨#[97, 99, 99, 101, 115, 115]⟩, .int .i64 x, .int .i64 1]) (by simp [results, Tryd.results12, go_sem]; done) rfl ⟨rfl, ?_⟩
    repeat (with_reducible refine Keep.setCell ?_ (by simp) _)
    exact ((Keep.refl _).alloc _).alloc _
  rw [if_neg (by decide)]
  rcases Bool.eq_false_or_eq_true (y == 0) with d0 | d0 <;> rw [d0]
  rotate_left
  · rw [if_pos rfl, eW 2 (by decide)]
    clear eW eO
    go_enter Tryd.func12, Tryd.ntmps12
    go_wp2_with fail
    refine bodyPost_ret (v := .agg #[.string ⟨#[97, 99, 99, 101, 115, 115]⟩, .int .i64 x, .int .i64 2]) (by simp [results, Tryd.results12, go_sem]; done) rfl ⟨rfl, ?_⟩
    repeat (with_reducible refine Keep.setCell ?_ (by simp) _)
    exact ((Keep.refl _).alloc _).alloc _
  rw [if_neg (by decide)]
  rcases Bool.eq_false_or_eq_true (bits .and .u16 m q == q) with d1 | d1 <;> rw [d1]
  rotate_left
  · rw [if_pos rfl, eW 3 (by decide)]
    clear eW eO
    go_enter Tryd.func12, Tryd.ntmps12
    go_wp2_with fail
    refine bodyPost_ret (v := .agg #[.string ⟨#[97, 99, 99, 101, 115, 115]⟩, .int .i64 x, .int .i64 3]) (by simp [results, Tryd.results12, go_sem]; done) rfl ⟨rfl, ?_⟩
    repeat (with_reducible refine Keep.setCell ?_ (by simp) _)
    exact ((Keep.refl _).alloc _).alloc _
  rw [if_neg (by decide)]
  rcases Bool.eq_false_or_eq_true (hasB b p x n) with d2 | d2
  rotate_left
  · rw [d2, if_pos rfl, eW 4 (by decide)]
    clear eW eO
    go_enter Tryd.func12, Tryd.ntmps12
    go_wp2_with fail
    refine (rhas_any _ _ _ _ _ _ x n hb hp ⟨x0, x1⟩ ⟨n0, n1⟩ _).mono ?_
    rintro e w1 ⟨rfl, hk1⟩
    rw [d2]
    have B1 : Box w1 (w.heap.size + 1) #[.string ⟨#[]⟩, .int .i64 0, .int .i64 0] := (Box.new1 _ _ _ _).keep hk1
    have c1 := B1.cells
    have f1 := B1.thawed
    have l1 := B1.lt
    have HK : Hid (Keep w w1) := Lib.hid ((((Keep.refl _).alloc _).alloc _).trans hk1)
    clear hk1
    go_wp2_with fail
    refine bodyPost_ret (v := .agg #[.string ⟨#[97, 99, 99, 101, 115, 115]⟩, .int .i64 x, .int .i64 4]) (by simp [results, Tryd.results12, go_sem, c1]; done) rfl ⟨rfl, ?_⟩
    repeat (with_reducible refine Keep.setCell ?_ (by simp) _)
    exact HK.out
  rw [if_neg (by rw [d2]; decide)]
  by_cases c : 0 < n
  · by_cases c2 : x % n = 0
    · rw [if_neg (fun h => h.2 c2), eO]
      clear eW eO
      have c3 : (x.tmod n == 0) = true := by rw [beq_iff_eq, Int.tmod_eq_emod_of_nonneg x0]; exact c2
      go_enter Tryd.func12, Tryd.ntmps12
      go_wp2_with fail
      refine (rhas_any _ _ _ _ _ _ x n hb hp ⟨x0, x1⟩ ⟨n0, n1⟩ _).mono ?_
      rintro e w1 ⟨rfl, hk1⟩
      rw [d2]
      have B1 : Box w1 (w.heap.size + 1) #[.string ⟨#[]⟩, .int .i64 0, .int .i64 0] := (Box.new1 _ _ _ _).keep hk1
      have c1 := B1.cells
      have f1 := B1.thawed
      have l1 := B1.lt
      have HK : Hid (Keep w w1) := Lib.hid ((((Keep.refl _).alloc _).alloc _).trans hk1)
      clear hk1
      go_wp2_with fail
      refine bodyPost_ret (v := .agg #[.string ⟨#[]⟩, .int .i64 0, .int .i64 0]) (by simp [results, Tryd.results12, go_sem, c1]; done) rfl ⟨rfl, ?_⟩
      repeat (with_reducible refine Keep.setCell ?_ (by simp) _)
      exact HK.out
    · rw [if_pos ⟨c, c2⟩, eW 5 (by decide)]
      clear eW eO
      have c3 : (x.tmod n == 0) = false := by rw [beq_eq_false_iff_ne, Int.tmod_eq_emod_of_nonneg x0]; exact c2
      go_enter Tryd.func12, Tryd.ntmps12
      go_wp2_with fail
      refine (rhas_any _ _ _ _ _ _ x n hb hp ⟨x0, x1⟩ ⟨n0, n1⟩ _).mono ?_
      rintro e w1 ⟨rfl, hk1⟩
      rw [d2]
      have B1 : Box w1 (w.heap.size + 1) #[.string ⟨#[]⟩, .int .i64 0, .int .i64 0] := (Box.new1 _ _ _ _).keep hk1
      have c1 := B1.cells
      have f1 := B1.thawed
      have l1 := B1.lt
      have HK : Hid (Keep w w1) := Lib.hid ((((Keep.refl _).alloc _).alloc _).trans hk1)
      clear hk1
      go_wp2_with fail
      refine bodyPost_ret (v := .agg #[.string ⟨#[97, 99, 99, 101, 115, 115]⟩, .int .i64 x, .int .i64 5]) (by simp [results, Tryd.results12, go_sem, c1]; done) rfl ⟨rfl, ?_⟩
      repeat (with_reducible refine Keep.setCell ?_ (by simp) _)
      exact HK.out
  · rw [if_neg (fun h => c h.1), eO]
    clear eW eO
    go_enter Tryd.func12, Tryd.ntmps12
    go_wp2_with fail
    refine (rhas_any _ _ _ _ _ _ x n hb hp ⟨x0, x1⟩ ⟨n0, n1⟩ _).mono ?_
    rintro e w1 ⟨rfl, hk1⟩
    rw [d2]
    have B1 : Box w1 (w.heap.size + 1) #[.string ⟨#[]⟩, .int .i64 0, .int .i64 0] := (Box.new1 _ _ _ _).keep hk1
    have c1 := B1.cells
    have f1 := B1.thawed
    have l1 := B1.lt
    have HK : Hid (Keep w w1) := Lib.hid ((((Keep.refl _).alloc _).alloc _).trans hk1)
    clear hk1
    go_wp2_with fail
    refine bodyPost_ret (v := .agg #[.string ⟨#[]⟩, .int .i64 0, .int .i64 0]) (by simp [results, Tryd.results12, go_sem, c1]; done) rfl ⟨rfl, ?_⟩
    repeat (with_reducible refine Keep.setCell ?_ (by simp) _)
    exact HK.out
end Go.Proofs.YtgfoohiaioojoaaDoor

/- The reference's Read, Write. -/
namespace Go.Proofs.YtgfoohiaioojoaaDoor
set_option linter.unusedVariables false
set_option linter.unusedSimpArgs false
open Go.RowKit
section
variable {w : World} {P gb gt cb ct : Nat} {bs : List Int} {ts : List Bool}
theorem rWord_lies (v : Value) (xs : List Int) (S : Nat → Prop) (hx : ∀ z ∈ xs, IsByte z) (hl : xs.length = 1 ∨ xs.length = 2 ∨ xs.length = 4) (w : World) (h : Lies w v xs S) :
    Calls Tryd.prog 50 #[v] w fun e w' => e = .returned (.int .u32 (leW xs)) ∧ w = w' := by
  obtain ⟨ad, cs, rfl, h1, h2, h3⟩ := h
  obtain ⟨b, off, rfl, -, -, -⟩ := h3 0 (by omega)
  refine rWord_any b off cs xs hx (by omega) h1 h2 w (fun j hj => ?_)
  obtain ⟨b', off', e, -, -, hc⟩ := h3 j hj
  simp only [Option.some.injEq, Addr.mk.injEq, and_true] at e
  obtain ⟨rfl, rfl⟩ := e
  exact hc

set_option maxHeartbeats 1000000 in
theorem rread_size (t : Bool) (b p a m y off n : Int) (sign : Bool) (hb : 0 ≤ b ∧ b ≤ 4294967295) (hp : 0 ≤ p ∧ p ≤ 4294967295) (ha : 0 ≤ a ∧ a ≤ 4294967295) (ho : -2147483648 ≤ off ∧ off ≤ 2147483647) (hn : In64 n) (hs : sizeN n = 7) :
    Calls Tryd.prog 16 #[.pointer (some ⟨P, 0, none⟩), .agg #[.bool t, .int .u32 b, .int .u32 p, .int .u32 a, .int .u16 m, .int .u16 y], .int .i32 off, .int .i64 n, .bool sign] w fun e w' => e = .returned (.tuple #[.int .u32 0, wrongV sizeT n 7]) ∧ Keep w w' := by
  have C := Lib.hid (fun W => rsized_any n hn W)
  rw [hs, errV_not (by decide)] at C
  unfold wrongV sizeT at C ⊢
  unfold In64 at hn
  clear hs
  go_enter Tryd.func16, Tryd.ntmps16
  go_wp2_with fail
  refine (C.out _).mono ?_
  rintro e w1 ⟨rfl, hk1⟩
  have B1 : Box w1 (w.heap.size + 1) #[.string ⟨#[]⟩, .int .i64 0, .int .i64 0] := (Box.new1 _ _ _ _).keep hk1
  have K1 : Hid (Keep w w1) := Lib.hid ((((Keep.refl _).alloc _).alloc _).trans hk1)
  have l1 := B1.lt
  have s1 := K1.out.size
  clear hk1 C
  go_wp2_with fail
  refine region_grows_tail 2 (Keep _) (by kernel_rfl) (by kernel_rfl) (Keep.refl _).drew ?_
  simp only [List.take_succ_cons, List.take_zero, List.drop_succ_cons, List.drop_zero]
  repeat (first
    | (apply text_step (by rfl)
       · intro W hW
         have c1 := ((Box.new _ _ _).keep hW).cells
         go_simp
         exact ⟨rfl, hW⟩
       go_simp))
  apply text_end
  intro W hW
  have B2 := (B1.alloc (.cells #[.string ⟨#[115, 105, 122, 101]⟩, .int .i64 n, .int .i64 7] 32)).keep hW
  have r1 := B2.cells
  have rf := B2.thawed
  have KW : Hid (Keep w W) := Lib.hid ((K1.out.alloc _).trans hW)
  go_wp2_with fail
  refine bodyPost_ret (v := .tuple #[.int .u32 0, .agg #[.string ⟨#[115, 105, 122, 101]⟩, .int .i64 n, .int .i64 7]]) (by simp [results, Tryd.results16, go_sem, r1]; done) rfl ⟨rfl, ?_⟩
  repeat (first | with_reducible refine Keep.alloc ?_ _ | with_reducible refine Keep.drew ?_ | (with_reducible refine Keep.setAt ?_ ?_ _; · first | omega | (simp; done) | (simp; omega)))
  exact KW.out

set_option maxHeartbeats 1000000 in
theorem rread_lack (t : Bool) (b p a m y off n : Int) (sign : Bool) (hb : 0 ≤ b ∧ b ≤ 4294967295) (hp : 0 ≤ p ∧ p ≤ 4294967295) (ha : 0 ≤ a ∧ a ≤ 4294967295) (ho : -2147483648 ≤ off ∧ off ≤ 2147483647) (hn : n = 1 ∨ n = 2 ∨ n = 4) (k : Int) (hk : lackN t b p m y (plc a off) n 1 = k) (h0 : ¬ k = 0) :
    Calls Tryd.prog 16 #[.pointer (some ⟨P, 0, none⟩), .agg #[.bool t, .int .u32 b, .int .u32 p, .int .u32 a, .int .u16 m, .int .u16 y], .int .i32 off, .int .i64 n, .bool sign] w fun e w' => e = .returned (.tuple #[.int .u32 0, wrongV accessT (plc a off) k]) ∧ Keep w w' := by
  have HN : Hid (In64 n) := Lib.hid (by unfold In64; omega)
  have hs : sizeN n = 0 := if_pos hn
  have C := Lib.hid (fun W => rsized_any n HN.out W)
  have CC := Lib.hid (fun W => rcheck_any t b p a m y (plc a off) n 1 hb hp (plc_in _ _) (by omega) W)
  have e1 : (a + off % 4294967296) % 4294967296 = plc a off := by unfold plc; omega
  have e2 : (a + off) % 4294967296 = plc a off := rfl
  rw [hs, errV_zero] at C
  rw [hk, errV_not h0] at CC
  have hx := plc_in a off
  obtain ⟨x, hx'⟩ : ∃ x, x = plc a off := ⟨_, rfl⟩
  rw [← hx'] at CC e1 e2 hx ⊢
  unfold wrongV accessT at CC ⊢
  unfold okV wrongV at C
  have n4 : 1 ≤ n ∧ n ≤ 4 := by omega
  have hk0 : (k == 0) = false := by simpa using h0
  clear hs hk hx' hn
  go_enter Tryd.func16, Tryd.ntmps16
  go_wp2_with fail
  refine (C.out _).mono ?_
  rintro e w1 ⟨rfl, hk1⟩
  have B0 : Box w1 w.heap.size #[.bool t, .int .u32 b, .int .u32 p, .int .u32 a, .int .u16 m, .int .u16 y] := ((Box.new _ _ _).alloc _).keep hk1
  have B1 : Box w1 (w.heap.size + 1) #[.string ⟨#[]⟩, .int .i64 0, .int .i64 0] := (Box.new1 _ _ _ _).keep hk1
  have K1 : Hid (Keep w w1) := Lib.hid ((((Keep.refl _).alloc _).alloc _).trans hk1)
  have l0 := B0.lt
  have l1 := B1.lt
  have s1 := K1.out.size
  have c0 := B0.cells
  have n12 : w.heap.size + 1 ≠ w1.heap.size := by omega
  clear hk1 C
  go_wp2_with fail
  refine (CC.out _).mono ?_
  rintro e w2 ⟨rfl, hk2⟩
  have B02 := (B0.alloc (.cells #[.string ⟨#[]⟩, .int .i64 0, .int .i64 0] 32)).keep hk2
  have B12 := (B1.alloc (.cells #[.string ⟨#[]⟩, .int .i64 0, .int .i64 0] 32)).keep hk2
  have B2 : Box w2 w1.heap.size #[.string ⟨#[]⟩, .int .i64 0, .int .i64 0] := (Box.new _ _ _).keep hk2
  have K2 : Hid (Keep w w2) := Lib.hid ((K1.out.alloc _).trans hk2)
  have s2 := K2.out.size
  have l2 := B2.lt
  have l12 := B12.lt
  have c2 := B2.cells
  have f2 := B2.thawed
  clear hk2 CC c0 l0 l1 B0 B1
  go_wp2_with fail
  have B3 : Box (((w2.setCell ⟨w1.heap.size, 0, none⟩ (.string ⟨#[97, 99, 99, 101, 115, 115]⟩)).setCell ⟨w1.heap.size, 1, none⟩ (.int .i64 x)).setCell ⟨w1.heap.size, 2, none⟩ (.int .i64 k)) w1.heap.size #[.string ⟨#[97, 99, 99, 101, 115, 115]⟩, .int .i64 x, .int .i64 k] := by simpa using ((B2.set 0 (.string ⟨#[97, 99, 99, 101, 115, 115]⟩)).set 1 (.int .i64 x)).set 2 (.int .i64 k)
  have B13 : Box (((w2.setCell ⟨w1.heap.size, 0, none⟩ (.string ⟨#[97, 99, 99, 101, 115, 115]⟩)).setCell ⟨w1.heap.size, 1, none⟩ (.int .i64 x)).setCell ⟨w1.heap.size, 2, none⟩ (.int .i64 k)) (w.heap.size + 1) #[.string ⟨#[]⟩, .int .i64 0, .int .i64 0] := ((B12.other (a := ⟨w1.heap.size, 0, none⟩) n12 _).other (a := ⟨w1.heap.size, 1, none⟩) n12 _).other (a := ⟨w1.heap.size, 2, none⟩) n12 _
  refine region_grows_tail 2 (Keep _) (by kernel_rfl) (by kernel_rfl) (Keep.refl _).drew ?_
  simp only [List.take_succ_cons, List.take_zero, List.drop_succ_cons, List.drop_zero]
  repeat (first
    | (apply text_step (by rfl)
       · intro W hW
         have c1 := (B3.keep hW).cells
         go_simp
         exact ⟨rfl, hW⟩
       go_simp))
  apply text_end
  intro W hW
  have B4 := B13.keep hW
  have r1 := B4.cells
  have rf := B4.thawed
  have KW : Hid (Keep w W) := Lib.hid (Keep.trans (Keep.setAt (by omega) (Keep.setAt (by omega) (Keep.setAt (by omega) K2.out _) _) _) hW)
  go_wp2_with fail
  refine bodyPost_ret (v := .tuple #[.int .u32 0, .agg #[.string ⟨#[97, 99, 99, 101, 115, 115]⟩, .int .i64 x, .int .i64 k]]) (by simp [results, Tryd.results16, go_sem, r1]; done) rfl ⟨rfl, ?_⟩
  repeat (first | with_reducible refine Keep.alloc ?_ _ | with_reducible refine Keep.drew ?_ | (with_reducible refine Keep.setAt ?_ ?_ _; · first | omega | (simp; done) | (simp; omega)))
  exact KW.out

set_option maxHeartbeats 1000000 in
theorem rread_far (t : Bool) (b p a m y off n : Int) (sign : Bool) (hb : 0 ≤ b ∧ b ≤ 4294967295) (hp : 0 ≤ p ∧ p ≤ 4294967295) (ha : 0 ≤ a ∧ a ≤ 4294967295) (ho : -2147483648 ≤ off ∧ off ≤ 2147483647) (hn : n = 1 ∨ n = 2 ∨ n = 4) (hk : lackN t b p m y (plc a off) n 1 = 0) (hr : reachB (plc a off) n bs.length = false) (h : RMem w P gb gt cb ct bs ts) :
    Calls Tryd.prog 16 #[.pointer (some ⟨P, 0, none⟩), .agg #[.bool t, .int .u32 b, .int .u32 p, .int .u32 a, .int .u16 m, .int .u16 y], .int .i32 off, .int .i64 n, .bool sign] w fun e w' => e = .returned (.tuple #[.int .u32 0, rangeV (plc a off)]) ∧ Keep w w' := by
  have HN : Hid (In64 n) := Lib.hid (by unfold In64; omega)
  have hs : sizeN n = 0 := if_pos hn
  have C := Lib.hid (fun W => rsized_any n HN.out W)
  have CC := Lib.hid (fun W => rcheck_any t b p a m y (plc a off) n 1 hb hp (plc_in _ _) (by omega) W)
  have e1 : (a + off % 4294967296) % 4294967296 = plc a off := by unfold plc; omega
  have e2 : (a + off) % 4294967296 = plc a off := rfl
  rw [hs, errV_zero] at C
  rw [hk, errV_zero] at CC
  have hx := plc_in a off
  have CL := Lib.hid (fun W (k : Keep w W) => rload_u P gb gt cb ct bs ts (plc a off) n (by unfold In64; omega) (by unfold In64; omega) W (h.keep k))
  have hI := h.isB
  obtain ⟨x, hx'⟩ : ∃ x, x = plc a off := ⟨_, rfl⟩
  rw [← hx'] at CC CL e1 e2 hx hr ⊢
  unfold okV wrongV at CC C
  have n4 : 1 ≤ n ∧ n ≤ 4 := by omega
  obtain ⟨x0, x1⟩ := hx
  have eL : loadV bs.length x n = rangeV x := by unfold loadV; rw [hr]; rfl
  rw [eL] at CL
  unfold rangeV wrongV at CL ⊢
  clear hs hk hx' hn hI eL hr h
  go_enter Tryd.func16, Tryd.ntmps16
  go_wp2_with fail
  refine (C.out _).mono ?_
  rintro e w1 ⟨rfl, hk1⟩
  have B0 : Box w1 w.heap.size #[.bool t, .int .u32 b, .int .u32 p, .int .u32 a, .int .u16 m, .int .u16 y] := ((Box.new _ _ _).alloc _).keep hk1
  have B1 : Box w1 (w.heap.size + 1) #[.string ⟨#[]⟩, .int .i64 0, .int .i64 0] := (Box.new1 _ _ _ _).keep hk1
  have K1 : Hid (Keep w w1) := Lib.hid ((((Keep.refl _).alloc _).alloc _).trans hk1)
  have l0 := B0.lt
  have l1 := B1.lt
  have s1 := K1.out.size
  have c0 := B0.cells
  have n12 : w.heap.size + 1 ≠ w1.heap.size := by omega
  clear hk1 C
  go_wp2_with fail
  refine (CC.out _).mono ?_
  rintro e w2 ⟨rfl, hk2⟩
  have B02 := (B0.alloc (.cells #[.string ⟨#[]⟩, .int .i64 0, .int .i64 0] 32)).keep hk2
  have B12 := (B1.alloc (.cells #[.string ⟨#[]⟩, .int .i64 0, .int .i64 0] 32)).keep hk2
  have B2 : Box w2 w1.heap.size #[.string ⟨#[]⟩, .int .i64 0, .int .i64 0] := (Box.new _ _ _).keep hk2
  have K2 : Hid (Keep w w2) := Lib.hid ((K1.out.alloc _).trans hk2)
  have s2 := K2.out.size
  have l2 := B2.lt
  have l12 := B12.lt
  have c2 := B2.cells
  have f2 := B2.thawed
  clear hk2 CC c0 l0 l1 B0 B1
  go_wp2_with fail
  have B3 := B2.set3 (.string ⟨#[]⟩) (.int .i64 0) (.int .i64 0)
  have B13 := B12.other3 n12 (.string ⟨#[]⟩) (.int .i64 0) (.int .i64 0)
  have K3 := Lib.hid (K2.out.set3 (show w.heap.size ≤ w1.heap.size by omega) (.string ⟨#[]⟩) (.int .i64 0) (.int .i64 0))
  clear K2 B2 B12 B02 c2 f2
  refine (CL.out _ K3.out).mono ?_
  rintro e w4 ⟨s, rfl, hs, hk4⟩
  have B34 := B3.keep hk4
  have B14 := B13.keep hk4
  have K4 := Lib.hid (K3.out.trans hk4)
  have HS := Lib.hid hs
  obtain ⟨ad, cs, rfl, -⟩ := hs
  have l4 := B34.lt
  have l14 := B14.lt
  have s4 := K4.out.size
  clear hk4 CL K3 B3 B13 l2 l12
  go_wp2_with fail
  refine region_grows_tail 2 (Keep _) (by kernel_rfl) (by kernel_rfl) (Keep.refl _).drew ?_
  simp only [List.take_succ_cons, List.take_zero, List.drop_succ_cons, List.drop_zero]
  repeat (first
    | (apply text_step (by rfl)
       · intro W hW
         have c1 := ((Box.new _ _ _).keep hW).cells
         go_simp
         exact ⟨rfl, hW⟩
       go_simp))
  apply text_end
  intro W hW
  have B5 := (B14.alloc (.cells #[.string ⟨#[109, 101, 109]⟩, .int .i64 x, .int .i64 6] 32)).keep hW
  have r1 := B5.cells
  have rf := B5.thawed
  have KW : Hid (Keep w W) := Lib.hid ((K4.out.alloc _).trans hW)
  go_wp2_with fail
  refine bodyPost_ret (v := .tuple #[.int .u32 0, .agg #[.string ⟨#[109, 101, 109]⟩, .int .i64 x, .int .i64 6]]) (by simp [results, Tryd.results16, go_sem, r1]; done) rfl ⟨rfl, ?_⟩
  repeat (first | with_reducible refine Keep.alloc ?_ _ | with_reducible refine Keep.drew ?_ | (with_reducible refine Keep.setAt ?_ ?_ _; · first | omega | (simp; done) | (simp; omega)))
  exact KW.out

set_option maxHeartbeats 1000000 in
theorem rread_good (t : Bool) (b p a m y off n : Int) (sign : Bool) (hb : 0 ≤ b ∧ b ≤ 4294967295) (hp : 0 ≤ p ∧ p ≤ 4294967295) (ha : 0 ≤ a ∧ a ≤ 4294967295) (ho : -2147483648 ≤ off ∧ off ≤ 2147483647) (hn : n = 1 ∨ n = 2 ∨ n = 4) (hk : lackN t b p m y (plc a off) n 1 = 0) (hr : reachB (plc a off) n bs.length = true) (h : RMem w P gb gt cb ct bs ts) :
    Calls Tryd.prog 16 #[.pointer (some ⟨P, 0, none⟩), .agg #[.bool t, .int .u32 b, .int .u32 p, .int .u32 a, .int .u16 m, .int .u16 y], .int .i32 off, .int .i64 n, .bool sign] w fun e w' => e = .returned (.tuple #[.int .u32 (if sign = true then sgnVal (readAt bs a off n) (8 * n) else readAt bs a off n), okV]) ∧ Keep w w' := by
  have HN : Hid (In64 n) := Lib.hid (by unfold In64; omega)
  have hs : sizeN n = 0 := if_pos hn
  have hRA : readAt bs a off n = leW ((bs.drop (plc a off).toNat).take n.toNat) := rfl
  rw [hRA]
  have C := Lib.hid (fun W => rsized_any n HN.out W)
  have CC := Lib.hid (fun W => rcheck_any t b p a m y (plc a off) n 1 hb hp (plc_in _ _) (by omega) W)
  have e1 : (a + off % 4294967296) % 4294967296 = plc a off := by unfold plc; omega
  have e2 : (a + off) % 4294967296 = plc a off := rfl
  rw [hs, errV_zero] at C
  rw [hk, errV_zero] at CC
  have hx := plc_in a off
  have CL := Lib.hid (fun W (k : Keep w W) => rload_u P gb gt cb ct bs ts (plc a off) n (by unfold In64; omega) (by unfold In64; omega) W (h.keep k))
  have hI := h.isB
  obtain ⟨x, hx'⟩ : ∃ x, x = plc a off := ⟨_, rfl⟩
  rw [← hx'] at CC CL e1 e2 hx hr ⊢
  unfold okV wrongV at CC C
  have n4 : 1 ≤ n ∧ n ≤ 4 := by omega
  obtain ⟨x0, x1⟩ := hx
  have eL : loadV bs.length x n = okV := by unfold loadV; rw [hr]; rfl
  have eL2 : loadL bs x n = (bs.drop x.toNat).take n.toNat := by unfold loadL; rw [if_pos hr]
  rw [eL, eL2] at CL
  unfold okV wrongV at CL ⊢
  have hr3 := reachB_true hr
  obtain ⟨xs, hxs⟩ : ∃ xs, xs = (bs.drop x.toNat).take n.toNat := ⟨_, rfl⟩
  have hxl : xs.length = 1 ∨ xs.length = 2 ∨ xs.length = 4 := by
    rw [hxs]
    simp only [List.length_take, List.length_drop]
    omega
  have hxb : ∀ z ∈ xs, IsByte z := fun z hz => hI z (by rw [hxs] at hz; exact List.mem_of_mem_drop (List.mem_of_mem_take hz))
  rw [← hxs] at CL ⊢
  have hin := leW_in xs hxb
  have CW := Lib.hid (fun v S W hl => rWord_lies v xs S hxb hxl W hl)
  obtain ⟨z, hz⟩ : ∃ z, z = leW xs := ⟨_, rfl⟩
  rw [← hz] at hin CW ⊢
  obtain ⟨z0, z1⟩ := hin
  clear hs hk hx' hn hI eL eL2 hr h hr3 hxs hxl hxb hz hRA
  go_enter Tryd.func16, Tryd.ntmps16
  go_wp2_with fail
  refine (C.out _).mono ?_
  rintro e w1 ⟨rfl, hk1⟩
  have B0 : Box w1 w.heap.size #[.bool t, .int .u32 b, .int .u32 p, .int .u32 a, .int .u16 m, .int .u16 y] := ((Box.new _ _ _).alloc _).keep hk1
  have B1 : Box w1 (w.heap.size + 1) #[.string ⟨#[]⟩, .int .i64 0, .int .i64 0] := (Box.new1 _ _ _ _).keep hk1
  have K1 : Hid (Keep w w1) := Lib.hid ((((Keep.refl _).alloc _).alloc _).trans hk1)
  have l0 := B0.lt
  have l1 := B1.lt
  have s1 := K1.out.size
  have c0 := B0.cells
  have n12 : w.heap.size + 1 ≠ w1.heap.size := by omega
  clear hk1 C
  go_wp2_with fail
  refine (CC.out _).mono ?_
  rintro e w2 ⟨rfl, hk2⟩
  have B02 := (B0.alloc (.cells #[.string ⟨#[]⟩, .int .i64 0, .int .i64 0] 32)).keep hk2
  have B12 := (B1.alloc (.cells #[.string ⟨#[]⟩, .int .i64 0, .int .i64 0] 32)).keep hk2
  have B2 : Box w2 w1.heap.size #[.string ⟨#[]⟩, .int .i64 0, .int .i64 0] := (Box.new _ _ _).keep hk2
  have K2 : Hid (Keep w w2) := Lib.hid ((K1.out.alloc _).trans hk2)
  have s2 := K2.out.size
  have l2 := B2.lt
  have l12 := B12.lt
  have c2 := B2.cells
  have f2 := B2.thawed
  clear hk2 CC c0 l0 l1 B0 B1
  go_wp2_with fail
  have B3 := B2.set3 (.string ⟨#[]⟩) (.int .i64 0) (.int .i64 0)
  have B13 := B12.other3 n12 (.string ⟨#[]⟩) (.int .i64 0) (.int .i64 0)
  have K3 := Lib.hid (K2.out.set3 (show w.heap.size ≤ w1.heap.size by omega) (.string ⟨#[]⟩) (.int .i64 0) (.int .i64 0))
  clear K2 B2 B12 B02 c2 f2
  refine (CL.out _ K3.out).mono ?_
  rintro e w4 ⟨s, rfl, hs, hk4⟩
  have B34 := B3.keep hk4
  have B14 := B13.keep hk4
  have K4 := Lib.hid (K3.out.trans hk4)
  have HS := Lib.hid hs
  obtain ⟨ad, cs, rfl, -⟩ := hs
  have l4 := B34.lt
  have l14 := B14.lt
  have s4 := K4.out.size
  clear hk4 CL K3 B3 B13 l2 l12
  go_wp2_with fail
  refine (CW.out _ _ _ (HS.out.keep ((Keep.refl _).alloc _))).mono ?_
  rintro e w5 ⟨rfl, rfl⟩
  clear CW HS
  have c14 := B14.cells
  have f14 := B14.thawed
  have ne4 : w.heap.size + 1 ≠ w4.heap.size := by omega
  cases sign
  · go_wp2_with fail
    refine bodyPost_ret (v := .tuple #[.int .u32 z, .agg #[.string ⟨#[]⟩, .int .i64 0, .int .i64 0]]) (by simp [results, Tryd.results16, go_sem, c14, l14, ne4]; done) rfl ⟨rfl, ?_⟩
    repeat (first | with_reducible refine Keep.alloc ?_ _ | with_reducible refine Keep.drew ?_ | (with_reducible refine Keep.setAt ?_ ?_ _; · first | omega | (simp; done) | (simp; omega)))
    exact K4.out
  · go_wp2_with fail
    refine (refSigned_any z (8 * n) _ z0 (by omega) (by omega) (by omega)).mono ?_
    rintro e w6 ⟨rfl, rfl⟩
    go_wp2_with fail
    refine bodyPost_ret (v := .tuple #[.int .u32 (sgnVal z (8 * n)), .agg #[.string ⟨#[]⟩, .int .i64 0, .int .i64 0]]) (by simp [results, Tryd.results16, go_sem, c14, l14, ne4]; done) rfl ⟨rfl, ?_⟩
    repeat (first | with_reducible refine Keep.alloc ?_ _ | with_reducible refine Keep.drew ?_ | (with_reducible refine Keep.setAt ?_ ?_ _; · first | omega | (simp; done) | (simp; omega)))
    exact K4.out

theorem rread_any (t : Bool) (b p a m y off n : Int) (sign : Bool) (hb : 0 ≤ b ∧ b ≤ 4294967295) (hp : 0 ≤ p ∧ p ≤ 4294967295) (ha : 0 ≤ a ∧ a ≤ 4294967295) (ho : -2147483648 ≤ off ∧ off ≤ 2147483647) (hn : In64 n) (h : RMem w P gb gt cb ct bs ts) :
    Calls Tryd.prog 16 #[.pointer (some ⟨P, 0, none⟩), .agg #[.bool t, .int .u32 b, .int .u32 p, .int .u32 a, .int .u16 m, .int .u16 y], .int .i32 off, .int .i64 n, .bool sign] w fun e w' => e = .returned (.tuple #[.int .u32 (readN bs t b p a m y off n sign), (readE bs.length t b p a m y off n)]) ∧ Keep w w' := by
  rcases sizeN_in n with ⟨hs, h3⟩ | ⟨hs, _⟩
  · by_cases hk : lackN t b p m y (plc a off) n 1 = 0
    · have hok : numOk t b p a m y off n 1 := ⟨hs, hk⟩
      have eE : readE bs.length t b p a m y off n = loadV bs.length (plc a off) n := if_pos hok
      rw [eE]
      cases hr : reachB (plc a off) n bs.length
      · have eN : readN bs t b p a m y off n sign = 0 := if_neg (fun h => by rw [hr] at h; exact absurd h.2 (by decide))
        have eL : loadV bs.length (plc a off) n = rangeV (plc a off) := by unfold loadV; rw [hr]; rfl
        rw [eN, eL]
        exact rread_far t b p a m y off n sign hb hp ha ho h3 hk hr h
      · have eN : readN bs t b p a m y off n sign = if sign = true then sgnVal (readAt bs a off n) (8 * n) else readAt bs a off n := if_pos ⟨hok, hr⟩
        have eL : loadV bs.length (plc a off) n = okV := by unfold loadV; rw [hr]; rfl
        rw [eN, eL]
        exact rread_good t b p a m y off n sign hb hp ha ho h3 hk hr h
    · have hno : ¬ numOk t b p a m y off n 1 := fun h => hk h.2
      have eE : readE bs.length t b p a m y off n = wrongV accessT (plc a off) (lackN t b p m y (plc a off) n 1) := by
        unfold readE numE
        rw [if_neg hno, if_pos hs, errV_not hk]
      have eN : readN bs t b p a m y off n sign = 0 := if_neg (fun h => hno h.1)
      rw [eE, eN]
      exact rread_lack t b p a m y off n sign hb hp ha ho h3 _ rfl hk
  · have hno : ¬ numOk t b p a m y off n 1 := fun h => by have := h.1; omega
    have eE : readE bs.length t b p a m y off n = wrongV sizeT n 7 := by
      unfold readE numE
      rw [if_neg hno, if_neg (by omega)]
    have eN : readN bs t b p a m y off n sign = 0 := if_neg (fun h => hno h.1)
    rw [eE, eN]
    exact rread_size t b p a m y off n sign hb hp ha ho hn hs

end
end Go.Proofs.YtgfoohiaioojoaaDoor

/- The reference's Write. -/
namespace Go.Proofs.YtgfoohiaioojoaaDoor
set_option linter.unusedVariables false
set_option linter.unusedSimpArgs false
open Go.RowKit
section
variable {w : World} {P gb gt cb ct : Nat} {bs : List Int} {ts : List Bool}

set_option maxHeartbeats 1000000 in
theorem rwrite_size (t : Bool) (b p a m y off n v : Int) (hb : 0 ≤ b ∧ b ≤ 4294967295) (hp : 0 ≤ p ∧ p ≤ 4294967295) (ha : 0 ≤ a ∧ a ≤ 4294967295) (ho : -2147483648 ≤ off ∧ off ≤ 2147483647) (hv : 0 ≤ v ∧ v ≤ 4294967295) (hn : In64 n) (hs : sizeN n = 7) :
    Calls Tryd.prog 20 #[.pointer (some ⟨P, 0, none⟩), .agg #[.bool t, .int .u32 b, .int .u32 p, .int .u32 a, .int .u16 m, .int .u16 y], .int .i32 off, .int .i64 n, .int .u32 v] w fun e w' => e = .returned (wrongV sizeT n 7) ∧ Keep w w' := by
  have C := Lib.hid (fun W => rsized_any n hn W)
  rw [hs, errV_not (by decide)] at C
  unfold wrongV sizeT at C ⊢
  unfold In64 at hn
  clear hs
  go_enter Tryd.func20, Tryd.ntmps20
  go_wp2_with fail
  refine (C.out _).mono ?_
  rintro e w1 ⟨rfl, hk1⟩
  have B0 : Box w1 w.heap.size #[.bool t, .int .u32 b, .int .u32 p, .int .u32 a, .int .u16 m, .int .u16 y] := ((Box.new _ _ _).alloc _).keep hk1
  have B1 : Box w1 (w.heap.size + 1) #[.string ⟨#[]⟩, .int .i64 0, .int .i64 0] := (Box.new1 _ _ _ _).keep hk1
  have K1 : Hid (Keep w w1) := Lib.hid ((((Keep.refl _).alloc _).alloc _).trans hk1)
  have l0 := B0.lt
  have l1 := B1.lt
  have s1 := K1.out.size
  have c0 := B0.cells
  have n12 : w.heap.size + 1 ≠ w1.heap.size := by omega
  have f1 := B1.thawed
  have c1 := B1.cells
  clear hk1 C
  go_wp2_with fail
  refine bodyPost_ret (v := .agg #[.string ⟨#[115, 105, 122, 101]⟩, .int .i64 n, .int .i64 7]) (by simp [results, Tryd.results20, go_sem, c1, l1, n12]; done) rfl ⟨rfl, ?_⟩
  repeat (first | with_reducible refine Keep.alloc ?_ _ | with_reducible refine Keep.drew ?_ | (with_reducible refine Keep.setAt ?_ ?_ _; · first | omega | (simp; done) | (simp; omega)))
  exact K1.out

set_option maxHeartbeats 1000000 in
theorem rwrite_lack (t : Bool) (b p a m y off n v : Int) (hb : 0 ≤ b ∧ b ≤ 4294967295) (hp : 0 ≤ p ∧ p ≤ 4294967295) (ha : 0 ≤ a ∧ a ≤ 4294967295) (ho : -2147483648 ≤ off ∧ off ≤ 2147483647) (hv : 0 ≤ v ∧ v ≤ 4294967295) (hn : n = 1 ∨ n = 2 ∨ n = 4) (k : Int) (hk : lackN t b p m y (plc a off) n 2 = k) (h0 : ¬ k = 0) :
    Calls Tryd.prog 20 #[.pointer (some ⟨P, 0, none⟩), .agg #[.bool t, .int .u32 b, .int .u32 p, .int .u32 a, .int .u16 m, .int .u16 y], .int .i32 off, .int .i64 n, .int .u32 v] w fun e w' => e = .returned (wrongV accessT (plc a off) k) ∧ Keep w w' := by
  have HN : Hid (In64 n) := Lib.hid (by unfold In64; omega)
  have hs : sizeN n = 0 := if_pos hn
  have C := Lib.hid (fun W => rsized_any n HN.out W)
  have CC := Lib.hid (fun W => rcheck_any t b p a m y (plc a off) n 2 hb hp (plc_in _ _) (by omega) W)
  have e1 : (a + off % 4294967296) % 4294967296 = plc a off := by unfold plc; omega
  have e2 : (a + off) % 4294967296 = plc a off := rfl
  rw [hs, errV_zero] at C
  rw [hk, errV_not h0] at CC
  have hx := plc_in a off
  obtain ⟨x, hx'⟩ : ∃ x, x = plc a off := ⟨_, rfl⟩
  rw [← hx'] at CC e1 e2 hx ⊢
  unfold wrongV accessT at CC ⊢
  unfold okV wrongV at C
  have n4 : 1 ≤ n ∧ n ≤ 4 := by omega
  have hk0 : (k == 0) = false := by simpa using h0
  clear hs hk hx' hn
  go_enter Tryd.func20, Tryd.ntmps20
  go_wp2_with fail
  refine (C.out _).mono ?_
  rintro e w1 ⟨rfl, hk1⟩
  have B0 : Box w1 w.heap.size #[.bool t, .int .u32 b, .int .u32 p, .int .u32 a, .int .u16 m, .int .u16 y] := ((Box.new _ _ _).alloc _).keep hk1
  have B1 : Box w1 (w.heap.size + 1) #[.string ⟨#[]⟩, .int .i64 0, .int .i64 0] := (Box.new1 _ _ _ _).keep hk1
  have K1 : Hid (Keep w w1) := Lib.hid ((((Keep.refl _).alloc _).alloc _).trans hk1)
  have l0 := B0.lt
  have l1 := B1.lt
  have s1 := K1.out.size
  have c0 := B0.cells
  have n12 : w.heap.size + 1 ≠ w1.heap.size := by omega
  clear hk1 C
  go_wp2_with fail
  refine (CC.out _).mono ?_
  rintro e w2 ⟨rfl, hk2⟩
  have B12 := (B1.alloc (.cells #[.string ⟨#[]⟩, .int .i64 0, .int .i64 0] 32)).keep hk2
  have B2 : Box w2 w1.heap.size #[.string ⟨#[]⟩, .int .i64 0, .int .i64 0] := (Box.new _ _ _).keep hk2
  have K2 : Hid (Keep w w2) := Lib.hid ((K1.out.alloc _).trans hk2)
  have s2 := K2.out.size
  have l2 := B2.lt
  have l12 := B12.lt
  have c2 := B2.cells
  have f2 := B2.thawed
  have c12 := B12.cells
  have f12 := B12.thawed
  have n21 : w1.heap.size ≠ w.heap.size + 1 := Ne.symm n12
  clear hk2 CC c0 l0 l1 B0 B1
  go_wp2_with fail
  refine bodyPost_ret (v := .agg #[.string ⟨#[97, 99, 99, 101, 115, 115]⟩, .int .i64 x, .int .i64 k]) (by simp [results, Tryd.results20, go_sem, c12, c2, l12, l2, n12, n21]; done) rfl ⟨rfl, ?_⟩
  repeat (first | with_reducible refine Keep.alloc ?_ _ | with_reducible refine Keep.drew ?_ | (with_reducible refine Keep.setAt ?_ ?_ _; · first | omega | (simp; done) | (simp; omega)))
  exact K2.out

set_option maxHeartbeats 2000000 in
theorem rwrite_good (t : Bool) (b p a m y off : Int) (n : Nat) (v : Int) (hb : 0 ≤ b ∧ b ≤ 4294967295) (hp : 0 ≤ p ∧ p ≤ 4294967295) (ha : 0 ≤ a ∧ a ≤ 4294967295) (ho : -2147483648 ≤ off ∧ off ≤ 2147483647) (hv : 0 ≤ v ∧ v ≤ 4294967295) (hn : n = 1 ∨ n = 2 ∨ n = 4) (hk : lackN t b p m y (plc a off) n 2 = 0) (h : RMem w P gb gt cb ct bs ts) :
    Calls Tryd.prog 20 #[.pointer (some ⟨P, 0, none⟩), .agg #[.bool t, .int .u32 b, .int .u32 p, .int .u32 a, .int .u16 m, .int .u16 y], .int .i32 off, .int .i64 n, .int .u32 v] w fun e w' => e = .returned (storeV bs.length (plc a off) n) ∧ RMem w' P gb gt cb ct (storeB bs (plc a off) ((b4 v).take n)) (storeT bs.length ts (plc a off) n) ∧ KeepBut (ownsM gb gt) w w' := by
  have HN : Hid (In64 n) := Lib.hid (by unfold In64; omega)
  have hs : sizeN n = 0 := if_pos (by omega)
  have C := Lib.hid (fun W => rsized_any (n : Int) HN.out W)
  have CC := Lib.hid (fun W => rcheck_any t b p a m y (plc a off) n 2 hb hp (plc_in _ _) (by omega) W)
  have e1 : (a + off % 4294967296) % 4294967296 = plc a off := by unfold plc; omega
  have e2 : (a + off) % 4294967296 = plc a off := rfl
  rw [hs, errV_zero] at C
  rw [hk, errV_zero] at CC
  have hx := plc_in a off
  have tk : ((b4 v).take n).length = n := by have := take_b4 v (n : Int) (by omega); simpa using this
  obtain ⟨x, hx'⟩ : ∃ x, x = plc a off := ⟨_, rfl⟩
  rw [← hx'] at CC e1 e2 hx ⊢
  have CS := Lib.hid (fun W u (k : Keep w W) hl => rstore_u P gb gt cb ct bs ts x (by unfold In64; omega) u ((b4 v).take n) (fun z hz => b4_bytes v z (List.mem_of_mem_take hz)) (by rw [tk]; omega) W (h.keep k) hl)
  rw [tk] at CS
  obtain ⟨pt, wx, wy, hw⟩ : ∃ pt wx wy, storeV bs.length x n = wrongV pt wx wy := by unfold storeV; split <;> exact ⟨_, _, _, rfl⟩
  rw [hw] at CS ⊢
  unfold wrongV at CS ⊢
  unfold okV wrongV at CC C
  have n4 : 1 ≤ n ∧ n ≤ 4 := by omega
  have n4' : (1 : Int) ≤ (n : Int) ∧ (n : Int) ≤ 4 := by omega
  have HV := Lib.hid hv
  have TK := Lib.hid tk
  have lP := h.box.lt
  have HG : Hid (gb < w.heap.size ∧ gt < w.heap.size) := Lib.hid ⟨h.bytes.lt, h.tags.lt⟩
  obtain ⟨x0, x1⟩ := hx
  clear hs hk hx' hn h tk hw hv
  go_enter Tryd.func20, Tryd.ntmps20
  go_wp2_with fail
  refine (C.out _).mono ?_
  rintro e w1 ⟨rfl, hk1⟩
  have B0 : Box w1 w.heap.size #[.bool t, .int .u32 b, .int .u32 p, .int .u32 a, .int .u16 m, .int .u16 y] := ((Box.new _ _ _).alloc _).keep hk1
  have B1 : Box w1 (w.heap.size + 1) #[.string ⟨#[]⟩, .int .i64 0, .int .i64 0] := (Box.new1 _ _ _ _).keep hk1
  have K1 : Hid (Keep w w1) := Lib.hid ((((Keep.refl _).alloc _).alloc _).trans hk1)
  have l0 := B0.lt
  have l1 := B1.lt
  have s1 := K1.out.size
  have c0 := B0.cells
  have n12 : w.heap.size + 1 ≠ w1.heap.size := by omega
  clear hk1 C
  go_wp2_with fail
  refine (CC.out _).mono ?_
  rintro e w2 ⟨rfl, hk2⟩
  have B12 := (B1.alloc (.cells #[.string ⟨#[]⟩, .int .i64 0, .int .i64 0] 32)).keep hk2
  have B2 : Box w2 w1.heap.size #[.string ⟨#[]⟩, .int .i64 0, .int .i64 0] := (Box.new _ _ _).keep hk2
  have K2 : Hid (Keep w w2) := Lib.hid ((K1.out.alloc _).trans hk2)
  have s2 := K2.out.size
  have l2 := B2.lt
  have l12 := B12.lt
  have c2 := B2.cells
  have f2 := B2.thawed
  clear hk2 CC c0 l0 l1 B0 B1
  go_wp2_with fail
  have B3 := B2.set3 (.string ⟨#[]⟩) (.int .i64 0) (.int .i64 0)
  have B13 := B12.other3 n12 (.string ⟨#[]⟩) (.int .i64 0) (.int .i64 0)
  have K3 := Lib.hid (K2.out.set3 (show w.heap.size ≤ w1.heap.size by omega) (.string ⟨#[]⟩) (.int .i64 0) (.int .i64 0))
  obtain ⟨W3, hW3⟩ : ∃ W3, W3 = ((w2.setCell ⟨w1.heap.size, 0, none⟩ (.string ⟨#[]⟩)).setCell ⟨w1.heap.size, 1, none⟩ (.int .i64 0)).setCell ⟨w1.heap.size, 2, none⟩ (.int .i64 0) := ⟨_, rfl⟩
  have hsz : w2.heap.size = W3.heap.size := by rw [hW3]; simp
  rw [← hW3] at B3 B13 K3
  clear K2 B2 B12 c2 f2
  refine (rword_any v HV.out _).mono ?_
  rintro e w4 ⟨rfl, rfl⟩
  rw [← hW3]
  clear hW3
  have s3 := K3.out.size
  have B4 := Box.new W3 (u8s (b4 v)) 5
  have LI : Hid (Lies (W3.alloc (.cells (u8s (b4 v)) 5)) (.slice (some ⟨W3.heap.size, 0, none⟩) n 4) ((b4 v).take n) (ownsM gb gt)) := Lib.hid (by
    refine ⟨_, 4, by rw [TK.out], by rw [TK.out]; omega, by omega, fun k hk => ⟨W3.heap.size, 0, rfl, fun hO => ?_, B4.lt, ?_⟩⟩
    · have := HG.out
      rcases hO with h | h <;> omega
    · have hk4 : k < (b4 v).length := by rw [TK.out] at hk; show k < 4; omega
      rw [B4.cells, Nat.zero_add]
      simp only [u8s, List.getD_eq_getElem?_getD, List.getElem?_take_of_lt (show k < n by rw [TK.out] at hk; exact hk), List.getElem?_eq_getElem hk4, List.getElem?_toArray, List.getElem?_map, Option.map_some, Option.getD_some])
  have KA := K3.out.alloc (.cells (u8s (b4 v)) 5)
  have CS2 := Lib.hid (CS.out _ _ KA LI.out)
  have B14 := B13.alloc (.cells (u8s (b4 v)) 5)
  have l14 := B14.lt
  have HKA := Lib.hid KA
  clear CS B3 B13 B4 LI KA l2 l12
  go_wp2_with fail
  refine CS2.out.mono ?_
  rintro e w5 ⟨rfl, hR, hB⟩
  have B15 := B14.but hB (fun hO => by have := HG.out; rcases hO with h | h <;> omega)
  have HR := Lib.hid hR
  have HB := Lib.hid (KeepBut.trans (HKA.out.but (ownsM gb gt)) hB)
  have c15 := B15.cells
  have f15 := B15.thawed
  have l15 := B15.lt
  clear hR hB CS2 B14 l14
  go_wp2_with fail
  refine bodyPost_ret (v := .agg #[.string pt, .int .i64 wx, .int .i64 wy]) (by simp [results, Tryd.results20, go_sem, c15, l15]; done) rfl ⟨rfl, ?_, ?_⟩
  · have KS : KeepBut (fun z => z = w.heap.size + 1) w5 _ := KeepBut.setAt (S := fun z => z = w.heap.size + 1) (b := w.heap.size + 1) (i := 2) (.inl rfl) (KeepBut.setAt (S := fun z => z = w.heap.size + 1) (b := w.heap.size + 1) (i := 1) (.inl rfl) (KeepBut.setAt (S := fun z => z = w.heap.size + 1) (b := w.heap.size + 1) (i := 0) (.inl rfl) (KeepBut.refl _ w5) (.string pt)) (.int .i64 wx)) (.int .i64 wy)
    exact HR.out.but KS (by omega) (fun h => by have := HG.out; omega) (fun h => by have := HG.out; omega)
  · repeat (with_reducible refine KeepBut.setAt ?_ ?_ _; · exact .inr (by omega))
    exact HB.out

theorem rwrite_any (t : Bool) (b p a m y off n v : Int) (hb : 0 ≤ b ∧ b ≤ 4294967295) (hp : 0 ≤ p ∧ p ≤ 4294967295) (ha : 0 ≤ a ∧ a ≤ 4294967295) (ho : -2147483648 ≤ off ∧ off ≤ 2147483647) (hv : 0 ≤ v ∧ v ≤ 4294967295) (hn : In64 n) (h : RMem w P gb gt cb ct bs ts) :
    Calls Tryd.prog 20 #[.pointer (some ⟨P, 0, none⟩), .agg #[.bool t, .int .u32 b, .int .u32 p, .int .u32 a, .int .u16 m, .int .u16 y], .int .i32 off, .int .i64 n, .int .u32 v] w fun e w' => e = .returned (writeE bs.length t b p a m y off n) ∧ RMem w' P gb gt cb ct (writeB bs t b p a m y off n v) (writeT bs.length ts t b p a m y off n) ∧ KeepBut (ownsM gb gt) w w' := by
  rcases sizeN_in n with ⟨hs, h3⟩ | ⟨hs, _⟩
  · by_cases hk : lackN t b p m y (plc a off) n 2 = 0
    · have hok : numOk t b p a m y off n 2 := ⟨hs, hk⟩
      have eE : writeE bs.length t b p a m y off n = storeV bs.length (plc a off) n := if_pos hok
      have eB : writeB bs t b p a m y off n v = storeB bs (plc a off) ((b4 v).take n.toNat) := if_pos hok
      have eT : writeT bs.length ts t b p a m y off n = storeT bs.length ts (plc a off) n.toNat := if_pos hok
      rw [eE, eB, eT]
      obtain ⟨N, rfl⟩ := Int.eq_ofNat_of_zero_le (show 0 ≤ n by omega)
      rw [Int.toNat_natCast]
      exact rwrite_good t b p a m y off N v hb hp ha ho hv (by omega) hk h
    · have hno : ¬ numOk t b p a m y off n 2 := fun h => hk h.2
      have eE : writeE bs.length t b p a m y off n = wrongV accessT (plc a off) (lackN t b p m y (plc a off) n 2) := by
        unfold writeE numE
        rw [if_neg hno, if_pos hs, errV_not hk]
      have eB : writeB bs t b p a m y off n v = bs := if_neg hno
      have eT : writeT bs.length ts t b p a m y off n = ts := if_neg hno
      rw [eE, eB, eT]
      refine (rwrite_lack t b p a m y off n v hb hp ha ho hv h3 _ rfl hk).mono ?_
      rintro e w' ⟨rfl, hk⟩
      exact ⟨rfl, h.keep hk, hk.but _⟩
  · have hno : ¬ numOk t b p a m y off n 2 := fun h => by have := h.1; omega
    have eE : writeE bs.length t b p a m y off n = wrongV sizeT n 7 := by
      unfold writeE numE
      rw [if_neg hno, if_neg (by omega)]
    have eB : writeB bs t b p a m y off n v = bs := if_neg hno
    have eT : writeT bs.length ts t b p a m y off n = ts := if_neg hno
    rw [eE, eB, eT]
    refine (rwrite_size t b p a m y off n v hb hp ha ho hv hn hs).mono ?_
    rintro e w' ⟨rfl, hk⟩
    exact ⟨rfl, h.keep hk, hk.but _⟩

end
end Go.Proofs.YtgfoohiaioojoaaDoor

/- The reference's ReadCap, WriteCap. -/
namespace Go.Proofs.YtgfoohiaioojoaaDoor
set_option linter.unusedVariables false
set_option linter.unusedSimpArgs false
open Go.RowKit
section
variable {w : World} {P gb gt cb ct : Nat} {bs : List Int} {ts : List Bool}
theorem loadCapV_not {bs : List Int} {ts : List Bool} {x : Int} (h : ¬ capAt bs.length x) : ∃ n, (n = 6 ∨ n = 5) ∧ loadCapV bs ts x = .tuple #[zeroV, wrongV ⟨#[109, 101, 109]⟩ x n] ∧ granV bs.length x = wrongV ⟨#[109, 101, 109]⟩ x n := by
  unfold capAt at h
  unfold loadCapV granV
  by_cases h1 : reachB x 16 bs.length = true
  · have h2 : ¬ x % 16 = 0 := fun h2 => h ⟨h1, h2⟩
    rw [if_pos h1, if_pos h1, if_neg h2, if_neg h2]
    exact ⟨5, .inr rfl, rfl, rfl⟩
  · rw [if_neg h1, if_neg h1]
    exact ⟨6, .inl rfl, rfl, rfl⟩
theorem loadCapV_at {bs : List Int} {ts : List Bool} {x : Int} (h : capAt bs.length x) : loadCapV bs ts x = .tuple #[capV (ts.getD (x.toNat / 16) false) (sixteen bs x.toNat), okV] := by
  unfold loadCapV
  rw [if_pos h.1, if_pos h.2]

set_option maxRecDepth 100000 in
set_option maxHeartbeats 1000000 in
theorem rrcap_lack (t : Bool) (b p a m y off : Int) (hb : 0 ≤ b ∧ b ≤ 4294967295) (hp : 0 ≤ p ∧ p ≤ 4294967295) (ha : 0 ≤ a ∧ a ≤ 4294967295) (ho : -2147483648 ≤ off ∧ off ≤ 2147483647) (k : Int) (hk : lackN t b p m y (plc a off) 16 1 = k) (h0 : ¬ k = 0) :
    Calls Tryd.prog 18 #[.pointer (some ⟨P, 0, none⟩), .agg #[.bool t, .int .u32 b, .int .u32 p, .int .u32 a, .int .u16 m, .int .u16 y], .int .i32 off] w fun e w' => e = .returned (.tuple #[zeroV, wrongV accessT (plc a off) k]) ∧ Keep w w' := by
  have CC := Lib.hid (fun W => rcheck_any t b p a m y (plc a off) 16 1 hb hp (plc_in _ _) (by decide) W)
  have e1 : (a + off % 4294967296) % 4294967296 = plc a off := by unfold plc; omega
  have e2 : (a + off) % 4294967296 = plc a off := rfl
  rw [hk, errV_not h0] at CC
  have hx := plc_in a off
  obtain ⟨x, hx'⟩ : ∃ x, x = plc a off := ⟨_, rfl⟩
  rw [← hx'] at CC e1 e2 hx ⊢
  unfold wrongV accessT at CC ⊢
  unfold zeroV
  have hk0 : (k == 0) = false := by simpa using h0
  clear hk hx'
  go_enter Tryd.func18, Tryd.ntmps18
  go_wp2_with fail
  refine (CC.out _).mono ?_
  rintro e w1 ⟨rfl, hk1⟩
  have B0 : Box w1 w.heap.size #[.bool t, .int .u32 b, .int .u32 p, .int .u32 a, .int .u16 m, .int .u16 y] := (((Box.new _ _ _).alloc _).alloc _).keep hk1
  have B1 : Box w1 (w.heap.size + 1) #[.bool false, .int .u32 0, .int .u32 0, .int .u32 0, .int .u16 0, .int .u16 0] := ((Box.new1 _ _ _ _).alloc _).keep hk1
  have B2 : Box w1 (w.heap.size + 2) #[.string ⟨#[]⟩, .int .i64 0, .int .i64 0] := (Box.new2 _ _ _ _ _).keep hk1
  have K1 : Hid (Keep w w1) := Lib.hid (((((Keep.refl _).alloc _).alloc _).alloc _).trans hk1)
  have l0 := B0.lt
  have l1 := B1.lt
  have l2 := B2.lt
  have s1 := K1.out.size
  have c1 := B1.cells
  have f1 := B1.thawed
  have c2 := B2.cells
  have f2 := B2.thawed
  clear hk1 CC
  go_wp2_with fail
  have ne1 : w.heap.size + 1 ≠ w1.heap.size := by omega
  have ne2 : w.heap.size + 2 ≠ w1.heap.size := by omega
  have n12 : w.heap.size + 1 ≠ w.heap.size + 2 := by omega
  have n21 : w.heap.size + 2 ≠ w.heap.size + 1 := by omega
  go_region_held3 (fun w' => ∀ i, w'.cell? ⟨w1.heap.size, i, none⟩ = (#[.string ⟨#[97, 99, 99, 101, 115, 115]⟩, .int .i64 x, .int .i64 k] : Array Value)[i]?)
    ((refine fun i => Box.cells (Box.drew (Box.newAt _ _ _ _ ?_)) i; simp [World.setCell])) (fail)
  all_goals go_wp2_with fail
  all_goals (
    refine bodyPost_ret (v := .tuple #[.agg #[.bool false, .int .u32 0, .int .u32 0, .int .u32 0, .int .u16 0, .int .u16 0], .agg #[.string ⟨#[97, 99, 99, 101, 115, 115]⟩, .int .i64 x, .int .i64 k]]) (by simp [results, Tryd.results18, go_sem, c1, c2, l1, l2, ne1, ne2, n12, n21, show w.heap.size + 1 < w1.heap.size + 1 from by omega, show w.heap.size + 2 < w1.heap.size + 1 from by omega]) rfl ⟨rfl, ?_⟩
    repeat (first | with_reducible refine Keep.alloc ?_ _ | with_reducible refine Keep.drew ?_ | (with_reducible refine Keep.setAt ?_ ?_ _; · first | omega | (simp; done) | (simp; omega)))
    exact K1.out)

set_option maxRecDepth 100000 in
set_option maxHeartbeats 1000000 in
theorem rrcap_far (t : Bool) (b p a m y off : Int) (hb : 0 ≤ b ∧ b ≤ 4294967295) (hp : 0 ≤ p ∧ p ≤ 4294967295) (ha : 0 ≤ a ∧ a ≤ 4294967295) (ho : -2147483648 ≤ off ∧ off ≤ 2147483647) (hk : lackN t b p m y (plc a off) 16 1 = 0) (n : Int) (hn : n = 6 ∨ n = 5) (hl : loadCapV bs ts (plc a off) = .tuple #[zeroV, wrongV ⟨#[109, 101, 109]⟩ (plc a off) n]) (h : RMem w P gb gt cb ct bs ts) :
    Calls Tryd.prog 18 #[.pointer (some ⟨P, 0, none⟩), .agg #[.bool t, .int .u32 b, .int .u32 p, .int .u32 a, .int .u16 m, .int .u16 y], .int .i32 off] w fun e w' => e = .returned (.tuple #[zeroV, wrongV ⟨#[109, 101, 109]⟩ (plc a off) n]) ∧ Keep w w' := by
  have CC := Lib.hid (fun W => rcheck_any t b p a m y (plc a off) 16 1 hb hp (plc_in _ _) (by decide) W)
  have e1 : (a + off % 4294967296) % 4294967296 = plc a off := by unfold plc; omega
  have e2 : (a + off) % 4294967296 = plc a off := rfl
  rw [hk, errV_zero] at CC
  have hx := plc_in a off
  have CL := Lib.hid (fun W (k : Keep w W) => rloadCap_any P gb gt cb ct bs ts (plc a off) (by omega) W (h.keep k))
  rw [hl] at CL
  obtain ⟨x, hx'⟩ : ∃ x, x = plc a off := ⟨_, rfl⟩
  rw [← hx'] at CC CL e1 e2 hx ⊢
  unfold okV wrongV at CC
  unfold zeroV wrongV at CL ⊢
  have hn0 : (n == 0) = false := by rcases hn with rfl | rfl <;> rfl
  obtain ⟨x0, x1⟩ := hx
  clear hk hx' hl hn h
  go_enter Tryd.func18, Tryd.ntmps18
  go_wp2_with fail
  refine (CC.out _).mono ?_
  rintro e w1 ⟨rfl, hk1⟩
  have B0 : Box w1 w.heap.size #[.bool t, .int .u32 b, .int .u32 p, .int .u32 a, .int .u16 m, .int .u16 y] := (((Box.new _ _ _).alloc _).alloc _).keep hk1
  have B1 : Box w1 (w.heap.size + 1) #[.bool false, .int .u32 0, .int .u32 0, .int .u32 0, .int .u16 0, .int .u16 0] := ((Box.new1 _ _ _ _).alloc _).keep hk1
  have B2 : Box w1 (w.heap.size + 2) #[.string ⟨#[]⟩, .int .i64 0, .int .i64 0] := (Box.new2 _ _ _ _ _).keep hk1
  have K1 : Hid (Keep w w1) := Lib.hid (((((Keep.refl _).alloc _).alloc _).alloc _).trans hk1)
  have l0 := B0.lt
  have l1 := B1.lt
  have l2 := B2.lt
  have s1 := K1.out.size
  clear hk1 CC
  go_wp2_with fail
  refine (CL.out _ (K1.out.alloc _)).mono ?_
  rintro e w2 ⟨rfl, hk2⟩
  have B02 := (B0.alloc (.cells #[.string ⟨#[]⟩, .int .i64 0, .int .i64 0] 32)).keep hk2
  have B12 := (B1.alloc (.cells #[.string ⟨#[]⟩, .int .i64 0, .int .i64 0] 32)).keep hk2
  have B22 := (B2.alloc (.cells #[.string ⟨#[]⟩, .int .i64 0, .int .i64 0] 32)).keep hk2
  have K2 : Hid (Keep w w2) := Lib.hid ((K1.out.alloc _).trans hk2)
  have s2 := K2.out.size
  have l02 := B02.lt
  have l12 := B12.lt
  have l22 := B22.lt
  have c1 := B12.cells
  have f1 := B12.thawed
  have c2 := B22.cells
  have f2 := B22.thawed
  clear hk2 CL B0 B1 B2 K1 l0 l1 l2
  go_wp2_with fail
  have ne1 : w.heap.size + 1 ≠ w2.heap.size := by omega
  have ne2 : w.heap.size + 2 ≠ w2.heap.size := by omega
  have ne3 : w.heap.size + 1 ≠ w2.heap.size + 1 := by omega
  have ne4 : w.heap.size + 2 ≠ w2.heap.size + 1 := by omega
  have n12 : w.heap.size + 1 ≠ w.heap.size + 2 := by omega
  have n21 : w.heap.size + 2 ≠ w.heap.size + 1 := by omega
  go_region_held3 (fun w' => ∀ i, w'.cell? ⟨(w2.heap.size + 1), i, none⟩ = (#[.string ⟨#[109, 101, 109]⟩, .int .i64 x, .int .i64 n] : Array Value)[i]?)
    ((refine fun i => Box.cells (Box.drew (Box.newAt _ _ _ _ ?_)) i; simp [World.setCell])) (fail)
  all_goals go_wp2_with fail
  all_goals (
    refine bodyPost_ret (v := .tuple #[.agg #[.bool false, .int .u32 0, .int .u32 0, .int .u32 0, .int .u16 0, .int .u16 0], .agg #[.string ⟨#[109, 101, 109]⟩, .int .i64 x, .int .i64 n]]) (by simp [results, Tryd.results18, go_sem, c1, c2, l12, l22, ne1, ne2, ne3, ne4, n12, n21, show w.heap.size + 1 < w2.heap.size + 1 from by omega, show w.heap.size + 2 < w2.heap.size + 1 from by omega, show w.heap.size + 1 < w2.heap.size + 1 + 1 from by omega, show w.heap.size + 2 < w2.heap.size + 1 + 1 from by omega]) rfl ⟨rfl, ?_⟩
    repeat (first | with_reducible refine Keep.alloc ?_ _ | with_reducible refine Keep.drew ?_ | (with_reducible refine Keep.setAt ?_ ?_ _; · first | omega | (simp; done) | (simp; omega)))
    exact K2.out)

set_option maxRecDepth 100000 in
set_option maxHeartbeats 2000000 in
theorem rrcap_good (t : Bool) (b p a m y off : Int) (hb : 0 ≤ b ∧ b ≤ 4294967295) (hp : 0 ≤ p ∧ p ≤ 4294967295) (ha : 0 ≤ a ∧ a ≤ 4294967295) (ho : -2147483648 ≤ off ∧ off ≤ 2147483647) (hk : lackN t b p m y (plc a off) 16 1 = 0) (hat : capAt bs.length (plc a off)) (h : RMem w P gb gt cb ct bs ts) :
    Calls Tryd.prog 18 #[.pointer (some ⟨P, 0, none⟩), .agg #[.bool t, .int .u32 b, .int .u32 p, .int .u32 a, .int .u16 m, .int .u16 y], .int .i32 off] w fun e w' => e = .returned (.tuple #[capV (ts.getD ((plc a off).toNat / 16) false && hasLC m) (sixteen bs (plc a off).toNat), okV]) ∧ Keep w w' := by
  have CC := Lib.hid (fun W => rcheck_any t b p a m y (plc a off) 16 1 hb hp (plc_in _ _) (by decide) W)
  have e1 : (a + off % 4294967296) % 4294967296 = plc a off := by unfold plc; omega
  have e2 : (a + off) % 4294967296 = plc a off := rfl
  rw [hk, errV_zero] at CC
  have hx := plc_in a off
  have CL := Lib.hid (fun W (k : Keep w W) => rloadCap_any P gb gt cb ct bs ts (plc a off) (by omega) W (h.keep k))
  rw [loadCapV_at hat] at CL
  obtain ⟨x, hx'⟩ : ∃ x, x = plc a off := ⟨_, rfl⟩
  rw [← hx'] at CC CL e1 e2 hx ⊢
  obtain ⟨tt, htt⟩ : ∃ tt, tt = ts.getD (x.toNat / 16) false := ⟨_, rfl⟩
  obtain ⟨z1, z2, z3, z4, z5, hz⟩ : ∃ z1 z2 z3 z4 z5, ∀ u, capV u (sixteen bs x.toNat) = .agg #[.bool u, .int .u32 z1, .int .u32 z2, .int .u32 z3, .int .u16 z4, .int .u16 z5] := ⟨_, _, _, _, _, fun _ => rfl⟩
  rw [← htt] at CL ⊢
  rw [hz] at CL ⊢
  unfold okV wrongV at CC CL ⊢
  obtain ⟨x0, x1⟩ := hx
  clear hk hx' hat h hz htt
  unfold hasLC
  rcases Bool.eq_false_or_eq_true (bits .and .u16 m 8 == 0) with d | d
  · rw [d]
    simp only [Bool.not_true, Bool.not_false, Bool.and_true, Bool.and_false]
    go_enter Tryd.func18, Tryd.ntmps18
    go_wp2_with fail
    refine (CC.out _).mono ?_
    rintro e w1 ⟨rfl, hk1⟩
    have B0 : Box w1 w.heap.size #[.bool t, .int .u32 b, .int .u32 p, .int .u32 a, .int .u16 m, .int .u16 y] := (((Box.new _ _ _).alloc _).alloc _).keep hk1
    have B1 : Box w1 (w.heap.size + 1) #[.bool false, .int .u32 0, .int .u32 0, .int .u32 0, .int .u16 0, .int .u16 0] := ((Box.new1 _ _ _ _).alloc _).keep hk1
    have B2 : Box w1 (w.heap.size + 2) #[.string ⟨#[]⟩, .int .i64 0, .int .i64 0] := (Box.new2 _ _ _ _ _).keep hk1
    have K1 : Hid (Keep w w1) := Lib.hid (((((Keep.refl _).alloc _).alloc _).alloc _).trans hk1)
    have l0 := B0.lt
    have l1 := B1.lt
    have l2 := B2.lt
    have s1 := K1.out.size
    clear hk1 CC
    go_wp2_with fail
    refine (CL.out _ (K1.out.alloc _)).mono ?_
    rintro e w2 ⟨rfl, hk2⟩
    have B02 := (B0.alloc (.cells #[.string ⟨#[]⟩, .int .i64 0, .int .i64 0] 32)).keep hk2
    have B12 := (B1.alloc (.cells #[.string ⟨#[]⟩, .int .i64 0, .int .i64 0] 32)).keep hk2
    have B22 := (B2.alloc (.cells #[.string ⟨#[]⟩, .int .i64 0, .int .i64 0] 32)).keep hk2
    have K2 : Hid (Keep w w2) := Lib.hid ((K1.out.alloc _).trans hk2)
    have s2 := K2.out.size
    have l02 := B02.lt
    have l12 := B12.lt
    have l22 := B22.lt
    have c0 := B02.cells
    have ne0 : w.heap.size ≠ w2.heap.size := by omega
    have ne0' : w.heap.size ≠ w2.heap.size + 1 := by omega
    clear hk2 CL B0 B1 B2 K1 l0 l1 l2
    go_wp2_with fail
    have d1 : (bits .and .u16 m 8 != 0) = false := by simp [bne, d]
    refine (rasks_any tt z1 z2 z3 z4 z5 (bits .and .u16 m 8 != 0) _).mono ?_
    rintro e w3 ⟨rfl, hk3⟩
    rw [d1]
    have B13 := ((B12.alloc (.cells #[.bool tt, .int .u32 z1, .int .u32 z2, .int .u32 z3, .int .u16 z4, .int .u16 z5] 34)).alloc (.cells #[.string ⟨#[]⟩, .int .i64 0, .int .i64 0] 32)).keep hk3
    have B23 := ((B22.alloc (.cells #[.bool tt, .int .u32 z1, .int .u32 z2, .int .u32 z3, .int .u16 z4, .int .u16 z5] 34)).alloc (.cells #[.string ⟨#[]⟩, .int .i64 0, .int .i64 0] 32)).keep hk3
    have K3 : Hid (Keep w w3) := Lib.hid (((K2.out.alloc _).alloc _).trans hk3)
    have c1 := B13.cells
    have f1 := B13.thawed
    have l1 := B13.lt
    have c2 := B23.cells
    have f2 := B23.thawed
    have l2 := B23.lt
    have n12 : w.heap.size + 1 ≠ w.heap.size + 2 := by omega
    have n21 : w.heap.size + 2 ≠ w.heap.size + 1 := by omega
    clear hk3 c0 B02 B12 B22
    simp only [Bool.and_true, Bool.and_false]
    go_wp2_with fail
    refine bodyPost_ret (v := .tuple #[.agg #[.bool false, .int .u32 z1, .int .u32 z2, .int .u32 z3, .int .u16 z4, .int .u16 z5], .agg #[.string ⟨#[]⟩, .int .i64 0, .int .i64 0]]) (by simp [results, Tryd.results18, go_sem, c1, c2, l1, l2, n12, n21]; done) rfl ⟨rfl, ?_⟩
    repeat (first | with_reducible refine Keep.alloc ?_ _ | with_reducible refine Keep.drew ?_ | (with_reducible refine Keep.setAt ?_ ?_ _; · first | omega | (simp; done) | (simp; omega)))
    exact K3.out

  · rw [d]
    simp only [Bool.not_true, Bool.not_false, Bool.and_true, Bool.and_false]
    go_enter Tryd.func18, Tryd.ntmps18
    go_wp2_with fail
    refine (CC.out _).mono ?_
    rintro e w1 ⟨rfl, hk1⟩
    have B0 : Box w1 w.heap.size #[.bool t, .int .u32 b, .int .u32 p, .int .u32 a, .int .u16 m, .int .u16 y] := (((Box.new _ _ _).alloc _).alloc _).keep hk1
    have B1 : Box w1 (w.heap.size + 1) #[.bool false, .int .u32 0, .int .u32 0, .int .u32 0, .int .u16 0, .int .u16 0] := ((Box.new1 _ _ _ _).alloc _).keep hk1
    have B2 : Box w1 (w.heap.size + 2) #[.string ⟨#[]⟩, .int .i64 0, .int .i64 0] := (Box.new2 _ _ _ _ _).keep hk1
    have K1 : Hid (Keep w w1) := Lib.hid (((((Keep.refl _).alloc _).alloc _).alloc _).trans hk1)
    have l0 := B0.lt
    have l1 := B1.lt
    have l2 := B2.lt
    have s1 := K1.out.size
    clear hk1 CC
    go_wp2_with fail
    refine (CL.out _ (K1.out.alloc _)).mono ?_
    rintro e w2 ⟨rfl, hk2⟩
    have B02 := (B0.alloc (.cells #[.string ⟨#[]⟩, .int .i64 0, .int .i64 0] 32)).keep hk2
    have B12 := (B1.alloc (.cells #[.string ⟨#[]⟩, .int .i64 0, .int .i64 0] 32)).keep hk2
    have B22 := (B2.alloc (.cells #[.string ⟨#[]⟩, .int .i64 0, .int .i64 0] 32)).keep hk2
    have K2 : Hid (Keep w w2) := Lib.hid ((K1.out.alloc _).trans hk2)
    have s2 := K2.out.size
    have l02 := B02.lt
    have l12 := B12.lt
    have l22 := B22.lt
    have c0 := B02.cells
    have ne0 : w.heap.size ≠ w2.heap.size := by omega
    have ne0' : w.heap.size ≠ w2.heap.size + 1 := by omega
    clear hk2 CL B0 B1 B2 K1 l0 l1 l2
    go_wp2_with fail
    have d1 : (bits .and .u16 m 8 != 0) = true := by simp [bne, d]
    refine (rasks_any tt z1 z2 z3 z4 z5 (bits .and .u16 m 8 != 0) _).mono ?_
    rintro e w3 ⟨rfl, hk3⟩
    rw [d1]
    have B13 := ((B12.alloc (.cells #[.bool tt, .int .u32 z1, .int .u32 z2, .int .u32 z3, .int .u16 z4, .int .u16 z5] 34)).alloc (.cells #[.string ⟨#[]⟩, .int .i64 0, .int .i64 0] 32)).keep hk3
    have B23 := ((B22.alloc (.cells #[.bool tt, .int .u32 z1, .int .u32 z2, .int .u32 z3, .int .u16 z4, .int .u16 z5] 34)).alloc (.cells #[.string ⟨#[]⟩, .int .i64 0, .int .i64 0] 32)).keep hk3
    have K3 : Hid (Keep w w3) := Lib.hid (((K2.out.alloc _).alloc _).trans hk3)
    have c1 := B13.cells
    have f1 := B13.thawed
    have l1 := B13.lt
    have c2 := B23.cells
    have f2 := B23.thawed
    have l2 := B23.lt
    have n12 : w.heap.size + 1 ≠ w.heap.size + 2 := by omega
    have n21 : w.heap.size + 2 ≠ w.heap.size + 1 := by omega
    clear hk3 c0 B02 B12 B22
    simp only [Bool.and_true, Bool.and_false]
    go_wp2_with fail
    refine bodyPost_ret (v := .tuple #[.agg #[.bool tt, .int .u32 z1, .int .u32 z2, .int .u32 z3, .int .u16 z4, .int .u16 z5], .agg #[.string ⟨#[]⟩, .int .i64 0, .int .i64 0]]) (by simp [results, Tryd.results18, go_sem, c1, c2, l1, l2, n12, n21]; done) rfl ⟨rfl, ?_⟩
    repeat (first | with_reducible refine Keep.alloc ?_ _ | with_reducible refine Keep.drew ?_ | (with_reducible refine Keep.setAt ?_ ?_ _; · first | omega | (simp; done) | (simp; omega)))
    exact K3.out

theorem rreadCap_any (t : Bool) (b p a m y off : Int) (hb : 0 ≤ b ∧ b ≤ 4294967295) (hp : 0 ≤ p ∧ p ≤ 4294967295) (ha : 0 ≤ a ∧ a ≤ 4294967295) (ho : -2147483648 ≤ off ∧ off ≤ 2147483647) (h : RMem w P gb gt cb ct bs ts) :
    Calls Tryd.prog 18 #[.pointer (some ⟨P, 0, none⟩), .agg #[.bool t, .int .u32 b, .int .u32 p, .int .u32 a, .int .u16 m, .int .u16 y], .int .i32 off] w fun e w' => e = .returned (.tuple #[rcapV bs ts t b p a m y off, capE bs.length t b p a m y off 1]) ∧ Keep w w' := by
  by_cases hok : capOk t b p a m y off 1
  · have eE : capE bs.length t b p a m y off 1 = granV bs.length (plc a off) := if_pos hok
    rw [eE]
    by_cases hat : capAt bs.length (plc a off)
    · have eV : rcapV bs ts t b p a m y off = capV (ts.getD ((plc a off).toNat / 16) false && hasLC m) (sixteen bs (plc a off).toNat) := if_pos ⟨hok, hat⟩
      rw [eV, granV_ok hat]
      exact rrcap_good t b p a m y off hb hp ha ho hok hat h
    · have eV : rcapV bs ts t b p a m y off = zeroV := if_neg (fun h => hat h.2)
      obtain ⟨n, hn, hl, hg⟩ := loadCapV_not (ts := ts) hat
      rw [eV, hg]
      exact rrcap_far t b p a m y off hb hp ha ho hok n hn hl h
  · have eE : capE bs.length t b p a m y off 1 = wrongV accessT (plc a off) (lackN t b p m y (plc a off) 16 1) := if_neg hok
    have eV : rcapV bs ts t b p a m y off = zeroV := if_neg (fun h => hok h.1)
    rw [eE, eV]
    exact rrcap_lack t b p a m y off hb hp ha ho _ rfl hok

set_option maxHeartbeats 1000000 in
theorem rwcap_lack (t : Bool) (b p a m y off : Int) (tv : Bool) (b' p' a' m' y' : Int) (hb : 0 ≤ b ∧ b ≤ 4294967295) (hp : 0 ≤ p ∧ p ≤ 4294967295) (ha : 0 ≤ a ∧ a ≤ 4294967295) (ho : -2147483648 ≤ off ∧ off ≤ 2147483647) (k : Int) (hk : lackN t b p m y (plc a off) 16 (needs tv) = k) (h0 : ¬ k = 0) :
    Calls Tryd.prog 23 #[.pointer (some ⟨P, 0, none⟩), .agg #[.bool t, .int .u32 b, .int .u32 p, .int .u32 a, .int .u16 m, .int .u16 y], .int .i32 off, .agg #[.bool tv, .int .u32 b', .int .u32 p', .int .u32 a', .int .u16 m', .int .u16 y']] w fun e w' => e = .returned (wrongV accessT (plc a off) k) ∧ Keep w w' := by
  have e1 : (a + off % 4294967296) % 4294967296 = plc a off := by unfold plc; omega
  have e2 : (a + off) % 4294967296 = plc a off := rfl
  have hx := plc_in a off
  obtain ⟨x, hx'⟩ : ∃ x, x = plc a off := ⟨_, rfl⟩
  have hk0 : (k == 0) = false := by simpa using h0
  cases tv
  · have CC := Lib.hid (fun W => rcheck_any t b p a m y (plc a off) 16 2 hb hp (plc_in _ _) (by decide) W)
    have hk' : lackN t b p m y (plc a off) 16 2 = k := hk
    rw [hk', errV_not h0] at CC
    rw [← hx'] at CC e1 e2 hx ⊢
    unfold wrongV accessT at CC ⊢
    clear hk hk' hx'
    go_enter Tryd.func23, Tryd.ntmps23
    go_wp2_with fail
    refine (CC.out _).mono ?_
    rintro e w1 ⟨rfl, hk1⟩
    have B1 : Box w1 (w.heap.size + 1) #[.bool false, .int .u32 b', .int .u32 p', .int .u32 a', .int .u16 m', .int .u16 y'] := ((Box.new1 _ _ _ _).alloc _).keep hk1
    have B2 : Box w1 (w.heap.size + 2) #[.string ⟨#[]⟩, .int .i64 0, .int .i64 0] := (Box.new2 _ _ _ _ _).keep hk1
    have K1 : Hid (Keep w w1) := Lib.hid (((((Keep.refl _).alloc _).alloc _).alloc _).trans hk1)
    have l1 := B1.lt
    have l2 := B2.lt
    have s1 := K1.out.size
    have c1 := B1.cells
    have c2 := B2.cells
    have f2 := B2.thawed
    have ne2 : w.heap.size + 2 ≠ w1.heap.size := by omega
    clear hk1 CC
    go_wp2_with fail
    refine bodyPost_ret (v := .agg #[.string ⟨#[97, 99, 99, 101, 115, 115]⟩, .int .i64 x, .int .i64 k]) (by simp [results, Tryd.results23, go_sem, c2, l2, ne2, show w.heap.size + 2 < w1.heap.size + 1 from by omega]; done) rfl ⟨rfl, ?_⟩
    repeat (first | with_reducible refine Keep.alloc ?_ _ | with_reducible refine Keep.drew ?_ | (with_reducible refine Keep.setAt ?_ ?_ _; · first | omega | (simp; done) | (simp; omega)))
    exact K1.out
  · have CC := Lib.hid (fun W => rcheck_any t b p a m y (plc a off) 16 18 hb hp (plc_in _ _) (by decide) W)
    have hk' : lackN t b p m y (plc a off) 16 18 = k := hk
    rw [hk', errV_not h0] at CC
    rw [← hx'] at CC e1 e2 hx ⊢
    unfold wrongV accessT at CC ⊢
    clear hk hk' hx'
    go_enter Tryd.func23, Tryd.ntmps23
    go_wp2_with fail
    refine (CC.out _).mono ?_
    rintro e w1 ⟨rfl, hk1⟩
    have B1 : Box w1 (w.heap.size + 1) #[.bool true, .int .u32 b', .int .u32 p', .int .u32 a', .int .u16 m', .int .u16 y'] := ((Box.new1 _ _ _ _).alloc _).keep hk1
    have B2 : Box w1 (w.heap.size + 2) #[.string ⟨#[]⟩, .int .i64 0, .int .i64 0] := (Box.new2 _ _ _ _ _).keep hk1
    have K1 : Hid (Keep w w1) := Lib.hid (((((Keep.refl _).alloc _).alloc _).alloc _).trans hk1)
    have l1 := B1.lt
    have l2 := B2.lt
    have s1 := K1.out.size
    have c1 := B1.cells
    have c2 := B2.cells
    have f2 := B2.thawed
    have ne2 : w.heap.size + 2 ≠ w1.heap.size := by omega
    clear hk1 CC
    go_wp2_with fail
    refine bodyPost_ret (v := .agg #[.string ⟨#[97, 99, 99, 101, 115, 115]⟩, .int .i64 x, .int .i64 k]) (by simp [results, Tryd.results23, go_sem, c2, l2, ne2, show w.heap.size + 2 < w1.heap.size + 1 from by omega]; done) rfl ⟨rfl, ?_⟩
    repeat (first | with_reducible refine Keep.alloc ?_ _ | with_reducible refine Keep.drew ?_ | (with_reducible refine Keep.setAt ?_ ?_ _; · first | omega | (simp; done) | (simp; omega)))
    exact K1.out

set_option maxHeartbeats 1000000 in
theorem rwcap_good (t : Bool) (b p a m y off : Int) (tv : Bool) (b' p' a' m' y' : Int) (hb : 0 ≤ b ∧ b ≤ 4294967295) (hp : 0 ≤ p ∧ p ≤ 4294967295) (ha : 0 ≤ a ∧ a ≤ 4294967295) (ho : -2147483648 ≤ off ∧ off ≤ 2147483647) (hb' : 0 ≤ b' ∧ b' ≤ 4294967295) (hp' : 0 ≤ p' ∧ p' ≤ 4294967295) (ha' : 0 ≤ a' ∧ a' ≤ 4294967295) (hm' : 0 ≤ m' ∧ m' ≤ 65535) (hy' : 0 ≤ y' ∧ y' ≤ 65535) (hk : lackN t b p m y (plc a off) 16 (needs tv) = 0) (h : RMem w P gb gt cb ct bs ts) :
    Calls Tryd.prog 23 #[.pointer (some ⟨P, 0, none⟩), .agg #[.bool t, .int .u32 b, .int .u32 p, .int .u32 a, .int .u16 m, .int .u16 y], .int .i32 off, .agg #[.bool tv, .int .u32 b', .int .u32 p', .int .u32 a', .int .u16 m', .int .u16 y']] w fun e w' => e = .returned (granV bs.length (plc a off)) ∧ RMem w' P gb gt cb ct (scapB bs (plc a off) b' p' a' m' y') (scapT bs.length ts (plc a off) tv) ∧ KeepBut (ownsM gb gt) w w' := by
  have e1 : (a + off % 4294967296) % 4294967296 = plc a off := by unfold plc; omega
  have e2 : (a + off) % 4294967296 = plc a off := rfl
  have hx := plc_in a off
  have CS := Lib.hid (fun W (k : Keep w W) => rstoreCap_u P gb gt cb ct bs ts (plc a off) (by unfold In64; omega) tv b' p' a' m' y' hb' hp' ha' hm' hy' W (h.keep k))
  obtain ⟨x, hx'⟩ : ∃ x, x = plc a off := ⟨_, rfl⟩
  obtain ⟨pt, wx, wy, hw⟩ : ∃ pt wx wy, granV bs.length x = wrongV pt wx wy := by unfold granV; split <;> (try split) <;> exact ⟨_, _, _, rfl⟩
  have lP := h.box.lt
  have HG : Hid (gb < w.heap.size ∧ gt < w.heap.size) := Lib.hid ⟨h.bytes.lt, h.tags.lt⟩
  cases tv
  · have CC := Lib.hid (fun W => rcheck_any t b p a m y (plc a off) 16 2 hb hp (plc_in _ _) (by decide) W)
    have hk' : lackN t b p m y (plc a off) 16 2 = 0 := hk
    rw [hk', errV_zero] at CC
    rw [← hx'] at CC CS e1 e2 hx ⊢
    rw [hw] at CS ⊢
    unfold okV wrongV at CC
    unfold wrongV at CS ⊢
    obtain ⟨x0, x1⟩ := hx
    clear hk hk' hx' hw h
    go_enter Tryd.func23, Tryd.ntmps23
    go_wp2_with fail
    refine (CC.out _).mono ?_
    rintro e w1 ⟨rfl, hk1⟩
    have B1 : Box w1 (w.heap.size + 1) #[.bool false, .int .u32 b', .int .u32 p', .int .u32 a', .int .u16 m', .int .u16 y'] := ((Box.new1 _ _ _ _).alloc _).keep hk1
    have B2 : Box w1 (w.heap.size + 2) #[.string ⟨#[]⟩, .int .i64 0, .int .i64 0] := (Box.new2 _ _ _ _ _).keep hk1
    have K1 : Hid (Keep w w1) := Lib.hid (((((Keep.refl _).alloc _).alloc _).alloc _).trans hk1)
    have l1 := B1.lt
    have l2 := B2.lt
    have s1 := K1.out.size
    have c1 := B1.cells
    have c2 := B2.cells
    have f2 := B2.thawed
    have ne2 : w.heap.size + 2 ≠ w1.heap.size := by omega
    clear hk1 CC
    go_wp2_with fail
    refine (CS.out _ (K1.out.alloc _)).mono ?_
    rintro e w2 ⟨rfl, hR, hB⟩
    have B22 := (B2.alloc (.cells #[.string ⟨#[]⟩, .int .i64 0, .int .i64 0] 32)).but hB (fun hO => by have := HG.out; rcases hO with h | h <;> omega)
    have HR := Lib.hid hR
    have HB := Lib.hid (KeepBut.trans ((K1.out.alloc (.cells #[.string ⟨#[]⟩, .int .i64 0, .int .i64 0] 32)).but (ownsM gb gt)) hB)
    have c22 := B22.cells
    have f22 := B22.thawed
    have l22 := B22.lt
    clear hR hB CS B1 B2 c1 c2 f2 K1
    go_wp2_with fail
    refine bodyPost_ret (v := .agg #[.string pt, .int .i64 wx, .int .i64 wy]) (by simp [results, Tryd.results23, go_sem, c22, l22]; done) rfl ⟨rfl, ?_, ?_⟩
    · have KS : KeepBut (fun z => z = w.heap.size + 2) w2 _ := KeepBut.setAt (S := fun z => z = w.heap.size + 2) (b := w.heap.size + 2) (i := 2) (.inl rfl) (KeepBut.setAt (S := fun z => z = w.heap.size + 2) (b := w.heap.size + 2) (i := 1) (.inl rfl) (KeepBut.setAt (S := fun z => z = w.heap.size + 2) (b := w.heap.size + 2) (i := 0) (.inl rfl) (KeepBut.refl _ w2) (.string pt)) (.int .i64 wx)) (.int .i64 wy)
      exact HR.out.but KS (by omega) (fun h => by have := HG.out; omega) (fun h => by have := HG.out; omega)
    · repeat (with_reducible refine KeepBut.setAt ?_ ?_ _; · exact .inr (by omega))
      exact HB.out
  · have CC := Lib.hid (fun W => rcheck_any t b p a m y (plc a off) 16 18 hb hp (plc_in _ _) (by decide) W)
    have hk' : lackN t b p m y (plc a off) 16 18 = 0 := hk
    rw [hk', errV_zero] at CC
    rw [← hx'] at CC CS e1 e2 hx ⊢
    rw [hw] at CS ⊢
    unfold okV wrongV at CC
    unfold wrongV at CS ⊢
    obtain ⟨x0, x1⟩ := hx
    clear hk hk' hx' hw h
    go_enter Tryd.func23, Tryd.ntmps23
    go_wp2_with fail
    refine (CC.out _).mono ?_
    rintro e w1 ⟨rfl, hk1⟩
    have B1 : Box w1 (w.heap.size + 1) #[.bool true, .int .u32 b', .int .u32 p', .int .u32 a', .int .u16 m', .int .u16 y'] := ((Box.new1 _ _ _ _).alloc _).keep hk1
    have B2 : Box w1 (w.heap.size + 2) #[.string ⟨#[]⟩, .int .i64 0, .int .i64 0] := (Box.new2 _ _ _ _ _).keep hk1
    have K1 : Hid (Keep w w1) := Lib.hid (((((Keep.refl _).alloc _).alloc _).alloc _).trans hk1)
    have l1 := B1.lt
    have l2 := B2.lt
    have s1 := K1.out.size
    have c1 := B1.cells
    have c2 := B2.cells
    have f2 := B2.thawed
    have ne2 : w.heap.size + 2 ≠ w1.heap.size := by omega
    clear hk1 CC
    go_wp2_with fail
    refine (CS.out _ (K1.out.alloc _)).mono ?_
    rintro e w2 ⟨rfl, hR, hB⟩
    have B22 := (B2.alloc (.cells #[.string ⟨#[]⟩, .int .i64 0, .int .i64 0] 32)).but hB (fun hO => by have := HG.out; rcases hO with h | h <;> omega)
    have HR := Lib.hid hR
    have HB := Lib.hid (KeepBut.trans ((K1.out.alloc (.cells #[.string ⟨#[]⟩, .int .i64 0, .int .i64 0] 32)).but (ownsM gb gt)) hB)
    have c22 := B22.cells
    have f22 := B22.thawed
    have l22 := B22.lt
    clear hR hB CS B1 B2 c1 c2 f2 K1
    go_wp2_with fail
    refine bodyPost_ret (v := .agg #[.string pt, .int .i64 wx, .int .i64 wy]) (by simp [results, Tryd.results23, go_sem, c22, l22]; done) rfl ⟨rfl, ?_, ?_⟩
    · have KS : KeepBut (fun z => z = w.heap.size + 2) w2 _ := KeepBut.setAt (S := fun z => z = w.heap.size + 2) (b := w.heap.size + 2) (i := 2) (.inl rfl) (KeepBut.setAt (S := fun z => z = w.heap.size + 2) (b := w.heap.size + 2) (i := 1) (.inl rfl) (KeepBut.setAt (S := fun z => z = w.heap.size + 2) (b := w.heap.size + 2) (i := 0) (.inl rfl) (KeepBut.refl _ w2) (.string pt)) (.int .i64 wx)) (.int .i64 wy)
      exact HR.out.but KS (by omega) (fun h => by have := HG.out; omega) (fun h => by have := HG.out; omega)
    · repeat (with_reducible refine KeepBut.setAt ?_ ?_ _; · exact .inr (by omega))
      exact HB.out
theorem rwriteCap_any (t : Bool) (b p a m y off : Int) (tv : Bool) (b' p' a' m' y' : Int) (hb : 0 ≤ b ∧ b ≤ 4294967295) (hp : 0 ≤ p ∧ p ≤ 4294967295) (ha : 0 ≤ a ∧ a ≤ 4294967295) (ho : -2147483648 ≤ off ∧ off ≤ 2147483647) (hb' : 0 ≤ b' ∧ b' ≤ 4294967295) (hp' : 0 ≤ p' ∧ p' ≤ 4294967295) (ha' : 0 ≤ a' ∧ a' ≤ 4294967295) (hm' : 0 ≤ m' ∧ m' ≤ 65535) (hy' : 0 ≤ y' ∧ y' ≤ 65535) (h : RMem w P gb gt cb ct bs ts) :
    Calls Tryd.prog 23 #[.pointer (some ⟨P, 0, none⟩), .agg #[.bool t, .int .u32 b, .int .u32 p, .int .u32 a, .int .u16 m, .int .u16 y], .int .i32 off, .agg #[.bool tv, .int .u32 b', .int .u32 p', .int .u32 a', .int .u16 m', .int .u16 y']] w fun e w' => e = .returned (capE bs.length t b p a m y off (needs tv)) ∧ RMem w' P gb gt cb ct (wcapB bs t b p a m y off tv b' p' a' m' y') (wcapT bs.length ts t b p a m y off tv) ∧ KeepBut (ownsM gb gt) w w' := by
  by_cases hok : capOk t b p a m y off (needs tv)
  · have eE : capE bs.length t b p a m y off (needs tv) = granV bs.length (plc a off) := if_pos hok
    have eB : wcapB bs t b p a m y off tv b' p' a' m' y' = scapB bs (plc a off) b' p' a' m' y' := if_pos hok
    have eT : wcapT bs.length ts t b p a m y off tv = scapT bs.length ts (plc a off) tv := if_pos hok
    rw [eE, eB, eT]
    exact rwcap_good t b p a m y off tv b' p' a' m' y' hb hp ha ho hb' hp' ha' hm' hy' hok h
  · have eE : capE bs.length t b p a m y off (needs tv) = wrongV accessT (plc a off) (lackN t b p m y (plc a off) 16 (needs tv)) := if_neg hok
    have eB : wcapB bs t b p a m y off tv b' p' a' m' y' = bs := if_neg hok
    have eT : wcapT bs.length ts t b p a m y off tv = ts := if_neg hok
    rw [eE, eB, eT]
    refine (rwcap_lack t b p a m y off tv b' p' a' m' y' hb hp ha ho _ rfl hok).mono ?_
    rintro e w' ⟨rfl, hk⟩
    exact ⟨rfl, h.keep hk, hk.but _⟩

end
end Go.Proofs.YtgfoohiaioojoaaDoor
