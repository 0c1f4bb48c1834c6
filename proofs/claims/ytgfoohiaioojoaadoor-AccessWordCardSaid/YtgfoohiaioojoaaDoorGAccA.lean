/- AccNum, AccFns, AccChk: Access as plain numbers: what is wrong first, where it lies; no Go in sight. -/
import Derived.Test.YtgfoohiaioojoaaDoorGDevF
import Derived.Test.YtgfoohiaioojoaaDoorGErr
import Derived.Test.YtgfoohiaioojoaaDoorGCap
/- Access as plain numbers: what is wrong first, where it lies; no Go in sight. -/
namespace Go.Proofs.YtgfoohiaioojoaaDoor
set_option linter.unusedVariables false
set_option linter.unusedSimpArgs false
open Go.RowKit
/-- What is wrong first of n bytes at x through a capability: an error's number, or 0. -/
def lackN (t : Bool) (b p m y x n q : Int) : Int :=
  if t = false then 1 else if (y == 0) = false then 2 else if (bits .and .u16 m q == q) = false then 3 else if hasB b p x n = false then 4 else if 0 < n ∧ ¬ x % n = 0 then 5 else 0
theorem lackN_in (t : Bool) (b p m y x n q : Int) : 0 ≤ lackN t b p m y x n q ∧ lackN t b p m y x n q ≤ 5 := by
  unfold lackN
  repeat' split
  all_goals decide
/-- An error by its number, of a part, of a place; none where the number is 0. -/
def errV (part : ByteArray) (at_ n : Int) : Value := if n = 0 then okV else wrongV part at_ n
def accessT : ByteArray := ⟨#[97, 99, 99, 101, 115, 115]⟩
def sizeT : ByteArray := ⟨#[115, 105, 122, 101]⟩
def sizeN (n : Int) : Int := if n = 1 ∨ n = 2 ∨ n = 4 then 0 else 7
theorem sizeN_in (n : Int) : sizeN n = 0 ∧ (n = 1 ∨ n = 2 ∨ n = 4) ∨ sizeN n = 7 ∧ ¬ n = 1 ∧ ¬ n = 2 ∧ ¬ n = 4 := by
  unfold sizeN
  split
  · exact .inl ⟨rfl, by assumption⟩
  · exact .inr ⟨rfl, by omega⟩
theorem errV_zero (part : ByteArray) (at_ : Int) : errV part at_ 0 = okV := if_pos rfl
theorem errV_not {part : ByteArray} {at_ n : Int} (h : ¬ n = 0) : errV part at_ n = wrongV part at_ n := if_neg h
/-- Where off from an address is. -/
def plc (a off : Int) : Int := (a + off) % 4294967296
theorem plc_in (a off : Int) : 0 ≤ plc a off ∧ plc a off ≤ 4294967295 := by unfold plc; omega
theorem ErrV.notOk {w : World} {v : Value} {part : ByteArray} {at_ n : Int} (h : ErrV w v (wrongV part at_ n)) (hn : ¬ n = 0) : ∃ q, v = faultP q ∧ Box w q #[.string part, .int .i64 at_, .iface 80 (.int .i64 n)] := by
  rcases h with ⟨h1, _⟩ | ⟨q, part', at', n', h1, h2, h3, h4⟩
  · exact absurd (okV_wrong h1.symm) hn
  · unfold wrongV at h2
    simp only [Value.agg.injEq, Array.mk.injEq, List.cons.injEq, Value.int.injEq, Value.string.injEq, true_and, and_true] at h2
    obtain ⟨rfl, rfl, rfl⟩ := h2
    exact ⟨q, h3, h4⟩
end Go.Proofs.YtgfoohiaioojoaaDoor

/- Package access: fault, size, lack, Check, place, number. -/
namespace Go.Proofs.YtgfoohiaioojoaaDoor
set_option linter.unusedVariables false
set_option linter.unusedSimpArgs false
open Go.RowKit Go.Extern.Stop Go.Stop Go.Extern
theorem noIsErrno (v : Value) (xT : TypeId) (w : World) : (Instr.typeAssert (.iface 80 v) xT 157 true).run Tryd.prog w = .ok (.tuple #[.nilIface, .bool false]) w := run_typeAssert_lacksB Tryd.underlying157 (by kernel_rfl) (by kernel_rfl) v xT w
theorem noUnwrapErrno (v : Value) (xT : TypeId) (w : World) : (Instr.typeAssert (.iface 80 v) xT 153 true).run Tryd.prog w = .ok (.tuple #[.nilIface, .bool false]) w := run_typeAssert_lacksB Tryd.underlying153 (by kernel_rfl) (by kernel_rfl) v xT w
theorem noUnwrapsErrno (v : Value) (xT : TypeId) (w : World) : (Instr.typeAssert (.iface 80 v) xT 155 true).run Tryd.prog w = .ok (.tuple #[.nilIface, .bool false]) w := run_typeAssert_lacksB Tryd.underlying155 (by kernel_rfl) (by kernel_rfl) v xT w
set_option maxHeartbeats 2000000 in
/-- errors.Is of a Fault that wraps an Errno, asked for another one: no. -/
theorem is_other (q : Nat) (part : ByteArray) (at_ n m : Int) (hnm : ¬ n = m) (w : World) (hB : Box w q #[.string part, .int .i64 at_, .iface 80 (.int .i64 n)]) :
    Calls Tryd.prog 35 #[.iface 74 (.pointer (some ⟨q, 0, none⟩)), .iface 80 (.int .i64 m)] w fun e w' => e = .returned (.bool false) ∧ Keep w w' := by
  have c0 := hB.cells
  have h8 := callTypeOf
  have h32 := callComparable
  have mR := isMethodComparable
  have hd : (n == m) = false := by simpa using hnm
  have heq := fun W => Lib.run_eql_iface_int (P := Tryd.prog) (k := .i64) W n m Tryd.underlying29 isComp Tryd.underlying80
  rw [hd] at heq
  have nI := noIsFault
  have hU := hasUnwrapFault
  have mU := methodUnwrapFault
  have nE := faultNotErrno
  have nI2 := noIsErrno
  have nU2 := noUnwrapErrno
  have nV2 := noUnwrapsErrno
  go_enter Tryd.func35, Tryd.ntmps35
  go_wp2
  refine wp_loop_rounds 2 ?_
  rw [rounds_succ]
  go_wp2
  rw [rounds_succ]
  go_wp2
  go_ret
  refine ⟨rfl, ?_⟩
  repeat (first | exact Keep.refl _ | with_reducible refine Keep.alloc ?_ _ | with_reducible refine Keep.drew ?_ | with_reducible refine Keep.setCell ?_ (by simp) _)
theorem fault_any (part : ByteArray) (at_ n : Int) (w : World) :
    Calls Tryd.prog 36 #[.string part, .int .i64 at_, .int .i64 n] w fun e w' => ∃ v, e = .returned v ∧ ErrV w' v (errV part at_ n) ∧ Keep w w' := by
  by_cases hn : n = 0
  · subst hn
    rw [errV_zero]
    go_enter Tryd.func36, Tryd.ntmps36
    go_wp2_with fail
    refine (is_wrapped _ part at_ 0 _ (Box.new _ _ _)).mono ?_
    rintro e w1 ⟨rfl, hk1⟩
    go_wp2_with fail
    go_ret
    exact ⟨_, rfl, .isOk, ((Keep.refl _).alloc _).trans hk1⟩
  · rw [errV_not hn]
    go_enter Tryd.func36, Tryd.ntmps36
    go_wp2_with fail
    refine (is_other _ part at_ n 0 hn _ (Box.new _ _ _)).mono ?_
    rintro e w1 ⟨rfl, hk1⟩
    have B1 := (Box.new w #[.string part, .int .i64 at_, .iface 80 (.int .i64 n)] 78).keep hk1
    go_wp2_with fail
    go_ret
    exact ⟨_, rfl, .inr ⟨_, part, at_, n, hn, rfl, rfl, B1⟩, ((Keep.refl _).alloc _).trans hk1⟩
theorem size_any (n : Int) (w : World) :
    Calls Tryd.prog 80 #[.int .i64 n] w fun e w' => e = .returned (.int .i64 (sizeN n)) ∧ Keep w w' := by
  rcases sizeN_in n with ⟨h, rfl | rfl | rfl⟩ | ⟨h, h1, h2, h3⟩
  all_goals (
    rw [h]
    go_enter Tryd.func80, Tryd.ntmps80
    go_wp2_with fail
    go_ret
    exact ⟨rfl, Keep.refl _⟩)
theorem lack_any (t : Bool) (b p a m y x n q : Int) (hb : 0 ≤ b ∧ b ≤ 4294967295) (hp : 0 ≤ p ∧ p ≤ 4294967295) (hx : 0 ≤ x ∧ x ≤ 4294967295) (hn : 0 ≤ n ∧ n ≤ 4294967295) (w : World) :
    Calls Tryd.prog 37 #[.agg #[.bool t, .int .u32 b, .int .u32 p, .int .u32 a, .int .u16 m, .int .u16 y], .int .u32 x, .int .u32 n, .int .u16 q] w fun e w' => e = .returned (.int .i64 (lackN t b p m y x n q)) ∧ Keep w w' := by
  unfold lackN
  cases t
  · go_enter Tryd.func37, Tryd.ntmps37
    go_wp2_with fail
    go_ret
    exact ⟨rfl, (Keep.refl _).alloc _⟩
  rw [if_neg (by decide)]
  rcases Bool.eq_false_or_eq_true (y == 0) with d0 | d0 <;> rw [d0]
  rotate_left
  · rw [if_pos rfl]
    go_enter Tryd.func37, Tryd.ntmps37
    go_wp2_with fail
    go_ret
    exact ⟨rfl, (Keep.refl _).alloc _⟩
  rw [if_neg (by decide)]
  rcases Bool.eq_false_or_eq_true (bits .and .u16 m q == q) with d1 | d1 <;> rw [d1]
  rotate_left
  · rw [if_pos rfl]
    go_enter Tryd.func37, Tryd.ntmps37
    go_wp2_with fail
    go_ret
    exact ⟨rfl, (Keep.refl _).alloc _⟩
  rw [if_neg (by decide)]
  rcases Bool.eq_false_or_eq_true (hasB b p x n) with d2 | d2
  rotate_left
  · rw [d2, if_pos rfl]
    go_enter Tryd.func37, Tryd.ntmps37
    go_wp2_with fail
    refine (has_any _ _ _ _ _ _ x n hb hp hx hn _).mono ?_
    rintro e w1 ⟨rfl, hk1⟩
    rw [d2]
    go_wp2_with fail
    go_ret
    exact ⟨rfl, ((Keep.refl _).alloc _).trans hk1⟩
  rw [if_neg (by rw [d2]; decide)]
  obtain ⟨x0, x1⟩ := hx
  obtain ⟨n0, n1⟩ := hn
  by_cases c : 0 < n
  · by_cases c2 : x % n = 0
    · rw [if_neg (fun h => h.2 c2)]
      have c3 : (x.tmod n == 0) = true := by rw [beq_iff_eq, Int.tmod_eq_emod_of_nonneg x0]; exact c2
      go_enter Tryd.func37, Tryd.ntmps37
      go_wp2_with fail
      refine (has_any _ _ _ _ _ _ x n hb hp ⟨x0, x1⟩ ⟨n0, n1⟩ _).mono ?_
      rintro e w1 ⟨rfl, hk1⟩
      rw [d2]
      go_wp2_with fail
      go_ret
      exact ⟨rfl, ((Keep.refl _).alloc _).trans hk1⟩
    · rw [if_pos ⟨c, c2⟩]
      have c3 : (x.tmod n == 0) = false := by rw [beq_eq_false_iff_ne, Int.tmod_eq_emod_of_nonneg x0]; exact c2
      go_enter Tryd.func37, Tryd.ntmps37
      go_wp2_with fail
      refine (has_any _ _ _ _ _ _ x n hb hp ⟨x0, x1⟩ ⟨n0, n1⟩ _).mono ?_
      rintro e w1 ⟨rfl, hk1⟩
      rw [d2]
      go_wp2_with fail
      go_ret
      exact ⟨rfl, ((Keep.refl _).alloc _).trans hk1⟩
  · rw [if_neg (fun h => c h.1)]
    go_enter Tryd.func37, Tryd.ntmps37
    go_wp2_with fail
    refine (has_any _ _ _ _ _ _ x n hb hp ⟨x0, x1⟩ ⟨n0, n1⟩ _).mono ?_
    rintro e w1 ⟨rfl, hk1⟩
    rw [d2]
    go_wp2_with fail
    go_ret
    exact ⟨rfl, ((Keep.refl _).alloc _).trans hk1⟩
end Go.Proofs.YtgfoohiaioojoaaDoor

/- Package access: Check, place, number; the reference's CheckAccess, sized. -/
namespace Go.Proofs.YtgfoohiaioojoaaDoor
set_option linter.unusedVariables false
set_option linter.unusedSimpArgs false
open Go.RowKit
variable (t : Bool) (b p a m y : Int)
theorem check_any (x n q : Int) (hb : 0 ≤ b ∧ b ≤ 4294967295) (hp : 0 ≤ p ∧ p ≤ 4294967295) (hx : 0 ≤ x ∧ x ≤ 4294967295) (hn : 0 ≤ n ∧ n ≤ 4294967295) (w : World) :
    Calls Tryd.prog 11 #[.agg #[.bool t, .int .u32 b, .int .u32 p, .int .u32 a, .int .u16 m, .int .u16 y], .int .u32 x, .int .u32 n, .int .u16 q] w fun e w' => ∃ v, e = .returned v ∧ ErrV w' v (errV accessT x (lackN t b p m y x n q)) ∧ Keep w w' := by
  obtain ⟨k, hk⟩ : ∃ k, k = lackN t b p m y x n q := ⟨_, rfl⟩
  have C := Lib.hid (fun W => lack_any t b p a m y x n q hb hp hx hn W)
  rw [← hk] at C ⊢
  clear hk
  obtain ⟨x0, x1⟩ := hx
  go_enter Tryd.func11, Tryd.ntmps11
  go_wp2_with fail
  refine (C.out _).mono ?_
  rintro e w1 ⟨rfl, hk1⟩
  go_wp2_with fail
  refine (fault_any accessT x k w1).mono ?_
  rintro e w2 ⟨v, rfl, hv, hk2⟩
  have HV := Lib.hid hv
  clear hv
  go_wp2_with fail
  go_ret
  exact ⟨v, rfl, HV.out, (((Keep.refl _).alloc _).trans hk1).trans hk2⟩
/-- Where it is, if it may be reached. -/
theorem place_any (off n q : Int) (hb : 0 ≤ b ∧ b ≤ 4294967295) (hp : 0 ≤ p ∧ p ≤ 4294967295) (ha : 0 ≤ a ∧ a ≤ 4294967295) (ho : -2147483648 ≤ off ∧ off ≤ 2147483647) (hn : 0 ≤ n ∧ n ≤ 4294967295) (w : World) :
    Calls Tryd.prog 52 #[.agg #[.bool t, .int .u32 b, .int .u32 p, .int .u32 a, .int .u16 m, .int .u16 y], .int .i32 off, .int .u32 n, .int .u16 q] w fun e w' => Keep w w' ∧
      ((lackN t b p m y (plc a off) n q = 0 ∧ e = .returned (.tuple #[.int .i64 (plc a off), .nilIface])) ∨ (¬ lackN t b p m y (plc a off) n q = 0 ∧ ∃ f, e = .returned (.tuple #[.int .i64 0, faultP f]) ∧ ErrV w' (faultP f) (wrongV accessT (plc a off) (lackN t b p m y (plc a off) n q)))) := by
  obtain ⟨x, hx⟩ : ∃ x, x = plc a off := ⟨_, rfl⟩
  have hxi : 0 ≤ x ∧ x ≤ 4294967295 := by rw [hx]; exact plc_in _ _
  rw [← hx]
  have e1 : (a + off % 4294967296) % 4294967296 = x := by rw [hx]; unfold plc; omega
  have e2 : (a + off) % 4294967296 = x := by rw [hx]; rfl
  obtain ⟨k, hk⟩ : ∃ k, k = lackN t b p m y x n q := ⟨_, rfl⟩
  have C := Lib.hid (fun W => check_any t b p a m y x n q hb hp hxi hn W)
  rw [← hk] at C ⊢
  clear hk hx
  obtain ⟨x0, x1⟩ := hxi
  go_enter Tryd.func52, Tryd.ntmps52
  go_wp2_with fail
  refine (C.out _).mono ?_
  rintro e w1 ⟨v, rfl, hv, hk1⟩
  have HK : Hid (Keep w w1) := Lib.hid (((Keep.refl _).alloc _).trans hk1)
  clear hk1
  by_cases h : k = 0
  · subst h
    rw [errV_zero] at hv
    obtain rfl := hv.ok
    go_wp2_with fail
    refine bodyPost_ret (v := .tuple #[.int .i64 x, .nilIface]) (by simp [results, Tryd.results52, go_sem]; done) rfl ?_
    first | exact ⟨HK.out, rfl⟩ | exact ⟨HK.out, .inl ⟨rfl, rfl⟩⟩
  · rw [errV_not h] at hv
    obtain ⟨f, rfl⟩ := hv.fault (fun e => h (okV_wrong e.symm))
    have HV := Lib.hid hv
    clear hv
    unfold faultP
    go_wp2_with fail
    refine bodyPost_ret (v := .tuple #[.int .i64 0, .iface 74 (.pointer (some ⟨f, 0, none⟩))]) (by simp [results, Tryd.results52, go_sem]; done) rfl ?_
    first | exact ⟨HK.out, f, rfl, HV.out⟩ | exact ⟨HK.out, .inr ⟨h, f, rfl, HV.out⟩⟩
/-- What is wrong first of a number of n bytes: its size, what the capability allows. -/
def numE (off n q : Int) : Value := if sizeN n = 0 then errV accessT (plc a off) (lackN t b p m y (plc a off) n q) else wrongV sizeT n 7
def numOk (off n q : Int) : Prop := sizeN n = 0 ∧ lackN t b p m y (plc a off) n q = 0
theorem number_any (off n q : Int) (hb : 0 ≤ b ∧ b ≤ 4294967295) (hp : 0 ≤ p ∧ p ≤ 4294967295) (ha : 0 ≤ a ∧ a ≤ 4294967295) (ho : -2147483648 ≤ off ∧ off ≤ 2147483647) (hn : In64 n) (w : World) :
    Calls Tryd.prog 45 #[.agg #[.bool t, .int .u32 b, .int .u32 p, .int .u32 a, .int .u16 m, .int .u16 y], .int .i32 off, .int .i64 n, .int .u16 q] w fun e w' => Keep w w' ∧
      ((numOk t b p a m y off n q ∧ e = .returned (.tuple #[.int .i64 (plc a off), .nilIface])) ∨ (¬ numOk t b p a m y off n q ∧ numE t b p a m y off n q ≠ okV ∧ ∃ f, e = .returned (.tuple #[.int .i64 0, faultP f]) ∧ ErrV w' (faultP f) (numE t b p a m y off n q))) := by
  unfold In64 at hn
  unfold numOk numE
  obtain ⟨s, hs⟩ : ∃ s, s = sizeN n := ⟨_, rfl⟩
  have hsn := sizeN_in n
  have C := Lib.hid (fun W => size_any n W)
  rw [← hs] at C hsn ⊢
  clear hs
  go_enter Tryd.func45, Tryd.ntmps45
  go_wp2_with fail
  refine (C.out _).mono ?_
  rintro e w1 ⟨rfl, hk1⟩
  have BC : Box w1 w.heap.size #[.bool t, .int .u32 b, .int .u32 p, .int .u32 a, .int .u16 m, .int .u16 y] := (Box.new _ _ _).keep hk1
  have K1 : Hid (Keep w w1) := Lib.hid (((Keep.refl _).alloc _).trans hk1)
  clear hk1
  go_wp2_with fail
  refine (fault_any sizeT n s w1).mono ?_
  rintro e w2 ⟨v, rfl, hv, hk2⟩
  have BC2 := BC.keep hk2
  have cC := BC2.cells
  have l2 := BC2.lt
  have K2 : Hid (Keep w w2) := Lib.hid (K1.out.trans hk2)
  clear hk2 K1 BC
  rcases hsn with ⟨rfl, hn3⟩ | ⟨rfl, hn3⟩
  · rw [errV_zero] at hv
    obtain rfl := hv.ok
    have e1 : n % 4294967296 = n := by omega
    have n0 : 0 ≤ n ∧ n ≤ 4 := by omega
    go_wp2_with fail
    refine (place_any t b p a m y off n q hb hp ha ho (by omega) w2).mono ?_
    rintro e w3 ⟨hk3, h⟩
    have K3 : Hid (Keep w w3) := Lib.hid (K2.out.trans hk3)
    clear hk3
    rcases h with ⟨h1, rfl⟩ | ⟨h1, f, rfl, h2⟩
    · go_wp2_with fail
      refine bodyPost_ret (v := .tuple #[.int .i64 (plc a off), .nilIface]) (by simp [results, Tryd.results45, go_sem]; done) rfl ?_
      first | exact ⟨K3.out, rfl⟩ | exact ⟨K3.out, .inl ⟨⟨rfl, h1⟩, rfl⟩⟩
    · have H2 := Lib.hid h2
      clear h2
      unfold faultP
      go_wp2_with fail
      refine bodyPost_ret (v := .tuple #[.int .i64 0, .iface 74 (.pointer (some ⟨f, 0, none⟩))]) (by simp [results, Tryd.results45, go_sem]; done) rfl ?_
      rw [errV_not h1]
      exact ⟨K3.out, fun h => h1 (okV_wrong h.symm), f, rfl, H2.out⟩
  · rw [errV_not (by decide)] at hv
    obtain ⟨f, rfl⟩ := hv.fault (fun e => absurd (okV_wrong e.symm) (by decide))
    have HV := Lib.hid hv
    clear hv
    unfold faultP
    go_wp2_with fail
    refine bodyPost_ret (v := .tuple #[.int .i64 0, .iface 74 (.pointer (some ⟨f, 0, none⟩))]) (by simp [results, Tryd.results45, go_sem]; done) rfl ?_
    exact ⟨K2.out, fun h => absurd (okV_wrong h.symm) (by decide), f, rfl, HV.out⟩
/-- The reference's. -/
theorem rsized_any (n : Int) (hn : In64 n) (w : World) :
    Calls Tryd.prog 48 #[.int .i64 n] w fun e w' => e = .returned (errV sizeT n (sizeN n)) ∧ Keep w w' := by
  rcases sizeN_in n with ⟨h, rfl | rfl | rfl⟩ | ⟨h, h1, h2, h3⟩
  rotate_left 3
  · rw [h, errV_not (by decide)]
    unfold wrongV sizeT
    have b1 : (n == 1) = false := by simpa using h1
    have b2 : (n == 2) = false := by simpa using h2
    have b3 : (n == 4) = false := by simpa using h3
    go_enter Tryd.func48, Tryd.ntmps48
    go_wp2_with fail
    refine bodyPost_ret (v := .agg #[.string ⟨#[115, 105, 122, 101]⟩, .int .i64 n, .int .i64 7]) (by simp [results, Tryd.results48, go_sem]) rfl ⟨rfl, ?_⟩
    repeat (with_reducible refine Keep.setCell ?_ (by simp) _)
    exact (Keep.refl _).alloc _
  all_goals (
    rw [h, errV_zero]
    unfold okV wrongV
    go_enter Tryd.func48, Tryd.ntmps48
    go_wp2_with fail
    refine bodyPost_ret (v := .agg #[.string ⟨#[]⟩, .int .i64 0, .int .i64 0]) (by simp [results, Tryd.results48, go_sem]) rfl ⟨rfl, ?_⟩
    repeat (with_reducible refine Keep.setCell ?_ (by simp) _)
    exact (Keep.refl _).alloc _)
end Go.Proofs.YtgfoohiaioojoaaDoor
