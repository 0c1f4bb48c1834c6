/- AccDev, AccDevC, AccDevS: Package access: Load, Store, LoadCap, StoreCap. -/
import Derived.Test.YtgfoohiaioojoaaDoorGAccB
/- Package access: Load, Store, LoadCap, StoreCap. -/
namespace Go.Proofs.YtgfoohiaioojoaaDoor
set_option linter.unusedVariables false
set_option linter.unusedSimpArgs false
open Go.RowKit
section
variable {w : World} {dm : Nat} {O : Nat → Prop} {bs : List Int} {ts : List Bool}
set_option maxHeartbeats 2000000 in
theorem aload_any (t : Bool) (b p a m y off n : Int) (sign : Bool) (hb : 0 ≤ b ∧ b ≤ 4294967295) (hp : 0 ≤ p ∧ p ≤ 4294967295) (ha : 0 ≤ a ∧ a ≤ 4294967295) (ho : -2147483648 ≤ off ∧ off ≤ 2147483647) (hn : In64 n) (h : DMem w dm O bs ts) :
    Calls Tryd.prog 15 #[.pointer (some ⟨dm, 0, none⟩), .agg #[.bool t, .int .u32 b, .int .u32 p, .int .u32 a, .int .u16 m, .int .u16 y], .int .i32 off, .int .i64 n, .bool sign] w fun e w' => ∃ u, e = .returned (.tuple #[.int .u32 (readN bs t b p a m y off n sign), u]) ∧ ErrV w' u (readE bs.length t b p a m y off n) ∧ Keep w w' := by
  have hI := h.isB
  obtain ⟨RN, hRN⟩ : ∃ RN, RN = readN bs t b p a m y off n sign := ⟨_, rfl⟩
  obtain ⟨RE, hRE⟩ : ∃ RE, RE = readE bs.length t b p a m y off n := ⟨_, rfl⟩
  rw [← hRN, ← hRE]
  have HRN := Lib.hid hRN
  have HRE := Lib.hid hRE
  clear hRN hRE
  have D := Lib.hid h
  have HI := Lib.hid hI
  have HN := Lib.hid hn
  clear h hI
  have C := Lib.hid (fun W => number_any t b p a m y off n 1 hb hp ha ho HN.out W)
  have hx := plc_in a off
  obtain ⟨x, hx'⟩ : ∃ x, x = plc a off := ⟨_, rfl⟩
  have HX := Lib.hid hx'
  rw [← hx'] at hx C
  clear hx'
  unfold In64 at hn
  go_enter Tryd.func15, Tryd.ntmps15
  go_wp2_with fail
  refine (C.out _).mono ?_
  rintro e w1 ⟨hk1, h⟩
  have K1 : Hid (Keep w w1) := Lib.hid (((Keep.refl _).alloc _).trans hk1)
  clear hk1
  rcases h with ⟨hok, rfl⟩ | ⟨hno, hne, f, rfl, hf⟩
  rotate_left
  · have HF := Lib.hid hf
    have E1 : RN = 0 := by rw [HRN.out]; exact if_neg (fun h => hno h.1)
    have E2 : RE = numE t b p a m y off n 1 := by rw [HRE.out]; exact if_neg hno
    subst E1 E2
    have HNo := Lib.hid hno
    clear hf hno hne HRN HRE
    unfold faultP
    go_wp2_with fail
    refine bodyPost_ret (v := .tuple #[.int .u32 0, .iface 74 (.pointer (some ⟨f, 0, none⟩))]) (by simp [results, Tryd.results15, go_sem]; done) rfl ?_
    exact ⟨_, rfl, HF.out, K1.out⟩
  have hn3 := numOk_size hok
  have E2 : RE = loadV bs.length x n := by rw [HRE.out, HX.out]; exact if_pos hok
  have HOK := Lib.hid hok
  have E3 : readAt bs a off n = leW ((bs.drop x.toNat).take n.toNat) := by rw [HX.out]; rfl
  have HE3 := Lib.hid E3
  have HE2 := Lib.hid E2
  clear E2 E3 hok HRE
  have n1 : 1 ≤ n ∧ n ≤ 4 := by omega
  have DL := Lib.hid (fun W (k : Keep w W) => dload_u x n (by unfold In64; omega) HN.out (D.out.keep k))
  have HN3 := Lib.hid hn3
  clear hn3
  obtain ⟨x0, x1⟩ := hx
  go_wp2_with fail
  refine (DL.out _ K1.out).mono ?_
  rintro e w2 ⟨s, u, rfl, hu, hs, hk2⟩
  have K2 : Hid (Keep w w2) := Lib.hid (K1.out.trans hk2)
  clear hk2 DL K1
  cases hr : reachB x n bs.length
  · have E1 : RN = 0 := by rw [HRN.out]; exact if_neg (fun h => by rw [← HX.out, hr] at h; exact absurd h.2 (by decide))
    have hE : loadV bs.length x n = rangeV x := by unfold loadV; rw [hr]; rfl
    rw [hE] at hu
    have E2 : RE = rangeV x := by rw [HE2.out, hE]
    subst E1 E2
    obtain ⟨f, rfl⟩ := hu.fault (fun e => absurd (okV_wrong e.symm) (by decide))
    obtain ⟨ad, cs, rfl, -⟩ := hs
    have HU := Lib.hid hu
    clear hu hE hr HRN HE2
    unfold faultP
    go_wp2_with fail
    refine bodyPost_ret (v := .tuple #[.int .u32 0, .iface 74 (.pointer (some ⟨f, 0, none⟩))]) (by simp [results, Tryd.results15, go_sem]; done) rfl ?_
    exact ⟨_, rfl, HU.out, K2.out⟩
  have hE : loadV bs.length x n = okV := by unfold loadV; rw [hr]; rfl
  have hL : loadL bs x n = (bs.drop x.toNat).take n.toNat := by unfold loadL; rw [if_pos hr]
  rw [hE] at hu
  have E2 : RE = okV := by rw [HE2.out, hE]
  subst E2
  obtain rfl := hu.ok
  rw [hL] at hs
  have hr3 := reachB_true hr
  obtain ⟨xs, hxs⟩ : ∃ xs, xs = (bs.drop x.toNat).take n.toNat := ⟨_, rfl⟩
  have hxl : xs.length = 1 ∨ xs.length = 2 ∨ xs.length = 4 := by
    have := HN3.out
    rw [hxs]
    simp only [List.length_take, List.length_drop]
    omega
  have hxb : ∀ z ∈ xs, IsByte z := fun z hz => HI.out z (by rw [hxs] at hz; exact List.mem_of_mem_drop (List.mem_of_mem_take hz))
  rw [← hxs] at hs
  have hJ := joined_any s xs _ hxb hxl w2 hs
  have hin := leW_in xs hxb
  have E1 : RN = if sign = true then sgnVal (leW xs) (8 * n) else leW xs := by
    rw [HRN.out, hxs]
    unfold readN
    rw [HE3.out, ← HX.out, if_pos ⟨HOK.out, hr⟩]
  have HJ := Lib.hid hJ
  obtain ⟨ad, cs, rfl, -⟩ := hs
  obtain ⟨z, hz⟩ : ∃ z, z = leW xs := ⟨_, rfl⟩
  rw [← hz] at hin HJ E1
  obtain ⟨z0, z1⟩ := hin
  clear hu hE hL hr3 hxl hxb hJ hr hxs hz HRN HE2
  subst E1
  go_wp2_with fail
  refine HJ.out.mono ?_
  rintro e w3 ⟨rfl, rfl⟩
  clear HJ
  cases sign
  · go_wp2_with fail
    refine bodyPost_ret (v := .tuple #[.int .u32 z, .nilIface]) (by simp [results, Tryd.results15, go_sem]; done) rfl ?_
    exact ⟨_, rfl, .isOk, K2.out⟩
  · go_wp2_with fail
    refine (signed_any z (8 * n) _ z0 (by omega) (by omega) (by omega)).mono ?_
    rintro e w4 ⟨rfl, rfl⟩
    go_wp2_with fail
    refine bodyPost_ret (v := .tuple #[.int .u32 (sgnVal z (8 * n)), .nilIface]) (by simp [results, Tryd.results15, go_sem]; done) rfl ?_
    exact ⟨_, rfl, .isOk, K2.out⟩
set_option maxHeartbeats 2000000 in
theorem astore_any (t : Bool) (b p a m y off n v : Int) (hb : 0 ≤ b ∧ b ≤ 4294967295) (hp : 0 ≤ p ∧ p ≤ 4294967295) (ha : 0 ≤ a ∧ a ≤ 4294967295) (ho : -2147483648 ≤ off ∧ off ≤ 2147483647) (hn : In64 n) (hv : 0 ≤ v ∧ v ≤ 4294967295) (h : DMem w dm O bs ts) :
    Calls Tryd.prog 19 #[.pointer (some ⟨dm, 0, none⟩), .agg #[.bool t, .int .u32 b, .int .u32 p, .int .u32 a, .int .u16 m, .int .u16 y], .int .i32 off, .int .i64 n, .int .u32 v] w fun e w' => ∃ u, e = .returned u ∧ ErrV w' u (writeE bs.length t b p a m y off n) ∧ DMem w' dm O (writeB bs t b p a m y off n v) (writeT bs.length ts t b p a m y off n) ∧ KeepBut O w w' := by
  have D := Lib.hid h
  have HN := Lib.hid hn
  have HV := Lib.hid hv
  clear h hv
  by_cases hok : numOk t b p a m y off n 2
  · have hn3 := numOk_size hok
    have hx := plc_in a off
    have eE : writeE bs.length t b p a m y off n = storeV bs.length (plc a off) n := if_pos hok
    have eB : writeB bs t b p a m y off n v = storeB bs (plc a off) ((b4 v).take n.toNat) := if_pos hok
    have eT : writeT bs.length ts t b p a m y off n = storeT bs.length ts (plc a off) n.toNat := if_pos hok
    rw [eE, eB, eT]
    have HOK := Lib.hid hok
    have tk := take_b4 v n hn3
    obtain ⟨x, hx'⟩ : ∃ x, x = plc a off := ⟨_, rfl⟩
    have C := Lib.hid (fun W => number_any t b p a m y off n 2 hb hp ha ho HN.out W)
    rw [← hx'] at hx C ⊢
    clear hx'
    obtain ⟨N, rfl⟩ := Int.eq_ofNat_of_zero_le (show 0 ≤ n by omega)
    rw [Int.toNat_natCast] at tk ⊢
    have TK := Lib.hid tk
    have hN : N = 1 ∨ N = 2 ∨ N = 4 := by omega
    have HN3 := Lib.hid hN
    have n4 : N ≤ 4 := by omega
    clear eE eB eT hok hn3 tk hN hn
    go_enter Tryd.func19, Tryd.ntmps19
    go_wp2_with fail
    refine (C.out _).mono ?_
    rintro e w1 ⟨hk1, h⟩
    have K1 : Hid (Keep w w1) := Lib.hid (((Keep.refl _).alloc _).trans hk1)
    clear hk1
    obtain rfl : e = .returned (.tuple #[.int .i64 x, .nilIface]) := by
      rcases h with ⟨_, h⟩ | ⟨h, _⟩
      · exact h
      · exact absurd HOK.out h
    clear h C
    obtain ⟨x0, x1⟩ := hx
    go_wp2_with fail
    refine (split_any v HV.out N HN3.out _).mono ?_
    rintro e w2 ⟨rfl, hB, hk2⟩
    have K2 : Hid (Keep w w2) := Lib.hid (K1.out.trans hk2)
    have hlt := K1.out.size
    have LI : Hid (Lies w2 (.slice (some ⟨w1.heap.size, 0, none⟩) N N) ((b4 v).take N) O) := Lib.hid (by
      refine ⟨_, N, by rw [TK.out], by rw [TK.out]; exact Nat.le_refl _, by omega, fun k hk => ⟨w1.heap.size, 0, rfl, fun hO => by have := D.out.lt _ hO; omega, hB.lt, ?_⟩⟩
      rw [hB.cells, Nat.zero_add]
      simp only [u8s, List.getD_eq_getElem?_getD, List.getElem?_eq_getElem hk, List.getElem?_toArray, List.getElem?_map, Option.map_some, Option.getD_some])
    have DS := Lib.hid (dstore_u x (by unfold In64; omega) _ ((b4 v).take N) (fun z hz => b4_bytes v z (List.mem_of_mem_take hz)) (D.out.keep K2.out) LI.out)
    clear hk2 K1 hlt hB LI
    rw [TK.out] at DS
    go_wp2_with fail
    refine DS.out.mono ?_
    rintro e w3 ⟨u, rfl, hu, hD, hB⟩
    have HU := Lib.hid hu
    have HD := Lib.hid hD
    have HB := Lib.hid (KeepBut.trans (K2.out.but O) hB)
    clear hu hD hB DS
    go_wp2_with fail
    go_ret
    exact ⟨u, rfl, HU.out, HD.out, HB.out⟩
  · have eE : writeE bs.length t b p a m y off n = numE t b p a m y off n 2 := if_neg hok
    have eB : writeB bs t b p a m y off n v = bs := if_neg hok
    have eT : writeT bs.length ts t b p a m y off n = ts := if_neg hok
    rw [eE, eB, eT]
    have HOK := Lib.hid hok
    clear eE eB eT hok
    unfold In64 at hn
    go_enter Tryd.func19, Tryd.ntmps19
    go_wp2_with fail
    refine (number_any t b p a m y off n 2 hb hp ha ho HN.out _).mono ?_
    rintro e w1 ⟨hk1, h⟩
    have K1 : Hid (Keep w w1) := Lib.hid (((Keep.refl _).alloc _).trans hk1)
    clear hk1
    obtain ⟨f, rfl, hf⟩ : ∃ f, e = .returned (.tuple #[.int .i64 0, faultP f]) ∧ ErrV w1 (faultP f) (numE t b p a m y off n 2) := by
      rcases h with ⟨h, _⟩ | ⟨_, _, h⟩
      · exact absurd h HOK.out
      · exact h
    have HF := Lib.hid hf
    clear h hf
    unfold faultP
    go_wp2_with fail
    go_ret
    exact ⟨_, rfl, HF.out, D.out.keep K1.out, K1.out.but _⟩
end
end Go.Proofs.YtgfoohiaioojoaaDoor

/- Package access: LoadCap, StoreCap. -/
namespace Go.Proofs.YtgfoohiaioojoaaDoor
set_option linter.unusedVariables false
set_option linter.unusedSimpArgs false
open Go.RowKit
section
variable {w : World} {dm : Nat} {O : Nat → Prop} {bs : List Int} {ts : List Bool}
theorem capAt_not {L : Nat} {x : Int} (h : ¬ capAt L x) : ∃ n, (n = 6 ∨ n = 5) ∧ granV L x = wrongV ⟨#[109, 101, 109]⟩ x n := by
  unfold capAt at h
  unfold granV
  by_cases h1 : reachB x 16 L = true
  · exact ⟨5, .inr rfl, by rw [if_pos h1, if_neg (fun h2 => h ⟨h1, h2⟩)]; rfl⟩
  · exact ⟨6, .inl rfl, by rw [if_neg h1]; rfl⟩
theorem lcapV_not {bs : List Int} {ts : List Bool} {x : Int} (h : ¬ capAt bs.length x) : lcapV bs ts x = zeroV := by
  unfold capAt at h
  unfold lcapV
  by_cases h1 : reachB x 16 bs.length = true
  · rw [if_pos h1, if_neg (fun h2 => h ⟨h1, h2⟩)]
  · rw [if_neg h1]
theorem lcapV_at {bs : List Int} {ts : List Bool} {x : Int} (h : capAt bs.length x) : lcapV bs ts x = capV (ts.getD (x.toNat / 16) false) (sixteen bs x.toNat) := by
  unfold lcapV
  rw [if_pos h.1, if_pos h.2]
/-- A Fault stays where a capability's cells are written. -/
theorem errV_set {w w' : World} {f c : Nat} {wv : Value} {u : Bool} (h : ErrV w (.iface 74 (.pointer (some ⟨f, 0, none⟩))) wv) (hc : w.cell? ⟨c, 0, none⟩ = some (.bool u)) (k : KeepBut (fun z => z = c) w w') : ErrV w' (.iface 74 (.pointer (some ⟨f, 0, none⟩))) wv :=
  ErrV.but h k (fun q hq hz => by
    unfold faultP at hq
    simp only [Value.iface.injEq, Value.pointer.injEq, Option.some.injEq, Addr.mk.injEq, and_true, true_and] at hq
    subst hq
    exact ErrV.notBool (q := f) h hc hz)
set_option maxHeartbeats 2000000 in
theorem aloadCap_any (t : Bool) (b p a m y off : Int) (hb : 0 ≤ b ∧ b ≤ 4294967295) (hp : 0 ≤ p ∧ p ≤ 4294967295) (ha : 0 ≤ a ∧ a ≤ 4294967295) (ho : -2147483648 ≤ off ∧ off ≤ 2147483647) (h : DMem w dm O bs ts) (hE : ErrT w) :
    Calls Tryd.prog 17 #[.pointer (some ⟨dm, 0, none⟩), .agg #[.bool t, .int .u32 b, .int .u32 p, .int .u32 a, .int .u16 m, .int .u16 y], .int .i32 off] w fun e w' => ∃ u, e = .returned (.tuple #[rcapV bs ts t b p a m y off, u]) ∧ ErrV w' u (capE bs.length t b p a m y off 1) ∧ Keep w w' := by
  have D := Lib.hid h
  have HE := Lib.hid hE
  have C := Lib.hid (fun W => place_any t b p a m y off 16 1 hb hp ha ho (by decide) W)
  have hx := plc_in a off
  clear h hE
  by_cases hok : capOk t b p a m y off 1
  rotate_left
  · have eE : capE bs.length t b p a m y off 1 = wrongV accessT (plc a off) (lackN t b p m y (plc a off) 16 1) := if_neg hok
    have eV : rcapV bs ts t b p a m y off = zeroV := if_neg (fun h => hok h.1)
    rw [eE, eV]
    unfold capOk at hok
    have HOK := Lib.hid hok
    unfold zeroV
    clear eE eV hok
    go_enter Tryd.func17, Tryd.ntmps17
    go_wp2_with fail
    refine (C.out _).mono ?_
    rintro e w1 ⟨hk1, h⟩
    have B1 : Box w1 (w.heap.size + 1) #[.bool false, .int .u32 0, .int .u32 0, .int .u32 0, .int .u16 0, .int .u16 0] := (Box.new1 _ _ _ _).keep hk1
    have K1 : Hid (Keep w w1) := Lib.hid ((((Keep.refl _).alloc _).alloc _).trans hk1)
    obtain ⟨f, rfl, hf⟩ : ∃ f, e = .returned (.tuple #[.int .i64 0, faultP f]) ∧ ErrV w1 (faultP f) (wrongV accessT (plc a off) (lackN t b p m y (plc a off) 16 1)) := by
      rcases h with ⟨h, _⟩ | ⟨_, h⟩
      · exact absurd h HOK.out
      · exact h
    have c1 := B1.cells
    have f1 := B1.thawed
    have l1 := B1.lt
    have HF := Lib.hid hf
    clear h hf hk1 C
    unfold faultP
    go_wp2_with fail
    refine bodyPost_ret (v := .tuple #[.agg #[.bool false, .int .u32 0, .int .u32 0, .int .u32 0, .int .u16 0, .int .u16 0], .iface 74 (.pointer (some ⟨f, 0, none⟩))]) (by simp [results, Tryd.results17, go_sem, c1, l1]; done) rfl ?_
    refine ⟨_, rfl, errV_set HF.out (c1 0) ?_, ?_⟩
    · repeat (first | with_reducible refine KeepBut.alloc ?_ _ | (with_reducible refine KeepBut.setAt ?_ ?_ _; · first | exact .inl rfl | (refine .inr ?_; first | omega | (simp; done) | (simp; omega))))
      exact KeepBut.refl _ _
    · repeat (first | with_reducible refine Keep.alloc ?_ _ | (with_reducible refine Keep.setAt ?_ ?_ _; · first | omega | (simp; done) | (simp; omega)))
      exact K1.out
  have hx0 := hx
  by_cases hat : capAt bs.length (plc a off)
  rotate_left
  · obtain ⟨n, hn, hg⟩ := capAt_not hat
    have n0 : ¬ n = 0 := by omega
    have eE : capE bs.length t b p a m y off 1 = granV bs.length (plc a off) := if_pos hok
    have eV : rcapV bs ts t b p a m y off = zeroV := if_neg (fun h => hat h.2)
    have eL : lcapV bs ts (plc a off) = zeroV := lcapV_not hat
    have DL := Lib.hid (fun W (k : Keep w W) => dloadCap_any (plc a off) (by unfold In64; omega) (D.out.keep k) (HE.out.keep k))
    rw [eE, eV]
    rw [hg] at DL ⊢
    rw [eL] at DL
    unfold capOk at hok
    have HOK := Lib.hid hok
    obtain ⟨x, hx'⟩ : ∃ x, x = plc a off := ⟨_, rfl⟩
    rw [← hx'] at hx C DL HOK ⊢
    unfold zeroV at DL ⊢
    clear eE eV eL hok hat hg hx' hx0
    obtain ⟨x0, x1⟩ := hx
    go_enter Tryd.func17, Tryd.ntmps17
    go_wp2_with fail
    refine (C.out _).mono ?_
    rintro e w1 ⟨hk1, h⟩
    obtain rfl : e = .returned (.tuple #[.int .i64 x, .nilIface]) := by
      rcases h with ⟨_, h⟩ | ⟨h, _⟩
      · exact h
      · exact absurd HOK.out h
    have B1 : Box w1 (w.heap.size + 1) #[.bool false, .int .u32 0, .int .u32 0, .int .u32 0, .int .u16 0, .int .u16 0] := (Box.new1 _ _ _ _).keep hk1
    have K1 : Hid (Keep w w1) := Lib.hid ((((Keep.refl _).alloc _).alloc _).trans hk1)
    clear h hk1 C
    go_wp2_with fail
    refine (DL.out _ K1.out).mono ?_
    rintro e w2 ⟨hk2, u, rfl, hu⟩
    obtain ⟨f, rfl⟩ := hu.fault (fun e => n0 (okV_wrong e.symm))
    have HU := Lib.hid hu
    have B2 := B1.keep hk2
    have K2 : Hid (Keep w w2) := Lib.hid (K1.out.trans hk2)
    have c1 := B2.cells
    have f1 := B2.thawed
    have l1 := B2.lt
    have ne1 : w.heap.size + 1 ≠ w2.heap.size := by omega
    have hs2 := K2.out.size
    clear hu hk2 K1 B1 DL
    unfold faultP
    go_wp2_with fail
    refine bodyPost_ret (v := .tuple #[.agg #[.bool false, .int .u32 0, .int .u32 0, .int .u32 0, .int .u16 0, .int .u16 0], .iface 74 (.pointer (some ⟨f, 0, none⟩))]) (by simp [results, Tryd.results17, go_sem, c1, l1, ne1]; done) rfl ?_
    refine ⟨_, rfl, errV_set HU.out (c1 0) ?_, ?_⟩
    · repeat (first | with_reducible refine KeepBut.alloc ?_ _ | (with_reducible refine KeepBut.setAt ?_ ?_ _; · first | exact .inl rfl | (refine .inr ?_; first | omega | (simp; done) | (simp; omega))))
      exact KeepBut.refl _ _
    · repeat (first | with_reducible refine Keep.alloc ?_ _ | (with_reducible refine Keep.setAt ?_ ?_ _; · first | omega | (simp; done) | (simp; omega)))
      exact K2.out
  have eE : capE bs.length t b p a m y off 1 = okV := (if_pos hok).trans (granV_ok hat)
  have eV : rcapV bs ts t b p a m y off = capV (ts.getD ((plc a off).toNat / 16) false && hasLC m) (sixteen bs (plc a off).toNat) := if_pos ⟨hok, hat⟩
  have eL : lcapV bs ts (plc a off) = capV (ts.getD ((plc a off).toNat / 16) false) (sixteen bs (plc a off).toNat) := lcapV_at hat
  have DL := Lib.hid (fun W (k : Keep w W) => dloadCap_any (plc a off) (by unfold In64; omega) (D.out.keep k) (HE.out.keep k))
  rw [granV_ok hat, eL] at DL
  rw [eE, eV]
  unfold capOk at hok
  have HOK := Lib.hid hok
  obtain ⟨x, hx'⟩ : ∃ x, x = plc a off := ⟨_, rfl⟩
  rw [← hx'] at hx C DL HOK ⊢
  obtain ⟨tt, htt⟩ : ∃ tt, tt = ts.getD (x.toNat / 16) false := ⟨_, rfl⟩
  obtain ⟨z1, z2, z3, z4, z5, hz⟩ : ∃ z1 z2 z3 z4 z5, ∀ u, capV u (sixteen bs x.toNat) = .agg #[.bool u, .int .u32 z1, .int .u32 z2, .int .u32 z3, .int .u16 z4, .int .u16 z5] := ⟨_, _, _, _, _, fun _ => rfl⟩
  rw [← htt] at DL ⊢
  rw [hz] at DL ⊢
  clear eE eV eL hok hat hx' hx0 hz htt
  obtain ⟨x0, x1⟩ := hx
  unfold hasLC
  rcases Bool.eq_false_or_eq_true (bits .and .u16 m 8 == 0) with d | d
  all_goals (
    rw [d]
    simp only [Bool.not_true, Bool.not_false, Bool.and_true, Bool.and_false]
    go_enter Tryd.func17, Tryd.ntmps17
    go_wp2_with fail
    refine (C.out _).mono ?_
    rintro e w1 ⟨hk1, h⟩
    obtain rfl : e = .returned (.tuple #[.int .i64 x, .nilIface]) := by
      rcases h with ⟨_, h⟩ | ⟨h, _⟩
      · exact h
      · exact absurd HOK.out h
    have B0 : Box w1 w.heap.size #[.bool t, .int .u32 b, .int .u32 p, .int .u32 a, .int .u16 m, .int .u16 y] := ((Box.new _ _ _).alloc _).keep hk1
    have B1 : Box w1 (w.heap.size + 1) #[.bool false, .int .u32 0, .int .u32 0, .int .u32 0, .int .u16 0, .int .u16 0] := (Box.new1 _ _ _ _).keep hk1
    have K1 : Hid (Keep w w1) := Lib.hid ((((Keep.refl _).alloc _).alloc _).trans hk1)
    clear h hk1 C
    go_wp2_with fail
    refine (DL.out _ K1.out).mono ?_
    rintro e w2 ⟨hk2, u, rfl, hu⟩
    obtain rfl := hu.ok
    have B02 := B0.keep hk2
    have B12 := B1.keep hk2
    have K2 : Hid (Keep w w2) := Lib.hid (K1.out.trans hk2)
    have c0 := B02.cells
    have c1 := B12.cells
    have f1 := B12.thawed
    have l0 := B02.lt
    have l1 := B12.lt
    have ne0 : w.heap.size ≠ w2.heap.size := by omega
    have ne1 : w.heap.size + 1 ≠ w2.heap.size := by omega
    have hs2 := K2.out.size
    clear hu hk2 K1 B0 B1 DL
    first
      | (go_wp2_with fail
         refine bodyPost_ret (v := .tuple #[.agg #[.bool tt, .int .u32 z1, .int .u32 z2, .int .u32 z3, .int .u16 z4, .int .u16 z5], .nilIface]) (by simp [results, Tryd.results17, go_sem, c1, l1, ne1]; done) rfl ?_
         refine ⟨_, rfl, .isOk, ?_⟩
         repeat (first | with_reducible refine Keep.alloc ?_ _ | (with_reducible refine Keep.setAt ?_ ?_ _; · first | omega | (simp; done) | (simp; omega)))
         exact K2.out)
      | (go_wp2_with fail
         refine (clear_any tt z1 z2 z3 z4 z5 _).mono ?_
         rintro e w3 ⟨rfl, hk3⟩
         have B2 : Box w3 w2.heap.size #[.bool tt, .int .u32 z1, .int .u32 z2, .int .u32 z3, .int .u16 z4, .int .u16 z5] := (Box.new _ _ _).keep hk3
         have B13 := (B12.alloc (.cells #[.bool tt, .int .u32 z1, .int .u32 z2, .int .u32 z3, .int .u16 z4, .int .u16 z5] 25)).keep hk3
         have K3 : Hid (Keep w w3) := Lib.hid ((K2.out.alloc _).trans hk3)
         have c2 := B2.cells
         have f2 := B2.thawed
         have l2 := B2.lt
         have c13 := B13.cells
         have f13 := B13.thawed
         have l13 := B13.lt
         clear hk3 c1 f1 l1 c0 l0
         go_wp2_with fail
         refine bodyPost_ret (v := .tuple #[.agg #[.bool false, .int .u32 z1, .int .u32 z2, .int .u32 z3, .int .u16 z4, .int .u16 z5], .nilIface]) (by simp [results, Tryd.results17, go_sem, c13, l13, c2, l2, ne1]; done) rfl ?_
         refine ⟨_, rfl, .isOk, ?_⟩
         repeat (first | with_reducible refine Keep.alloc ?_ _ | (with_reducible refine Keep.setAt ?_ ?_ _; · first | omega | (simp; done) | (simp; omega)))
         exact K3.out))
end
end Go.Proofs.YtgfoohiaioojoaaDoor

/- Package access: StoreCap. -/
namespace Go.Proofs.YtgfoohiaioojoaaDoor
set_option linter.unusedVariables false
set_option linter.unusedSimpArgs false
open Go.RowKit
section
variable {w : World} {dm : Nat} {O : Nat → Prop} {bs : List Int} {ts : List Bool}
theorem or_needs : bits .or .u16 2 16 = 18 := by decide
set_option maxHeartbeats 2000000 in
theorem astoreCap_any (t : Bool) (b p a m y off : Int) (tv : Bool) (b' p' a' m' y' : Int) (hb : 0 ≤ b ∧ b ≤ 4294967295) (hp : 0 ≤ p ∧ p ≤ 4294967295) (ha : 0 ≤ a ∧ a ≤ 4294967295) (ho : -2147483648 ≤ off ∧ off ≤ 2147483647) (hb' : 0 ≤ b' ∧ b' ≤ 4294967295) (hp' : 0 ≤ p' ∧ p' ≤ 4294967295) (ha' : 0 ≤ a' ∧ a' ≤ 4294967295) (hm' : 0 ≤ m' ∧ m' ≤ 65535) (hy' : 0 ≤ y' ∧ y' ≤ 65535) (h : DMem w dm O bs ts) (hE : ErrT w) :
    Calls Tryd.prog 22 #[.pointer (some ⟨dm, 0, none⟩), .agg #[.bool t, .int .u32 b, .int .u32 p, .int .u32 a, .int .u16 m, .int .u16 y], .int .i32 off, .agg #[.bool tv, .int .u32 b', .int .u32 p', .int .u32 a', .int .u16 m', .int .u16 y']] w fun e w' => ∃ u, e = .returned u ∧ ErrV w' u (capE bs.length t b p a m y off (needs tv)) ∧ DMem w' dm O (wcapB bs t b p a m y off tv b' p' a' m' y') (wcapT bs.length ts t b p a m y off tv) ∧ KeepBut O w w' := by
  have D := Lib.hid h
  have HE := Lib.hid hE
  have oN := or_needs
  have hx := plc_in a off
  clear h hE
  obtain ⟨q, hq⟩ : ∃ q, q = needs tv := ⟨_, rfl⟩
  have C := Lib.hid (fun W => place_any t b p a m y off 16 q hb hp ha ho (by decide) W)
  by_cases hok : capOk t b p a m y off (needs tv)
  · have eE : capE bs.length t b p a m y off (needs tv) = granV bs.length (plc a off) := if_pos hok
    have eB : wcapB bs t b p a m y off tv b' p' a' m' y' = scapB bs (plc a off) b' p' a' m' y' := if_pos hok
    have eT : wcapT bs.length ts t b p a m y off tv = scapT bs.length ts (plc a off) tv := if_pos hok
    rw [eE, eB, eT]
    unfold capOk at hok
    rw [← hq] at hok
    have HOK := Lib.hid hok
    have DS := Lib.hid (fun W (k : Keep w W) => dstoreCap_u (plc a off) (by unfold In64; omega) tv b' p' a' m' y' hb' hp' ha' hm' hy' (D.out.keep k) (HE.out.keep k))
    obtain ⟨x, hx'⟩ : ∃ x, x = plc a off := ⟨_, rfl⟩
    rw [← hx'] at hx C DS HOK ⊢
    clear hx' hok eE eB eT
    obtain ⟨x0, x1⟩ := hx
    cases tv <;> unfold needs at hq <;> simp only [if_true, if_false, Bool.false_eq_true] at hq <;> subst hq
    all_goals (
      go_enter Tryd.func22, Tryd.ntmps22
      go_wp2_with fail
      refine (C.out _).mono ?_
      rintro e w1 ⟨hk1, h⟩
      obtain rfl : e = .returned (.tuple #[.int .i64 x, .nilIface]) := by
        rcases h with ⟨_, h⟩ | ⟨h, _⟩
        · exact h
        · exact absurd HOK.out h
      have B1 := (Box.new1 w (.cells #[.bool t, .int .u32 b, .int .u32 p, .int .u32 a, .int .u16 m, .int .u16 y] 25) _ 25).keep hk1
      have K1 : Hid (Keep w w1) := Lib.hid ((((Keep.refl _).alloc _).alloc _).trans hk1)
      have c1 := B1.cells
      have l1 := B1.lt
      clear h hk1 C
      go_wp2_with fail
      refine (DS.out _ K1.out).mono ?_
      rintro e w2 ⟨u, rfl, hu, hD, hB⟩
      have HU := Lib.hid hu
      have HD := Lib.hid hD
      have HB := Lib.hid (KeepBut.trans (K1.out.but O) hB)
      clear hu hD hB DS
      go_wp2_with fail
      go_ret
      exact ⟨u, rfl, HU.out, HD.out, HB.out⟩)
  · have eE : capE bs.length t b p a m y off (needs tv) = wrongV accessT (plc a off) (lackN t b p m y (plc a off) 16 (needs tv)) := if_neg hok
    have eB : wcapB bs t b p a m y off tv b' p' a' m' y' = bs := if_neg hok
    have eT : wcapT bs.length ts t b p a m y off tv = ts := if_neg hok
    rw [eE, eB, eT]
    unfold capOk at hok
    rw [← hq] at hok ⊢
    have HOK := Lib.hid hok
    clear hok eE eB eT
    cases tv <;> unfold needs at hq <;> simp only [if_true, if_false, Bool.false_eq_true] at hq <;> subst hq
    all_goals (
      go_enter Tryd.func22, Tryd.ntmps22
      go_wp2_with fail
      refine (C.out _).mono ?_
      rintro e w1 ⟨hk1, h⟩
      have K1 : Hid (Keep w w1) := Lib.hid ((((Keep.refl _).alloc _).alloc _).trans hk1)
      obtain ⟨f, rfl, hf⟩ : ∃ f, e = .returned (.tuple #[.int .i64 0, faultP f]) ∧ ErrV w1 (faultP f) (wrongV accessT (plc a off) (lackN t b p m y (plc a off) 16 _)) := by
        rcases h with ⟨h, _⟩ | ⟨_, h⟩
        · exact absurd h HOK.out
        · exact h
      have HF := Lib.hid hf
      clear h hf hk1 C
      unfold faultP
      go_wp2_with fail
      go_ret
      exact ⟨_, rfl, HF.out, D.out.keep K1.out, K1.out.but _⟩)
end
end Go.Proofs.YtgfoohiaioojoaaDoor
