/- hasplaw5.filled: both memories hold the same. -/
import Derived.Test.YtgfoohiaioojoaaDoorAccKnown
import Derived.Test.YtgfoohiaioojoaaDoorGPlay
namespace Go.Proofs.YtgfoohiaioojoaaDoor
set_option linter.unusedVariables false
set_option linter.unusedSimpArgs false
open Go.RowKit
set_option maxRecDepth 100000 in
set_option maxHeartbeats 4000000 in
theorem filled_any (v : Value) (xs : List Int) (t : Bool) (b p a m y : Int) (hx : ∀ z ∈ xs, IsByte z) (hl : xs.length ≤ 128) (hb : 0 ≤ b ∧ b ≤ 4294967295) (hp : 0 ≤ p ∧ p ≤ 4294967295) (ha : 0 ≤ a ∧ a ≤ 4294967295) (hm : 0 ≤ m ∧ m ≤ 65535) (hy : 0 ≤ y ∧ y ≤ 65535) (w : World) (hL : Lies w v xs (fun _ => False)) (hE : ErrT w) :
    Calls Tryd.prog 14 #[v, .agg #[.bool t, .int .u32 b, .int .u32 p, .int .u32 a, .int .u16 m, .int .u16 y]] w fun e w' => ∃ dm P gb gt O bs ts, e = .returned (.tuple #[.pointer (some ⟨dm, 0, none⟩), .pointer (some ⟨P, 0, none⟩), .bool true]) ∧ PInv w w' P gb gt 128 8 dm O bs ts := by
  have HE := Lib.hid hE
  have HL := Lib.hid hL
  have HX := Lib.hid hx
  have HXL := Lib.hid hl
  obtain ⟨ad, cs, rfl, -⟩ := hL
  clear hE hx
  go_enter Tryd.func14, Tryd.ntmps14
  go_wp2_with fail
  refine (dnew_good 128 8 (by decide) (by decide) (by decide) _ (HE.out.keep ((Keep.refl _).alloc _))).mono ?_
  rintro e w1 ⟨dm, O, rfl, hD, hk1, hO⟩
  have BC : Box w1 w.heap.size #[.bool t, .int .u32 b, .int .u32 p, .int .u32 a, .int .u16 m, .int .u16 y] := (Box.new _ _ _).keep hk1
  have K1 := Lib.hid (((Keep.refl _).alloc _).trans hk1)
  have D1 := Lib.hid hD
  have OW : Hid (∀ z, O z → w.heap.size + 1 ≤ z) := Lib.hid (fun z hz => by have := hO z hz; simp at this; omega)
  clear hk1 hD hO
  unfold ptrV
  go_wp2_with fail
  refine (rnew_good 128 8 (by decide) (by decide) (by decide) _).mono ?_
  rintro e w2 ⟨P, gb, gt, rfl, hR, hk2, hp1, hp2, hp3⟩
  have GW : Hid ((w.heap.size ≤ P ∧ w.heap.size ≤ gb ∧ w.heap.size ≤ gt) ∧ (w.heap.size ≠ gb ∧ w.heap.size ≠ gt) ∧ ∀ z, O z → z ≠ P ∧ z ≠ gb ∧ z ≠ gt) := Lib.hid (by
    have h1 := K1.out.size
    have h2 := BC.lt
    refine ⟨by omega, by omega, fun z hz => ?_⟩
    have := D1.out.lt z hz
    omega)
  have K2 := Lib.hid (K1.out.trans hk2)
  have D2 := Lib.hid (D1.out.keep hk2)
  have R2 := Lib.hid hR
  replace BC := BC.keep hk2
  clear hk2 hR hp1 hp2 hp3 K1 D1
  unfold okV wrongV
  go_wp2_with fail
  have NC : Hid (¬ O w.heap.size) := Lib.hid (fun h => by have := OW.out _ h; omega)
  have CS1 := Lib.hid (fun W (k : Keep w2 W) => dstore_u 0 (by unfold In64; decide) (.slice ad xs.length cs) xs HX.out (D2.out.keep k) (HL.out.apart (K2.out.trans k) (fun z hz => by have := OW.out z hz; omega)))
  refine (CS1.out _ ((Keep.refl _).alloc _)).mono ?_
  rintro e w3 ⟨u, rfl, hu, hD3, hB3⟩
  rw [show storeV (List.replicate 128 (0 : Int)).length 0 xs.length = okV from if_pos (by simp [reachB]; omega)] at hu
  obtain rfl := hu.ok
  have K3 := Lib.hid (Keep.butNew (K2.out.alloc _) hB3 (fun z hz => by have := OW.out z hz; omega))
  have D3 := Lib.hid hD3
  have R3 := Lib.hid ((R2.out.keep ((Keep.refl _).alloc (.cells #[.string ⟨#[]⟩, .int .i64 0, .int .i64 0] 32))).but hB3 (fun h => (GW.out.2.2 _ h).1 rfl) (fun h => (GW.out.2.2 _ h).2.1 rfl) (fun h => (GW.out.2.2 _ h).2.2 rfl))
  replace BC := (BC.alloc (.cells #[.string ⟨#[]⟩, .int .i64 0, .int .i64 0] 32)).but hB3 NC.out
  have c0 := BC.cells
  have l0 := BC.lt
  clear hu hD3 hB3 CS1 K2 D2 R2
  go_wp2_with fail
  refine (dstoreCap_u 64 (by unfold In64; decide) t b p a m y hb hp ha hm hy D3.out (HE.out.keep K3.out)).mono ?_
  rintro e w4 ⟨u, rfl, hu, hD4, hB4⟩
  rw [storeB_length, show granV (List.replicate 128 (0 : Int)).length 64 = okV from rfl] at hu
  obtain rfl := hu.ok
  have K4 := Lib.hid (Keep.butNew K3.out hB4 (fun z hz => by have := OW.out z hz; omega))
  have D4 := Lib.hid hD4
  have R4 := Lib.hid (R3.out.but hB4 (fun h => (GW.out.2.2 _ h).1 rfl) (fun h => (GW.out.2.2 _ h).2.1 rfl) (fun h => (GW.out.2.2 _ h).2.2 rfl))
  replace BC := BC.but hB4 NC.out
  replace c0 := BC.cells
  replace l0 := BC.lt
  clear hu hD4 hB4 K3 D3 R3
  go_wp2_with fail
  refine (croot_any 128 _).mono ?_
  rintro e w5 ⟨rfl, hk5⟩
  have K5 := Lib.hid (K4.out.trans hk5)
  have D5 := Lib.hid (D4.out.keep hk5)
  have R5 := Lib.hid (R4.out.keep hk5)
  replace BC := BC.keep hk5
  replace c0 := BC.cells
  replace l0 := BC.lt
  clear hk5 K4 D4 R4
  go_wp2_with fail
  refine (dstoreCap_u 96 (by unfold In64; decide) true 0 128 0 127 0 (by decide) (by decide) (by decide) (by decide) (by decide) D5.out (HE.out.keep K5.out)).mono ?_
  rintro e w6 ⟨u, rfl, hu, hD6, hB6⟩
  rw [scapB_length, storeB_length, show granV (List.replicate 128 (0 : Int)).length 96 = okV from rfl] at hu
  obtain rfl := hu.ok
  have K6 := Lib.hid (Keep.butNew K5.out hB6 (fun z hz => by have := OW.out z hz; omega))
  have D6 := Lib.hid hD6
  have R6 := Lib.hid (R5.out.but hB6 (fun h => (GW.out.2.2 _ h).1 rfl) (fun h => (GW.out.2.2 _ h).2.1 rfl) (fun h => (GW.out.2.2 _ h).2.2 rfl))
  replace BC := BC.but hB6 NC.out
  replace c0 := BC.cells
  replace l0 := BC.lt
  clear hu hD6 hB6 K5 D5 R5
  go_wp2_with fail
  have CS2 := Lib.hid (rstore_u P gb gt 128 8 (List.replicate 128 0) (List.replicate 8 false) 0 (by unfold In64; decide) (.slice ad xs.length cs) xs HX.out (by omega) w6 R6.out (HL.out.apart K6.out (fun z hz => by have := GW.out.1; rcases hz with rfl | rfl <;> omega)))
  refine CS2.out.mono ?_
  rintro e w7 ⟨rfl, hR7, hB7⟩
  have K7 := Lib.hid (Keep.butNew K6.out hB7 (fun z hz => by have := GW.out.1; rcases hz with rfl | rfl <;> omega))
  have D7 := Lib.hid (D6.out.but hB7 (fun z hz hm => by have := GW.out.2.2 z hz; rcases hm with rfl | rfl <;> omega))
  have R7 := Lib.hid hR7
  replace BC := BC.but hB7 (fun h => by have := GW.out.2.1; rcases h with h | h <;> omega)
  replace c0 := BC.cells
  replace l0 := BC.lt
  clear hR7 hB7 CS2 K6 D6 R6
  go_wp2_with fail
  refine (of_any t b p a m y _).mono ?_
  rintro e w8 ⟨rfl, hk8⟩
  have K8 := Lib.hid (K7.out.trans hk8)
  have D8 := Lib.hid (D7.out.keep hk8)
  have R8 := Lib.hid (R7.out.keep hk8)
  clear hk8 K7 D7 R7 BC c0 l0
  go_wp2_with fail
  refine (rstoreCap_u P gb gt 128 8 _ _ 64 (by unfold In64; decide) t b p a m y hb hp ha hm hy _ R8.out).mono ?_
  rintro e w9 ⟨rfl, hR9, hB9⟩
  have K9 := Lib.hid (Keep.butNew K8.out hB9 (fun z hz => by have := GW.out.1; rcases hz with rfl | rfl <;> omega))
  have D9 := Lib.hid (D8.out.but hB9 (fun z hz hm => by have := GW.out.2.2 z hz; rcases hm with rfl | rfl <;> omega))
  have R9 := Lib.hid hR9
  clear hR9 hB9 K8 D8 R8
  go_wp2_with fail
  refine (rroot_any 128 _).mono ?_
  rintro e wa ⟨rfl, hka⟩
  have Ka := Lib.hid (K9.out.trans hka)
  have Da := Lib.hid (D9.out.keep hka)
  have Ra := Lib.hid (R9.out.keep hka)
  clear hka K9 D9 R9
  go_wp2_with fail
  refine (rstoreCap_u P gb gt 128 8 _ _ 96 (by unfold In64; decide) true 0 128 0 127 0 (by decide) (by decide) (by decide) (by decide) (by decide) _ Ra.out).mono ?_
  rintro e wb ⟨rfl, hRb, hBb⟩
  have Kb := Lib.hid (Keep.butNew Ka.out hBb (fun z hz => by have := GW.out.1; rcases hz with rfl | rfl <;> omega))
  have Db := Lib.hid (Da.out.but hBb (fun z hz hm => by have := GW.out.2.2 z hz; rcases hm with rfl | rfl <;> omega))
  have Rb := Lib.hid hRb
  clear hRb hBb Ka Da Ra
  go_wp2_with fail
  refine bodyPost_ret (v := .tuple #[.pointer (some ⟨dm, 0, none⟩), .pointer (some ⟨P, 0, none⟩), .bool true]) (by simp [results, Tryd.results14, go_sem]; done) rfl ?_
  exact ⟨dm, P, gb, gt, O, _, _, rfl, Db.out, Rb.out, by simp [scapB_length, storeB_length], fun z hz => ⟨by have := OW.out z hz; omega, GW.out.2.2 z hz⟩, GW.out.1, Kb.out⟩
end Go.Proofs.YtgfoohiaioojoaaDoor
