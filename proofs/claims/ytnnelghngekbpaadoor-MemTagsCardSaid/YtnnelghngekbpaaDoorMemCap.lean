/- The reference's LoadCap. -/
import Derived.Test.YtnnelghngekbpaaDoorMemStore
namespace Go.Proofs.YtnnelghngekbpaaDoor
set_option linter.unusedVariables false
set_option linter.unusedSimpArgs false
open Go.RowKit
/-- An owned row's cells. -/
theorem own_cells {w : World} {base g n cap : Nat} {l : List Int} (h : w.ownsRow base 5 1 (.slice (some ⟨g, 0, none⟩) n cap) n (l.map (Value.int .u8))) (hn : l.length = n) (hp : 0 < n) :
    (∀ i, i < n → w.cell? ⟨g, i, none⟩ = some (.int .u8 (l.getD i 0))) ∧ n ≤ cap ∧ cap ≤ maxLen ∧ base ≤ g ∧ g < w.heap.size := by
  obtain ⟨_, h | ⟨g', cap', cur, hv, hbg, hg, hn1, hcm, hsz, hx⟩⟩ := h
  · cases h.1
  · simp only [Value.slice.injEq, Option.some.injEq, Addr.mk.injEq, and_true, true_and] at hv
    obtain ⟨rfl, rfl⟩ := hv
    refine ⟨fun i hi => ?_, hn1, hcm, hbg, (Array.getElem?_eq_some_iff.1 hg).1⟩
    have e := congrArg (fun x => x[i]?) hx
    simp only [List.getElem?_map, List.getElem?_eq_getElem (show i < l.length by omega), Option.map_some] at e
    rw [List.getElem?_take, if_pos (by omega)] at e
    simp only [World.cell?, hg]
    rw [List.getD_eq_getElem?_getD, List.getElem?_eq_getElem (show i < l.length by omega)]
    simpa using e
theorem own_16 {w : World} {base g cap : Nat} {l : List Int} (h : w.ownsRow base 5 1 (.slice (some ⟨g, 0, none⟩) 16 cap) 16 (l.map (Value.int .u8))) (hn : l.length = 16) (hb : ∀ z ∈ l, IsByte z) : Cells16 w g 0 l :=
  ⟨hn, hb, fun j hj => by rw [Nat.zero_add]; exact (own_cells h hn (by decide)).1 j hj⟩
theorem Box.newAt (W : World) (vs : Array Value) (t : TypeId) (n : Nat) (h : W.heap.size = n) : Box (W.alloc (.cells vs t)) n vs := by subst h; exact Box.new W vs t
def zeroV : Value := .agg #[.bool false, .int .u32 0, .int .u32 0, .int .u32 0, .int .u16 0, .int .u16 0]
/-- Sixteen bytes and a tag, as a capability. -/
def capV (t : Bool) (zs : List Int) : Value := .agg #[.bool t, .int .u32 (leW (part zs 0 4)), .int .u32 (leW (part zs 4 4)), .int .u32 (leW (part zs 8 4)), .int .u16 (leW (part zs 12 2)), .int .u16 (leW (part zs 14 2))]
def sixteen (bs : List Int) (a : Nat) : List Int := (bs.drop a).take 16
/-- What LoadCap answers. -/
def loadCapV (bs : List Int) (ts : List Bool) (a : Int) : Value :=
  if reachB a 16 bs.length = true then (if a % 16 = 0 then .tuple #[capV (ts.getD (a.toNat / 16) false) (sixteen bs a.toNat), okV] else .tuple #[zeroV, alignV a]) else .tuple #[zeroV, rangeV a]
set_option maxRecDepth 100000 in
set_option maxHeartbeats 1000000 in
theorem rloadCap_bad (p gb gt cb ct : Nat) (bs : List Int) (ts : List Bool) (a : Int) (ha : -9223372036854775808 ≤ a ∧ a ≤ 9223372036854775807) (w : World) (h : RMem w p gb gt cb ct bs ts) (hr : reachB a 16 bs.length = false) :
    Calls Tryd.prog 19 #[.pointer (some ⟨p, 0, none⟩), .int .i64 a] w fun e w' => e = .returned (.tuple #[zeroV, rangeV a]) ∧ Keep w w' := by
  have C := Lib.hid (fun W (k : Keep w W) => rload_bad p gb gt cb ct bs ts a 16 ha (by decide) W (h.keep k) hr)
  rw [bad_err] at C ⊢
  unfold zeroV
  clear h hr ha
  go_enter Tryd.func19, Tryd.ntmps19
  go_wp2_with fail
  refine (C.out _ (((Keep.refl _).alloc _).alloc _)).mono ?_
  rintro e w1 ⟨rfl, hk1⟩
  have B0 : Box w1 w.heap.size _ := ((Box.new _ _ _).alloc _).keep hk1
  have B1 : Box w1 (w.heap.size + 1) _ := (Box.new1 _ _ _ _).keep hk1
  have l0 := B0.lt
  have l1 := B1.lt
  have c0 := B0.cells
  have f0 := B0.thawed
  have c1 := B1.cells
  have f1 := B1.thawed
  go_wp2_with fail
  have ne0 : w.heap.size ≠ w1.heap.size := by omega
  have ne1 : w.heap.size + 1 ≠ w1.heap.size := by omega
  have n01 : w.heap.size ≠ w.heap.size + 1 := by omega
  go_region_held3 (fun w' => ∀ i, w'.cell? ⟨w1.heap.size, i, none⟩ = (#[.string ⟨#[109, 101, 109]⟩, .int .i64 a, .int .i64 6] : Array Value)[i]?)
    ((refine fun i => Box.cells (Box.drew (Box.newAt _ _ _ _ ?_)) i; simp [World.setCell])) (fail)
  all_goals go_wp2_with fail
  all_goals (
    refine bodyPost_ret (v := .tuple #[.agg #[.bool false, .int .u32 0, .int .u32 0, .int .u32 0, .int .u16 0, .int .u16 0], .agg #[.string ⟨#[109, 101, 109]⟩, .int .i64 a, .int .i64 6]]) (by simp [results, Tryd.results19, go_sem, c0, c1, l0, l1, ne0, ne1, n01, show w.heap.size < w1.heap.size + 1 from by omega, show w.heap.size + 1 < w1.heap.size + 1 from by omega]) rfl ⟨rfl, ?_⟩
    repeat (first | with_reducible refine Keep.alloc ?_ _ | with_reducible refine Keep.drew ?_ | with_reducible refine Keep.setCell ?_ (by simp) _)
    exact (((Keep.refl _).alloc _).alloc _).trans hk1)
set_option maxRecDepth 100000 in
set_option maxHeartbeats 1000000 in
theorem rloadCap_askew (p gb gt cb ct : Nat) (bs : List Int) (ts : List Bool) (A : Nat) (hA : A + 16 ≤ bs.length) (hm : A % 16 ≠ 0) (w : World) (h : RMem w p gb gt cb ct bs ts) :
    Calls Tryd.prog 19 #[.pointer (some ⟨p, 0, none⟩), .int .i64 A] w fun e w' => e = .returned (.tuple #[zeroV, alignV A]) ∧ Keep w w' := by
  have C := Lib.hid (fun W (k : Keep w W) => rload_pos p gb gt cb ct bs ts A 16 hA (by decide) W (h.keep k))
  have hM := h.most
  unfold alignV okV wrongV at *
  have m1 : ¬ ((A : Int) % 16 = 0) := by omega
  have m0 : (0 : Int) ≤ (A : Int) := Int.natCast_nonneg _
  unfold zeroV
  clear h hA hm hM
  go_enter Tryd.func19, Tryd.ntmps19
  go_wp2_with fail
  refine (C.out _ (((Keep.refl _).alloc _).alloc _)).mono ?_
  rintro e w1 ⟨g, cap, rfl, ho, hk1⟩
  have HO := Lib.hid ho
  clear ho
  have B0 : Box w1 w.heap.size _ := ((Box.new _ _ _).alloc _).keep hk1
  have B1 : Box w1 (w.heap.size + 1) _ := (Box.new1 _ _ _ _).keep hk1
  have l0 := B0.lt
  have l1 := B1.lt
  have c0 := B0.cells
  have f0 := B0.thawed
  have c1 := B1.cells
  have f1 := B1.thawed
  go_wp2_with fail
  have ne0 : w.heap.size ≠ w1.heap.size := by omega
  have ne1 : w.heap.size + 1 ≠ w1.heap.size := by omega
  have n01 : w.heap.size ≠ w.heap.size + 1 := by omega
  go_region_held3 (fun w' => ∀ i, w'.cell? ⟨w1.heap.size, i, none⟩ = (#[.string ⟨#[109, 101, 109]⟩, .int .i64 A, .int .i64 5] : Array Value)[i]?)
    ((refine fun i => Box.cells (Box.drew (Box.newAt _ _ _ _ ?_)) i; simp [World.setCell])) (fail)
  all_goals go_wp2_with fail
  all_goals (
    refine bodyPost_ret (v := .tuple #[.agg #[.bool false, .int .u32 0, .int .u32 0, .int .u32 0, .int .u16 0, .int .u16 0], .agg #[.string ⟨#[109, 101, 109]⟩, .int .i64 A, .int .i64 5]]) (by simp [results, Tryd.results19, go_sem, c0, c1, l0, l1, ne0, ne1, n01, show w.heap.size < w1.heap.size + 1 from by omega, show w.heap.size + 1 < w1.heap.size + 1 from by omega]) rfl ⟨rfl, ?_⟩
    repeat (first | with_reducible refine Keep.alloc ?_ _ | with_reducible refine Keep.drew ?_ | with_reducible refine Keep.setCell ?_ (by simp) _)
    exact (((Keep.refl _).alloc _).alloc _).trans hk1)
end Go.Proofs.YtnnelghngekbpaaDoor
