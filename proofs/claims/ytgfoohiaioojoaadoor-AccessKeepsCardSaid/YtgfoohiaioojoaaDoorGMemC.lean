/- MemCap, MemMath, MemCap2, MemStoreCap, MemNew, MemTagsRef: The reference's LoadCap. -/
import Derived.Test.YtgfoohiaioojoaaDoorGMem
import Derived.Test.YtgfoohiaioojoaaDoorGBase
import Derived.Deep.OwnRows
import Derived.RegionTactic
import Derived.OwnWalk
/- The reference's LoadCap. -/
namespace Go.Proofs.YtgfoohiaioojoaaDoor
set_option linter.unusedVariables false
set_option linter.unusedSimpArgs false
open Go.RowKit
/-- An owned row's cells. -/
theorem own_cells {w : World} {base g n cap : Nat} {l : List Int} (h : w.ownsRow base 5 1 (.slice (some ⟨g, 0, none⟩) n cap) n (l.map (Value.int .u8))) (hn : l.length = n) (hp : 0 < n) :
    (∀ i, i < n → w.cell? ⟨g, i, none⟩ = some (.int .u8 (l.getD i 0))) ∧ n ≤ cap ∧ cap ≤ maxLen ∧ base ≤ g ∧ g < w.heap.size := by
  obtain ⟨_, h | ⟨g', cap', cur, hv, hbg, hg, hn1, hcm, hsz, hx⟩⟩ := h
  · cases h.1
  · simp only [Value.slice.injEq, Option.some.injEq, Addr.mk.injEq, and_true, true_and] at hv
    obtain ⟨rfl, rfl⟩ := hv
    refine ⟨fun i hi => ?_, hn1, hcm, hbg, (Array.getElem?_eq_some_iff.1 hg).1⟩
    have e := congrArg (fun x => x[i]?) hx
    simp only [List.getElem?_map, List.getElem?_eq_getElem (show i < l.length by omega), Option.map_some] at e
    rw [List.getElem?_take, if_pos (by omega)] at e
    simp only [World.cell?, hg]
    rw [List.getD_eq_getElem?_getD, List.getElem?_eq_getElem (show i < l.length by omega)]
    simpa using e
theorem own_16 {w : World} {base g cap : Nat} {l : List Int} (h : w.ownsRow base 5 1 (.slice (some ⟨g, 0, none⟩) 16 cap) 16 (l.map (Value.int .u8))) (hn : l.length = 16) (hb : ∀ z ∈ l, IsByte z) : Cells16 w g 0 l :=
  ⟨hn, hb, fun j hj => by rw [Nat.zero_add]; exact (own_cells h hn (by decide)).1 j hj⟩
theorem Box.newAt (W : World) (vs : Array Value) (t : TypeId) (n : Nat) (h : W.heap.size = n) : Box (W.alloc (.cells vs t)) n vs := by subst h; exact Box.new W vs t
def zeroV : Value := .agg #[.bool false, .int .u32 0, .int .u32 0, .int .u32 0, .int .u16 0, .int .u16 0]
/-- Sixteen bytes and a tag, as a capability. -/
def capV (t : Bool) (zs : List Int) : Value := .agg #[.bool t, .int .u32 (leW (part zs 0 4)), .int .u32 (leW (part zs 4 4)), .int .u32 (leW (part zs 8 4)), .int .u16 (leW (part zs 12 2)), .int .u16 (leW (part zs 14 2))]
def sixteen (bs : List Int) (a : Nat) : List Int := (bs.drop a).take 16
/-- What LoadCap answers. -/
def loadCapV (bs : List Int) (ts : List Bool) (a : Int) : Value :=
  if reachB a 16 bs.length = true then (if a % 16 = 0 then .tuple #[capV (ts.getD (a.toNat / 16) false) (sixteen bs a.toNat), okV] else .tuple #[zeroV, alignV a]) else .tuple #[zeroV, rangeV a]
set_option maxRecDepth 100000 in
set_option maxHeartbeats 1000000 in
theorem rloadCap_bad (p gb gt cb ct : Nat) (bs : List Int) (ts : List Bool) (a : Int) (ha : -9223372036854775808 ≤ a ∧ a ≤ 9223372036854775807) (w : World) (h : RMem w p gb gt cb ct bs ts) (hr : reachB a 16 bs.length = false) :
    Calls Tryd.prog 55 #[.pointer (some ⟨p, 0, none⟩), .int .i64 a] w fun e w' => e = .returned (.tuple #[zeroV, rangeV a]) ∧ Keep w w' := by
  have C := Lib.hid (fun W (k : Keep w W) => rload_bad p gb gt cb ct bs ts a 16 ha (by decide) W (h.keep k) hr)
  rw [bad_err] at C ⊢
  unfold zeroV
  clear h hr ha
  go_enter Tryd.func55, Tryd.ntmps55
  go_wp2_with fail
  refine (C.out _ (((Keep.refl _).alloc _).alloc _)).mono ?_
  rintro e w1 ⟨rfl, hk1⟩
  have B0 : Box w1 w.heap.size _ := ((Box.new _ _ _).alloc _).keep hk1
  have B1 : Box w1 (w.heap.size + 1) _ := (Box.new1 _ _ _ _).keep hk1
  have l0 := B0.lt
  have l1 := B1.lt
  have c0 := B0.cells
  have f0 := B0.thawed
  have c1 := B1.cells
  have f1 := B1.thawed
  go_wp2_with fail
  have ne0 : w.heap.size ≠ w1.heap.size := by omega
  have ne1 : w.heap.size + 1 ≠ w1.heap.size := by omega
  have n01 : w.heap.size ≠ w.heap.size + 1 := by omega
  go_region_held3 (fun w' => ∀ i, w'.cell? ⟨w1.heap.size, i, none⟩ = (#[.string ⟨#[109, 101, 109]⟩, .int .i64 a, .int .i64 6] : Array Value)[i]?)
    ((refine fun i => Box.cells (Box.drew (Box.newAt _ _ _ _ ?_)) i; simp [World.setCell])) (fail)
  all_goals go_wp2_with fail
  all_goals (
    refine bodyPost_ret (v := .tuple #[.agg #[.bool false, .int .u32 0, .int .u32 0, .int .u32 0, .int .u16 0, .int .u16 0], .agg #[.string ⟨#[109, 101, 109]⟩, .int .i64 a, .int .i64 6]]) (by simp [results, Tryd.results55, go_sem, c0, c1, l0, l1, ne0, ne1, n01, show w.heap.size < w1.heap.size + 1 from by omega, show w.heap.size + 1 < w1.heap.size + 1 from by omega]) rfl ⟨rfl, ?_⟩
    repeat (first | with_reducible refine Keep.alloc ?_ _ | with_reducible refine Keep.drew ?_ | with_reducible refine Keep.setCell ?_ (by simp) _)
    exact (((Keep.refl _).alloc _).alloc _).trans hk1)
set_option maxRecDepth 100000 in
set_option maxHeartbeats 1000000 in
theorem rloadCap_askew (p gb gt cb ct : Nat) (bs : List Int) (ts : List Bool) (A : Nat) (hA : A + 16 ≤ bs.length) (hm : A % 16 ≠ 0) (w : World) (h : RMem w p gb gt cb ct bs ts) :
    Calls Tryd.prog 55 #[.pointer (some ⟨p, 0, none⟩), .int .i64 A] w fun e w' => e = .returned (.tuple #[zeroV, alignV A]) ∧ Keep w w' := by
  have C := Lib.hid (fun W (k : Keep w W) => rload_pos p gb gt cb ct bs ts A 16 hA (by decide) W (h.keep k))
  have hM := h.most
  unfold alignV okV wrongV at *
  have m1 : ¬ ((A : Int) % 16 = 0) := by omega
  have m0 : (0 : Int) ≤ (A : Int) := Int.natCast_nonneg _
  unfold zeroV
  clear h hA hm hM
  go_enter Tryd.func55, Tryd.ntmps55
  go_wp2_with fail
  refine (C.out _ (((Keep.refl _).alloc _).alloc _)).mono ?_
  rintro e w1 ⟨g, cap, rfl, ho, hk1⟩
  have HO := Lib.hid ho
  clear ho
  have B0 : Box w1 w.heap.size _ := ((Box.new _ _ _).alloc _).keep hk1
  have B1 : Box w1 (w.heap.size + 1) _ := (Box.new1 _ _ _ _).keep hk1
  have l0 := B0.lt
  have l1 := B1.lt
  have c0 := B0.cells
  have f0 := B0.thawed
  have c1 := B1.cells
  have f1 := B1.thawed
  go_wp2_with fail
  have ne0 : w.heap.size ≠ w1.heap.size := by omega
  have ne1 : w.heap.size + 1 ≠ w1.heap.size := by omega
  have n01 : w.heap.size ≠ w.heap.size + 1 := by omega
  go_region_held3 (fun w' => ∀ i, w'.cell? ⟨w1.heap.size, i, none⟩ = (#[.string ⟨#[109, 101, 109]⟩, .int .i64 A, .int .i64 5] : Array Value)[i]?)
    ((refine fun i => Box.cells (Box.drew (Box.newAt _ _ _ _ ?_)) i; simp [World.setCell])) (fail)
  all_goals go_wp2_with fail
  all_goals (
    refine bodyPost_ret (v := .tuple #[.agg #[.bool false, .int .u32 0, .int .u32 0, .int .u32 0, .int .u16 0, .int .u16 0], .agg #[.string ⟨#[109, 101, 109]⟩, .int .i64 A, .int .i64 5]]) (by simp [results, Tryd.results55, go_sem, c0, c1, l0, l1, ne0, ne1, n01, show w.heap.size < w1.heap.size + 1 from by omega, show w.heap.size + 1 < w1.heap.size + 1 from by omega]) rfl ⟨rfl, ?_⟩
    repeat (first | with_reducible refine Keep.alloc ?_ _ | with_reducible refine Keep.drew ?_ | with_reducible refine Keep.setCell ?_ (by simp) _)
    exact (((Keep.refl _).alloc _).alloc _).trans hk1)
end Go.Proofs.YtgfoohiaioojoaaDoor

/- A memory's bytes and tags as lists: what a store does to each; no Go in sight. -/
namespace Go.Proofs.YtgfoohiaioojoaaDoor
set_option linter.unusedVariables false
set_option linter.unusedSimpArgs false
open Go.RowKit
theorem putAt_getD (xs : List Int) : ∀ (bs : List Int) (a j : Nat), a + xs.length ≤ bs.length → (putAt bs a xs).getD j 0 = if a ≤ j ∧ j < a + xs.length then xs.getD (j - a) 0 else bs.getD j 0 := by
  induction xs with
  | nil => intro bs a j h; rw [if_neg (by simp)]; rfl
  | cons x xs ih =>
    intro bs a j h
    simp only [List.length_cons] at h
    rw [putAt, ih _ _ _ (by rw [List.length_set]; omega)]
    simp only [List.length_cons]
    by_cases h1 : j = a
    · subst h1
      rw [if_neg (by omega), if_pos (by omega)]
      simp [List.getD_eq_getElem?_getD, show j < bs.length by omega]
    · by_cases h2 : a + 1 ≤ j ∧ j < a + 1 + xs.length
      · rw [if_pos h2, if_pos (by omega)]
        rw [show j - a = (j - (a + 1)) + 1 by omega, List.getD_cons_succ]
      · rw [if_neg h2, if_neg (by omega)]
        simp only [List.getD_eq_getElem?_getD]
        rw [List.getElem?_set_ne (by omega)]
theorem offAt_getD (ts : List Bool) (a g : Nat) : ∀ n, (offAt ts a n).getD g false = (ts.getD g false && !(decide (0 < n) && decide (a / 16 ≤ g) && decide (g ≤ (a + n - 1) / 16))) := by
  intro n
  induction n with
  | zero => simp [offAt]
  | succ n ih =>
    rw [offAt_step]
    have e : a + (n + 1) - 1 = a + n := by omega
    rw [e]
    by_cases hg : (a + n) / 16 = g
    · have h1 : ((offAt ts a n).set ((a + n) / 16) false).getD g false = false := by
        rw [hg]
        simp only [List.getD_eq_getElem?_getD]
        by_cases hl : g < (offAt ts a n).length
        · rw [List.getElem?_set_self hl]; rfl
        · rw [List.getElem?_eq_none (by rw [List.length_set]; omega)]; rfl
      rw [h1]
      have h2 : a / 16 ≤ g := by omega
      have h3 : g ≤ (a + n) / 16 := by omega
      simp [h2, h3]
    · have h1 : ((offAt ts a n).set ((a + n) / 16) false).getD g false = (offAt ts a n).getD g false := by
        simp only [List.getD_eq_getElem?_getD]
        rw [List.getElem?_set_ne hg]
      rw [h1, ih]
      congr 1
      rcases Nat.eq_zero_or_pos n with rfl | hn
      · have : ¬ (a / 16 ≤ g ∧ g ≤ a / 16) := by simp at hg; omega
        by_cases h2 : a / 16 ≤ g <;> by_cases h3 : g ≤ a / 16 <;> simp_all
      · have hb : decide (g ≤ (a + n - 1) / 16) = decide (g ≤ (a + n) / 16) := by
          rw [decide_eq_decide]
          omega
        simp [hn, hb]
theorem list_ext_getD {l m : List Int} (h : l.length = m.length) (hg : ∀ j, j < l.length → l.getD j 0 = m.getD j 0) : l = m := by
  apply List.ext_getElem h
  intro i h1 h2
  have := hg i h1
  simpa [List.getD_eq_getElem?_getD, List.getElem?_eq_getElem h1, List.getElem?_eq_getElem h2] using this
theorem list_ext_getB {l m : List Bool} (h : l.length = m.length) (hg : ∀ j, j < l.length → l.getD j false = m.getD j false) : l = m := by
  apply List.ext_getElem h
  intro i h1 h2
  have := hg i h1
  simpa [List.getD_eq_getElem?_getD, List.getElem?_eq_getElem h1, List.getElem?_eq_getElem h2] using this
theorem sixteen_length (bs : List Int) (a : Nat) (h : a + 16 ≤ bs.length) : (sixteen bs a).length = 16 := by unfold sixteen; simp; omega
theorem sixteen_getD (bs : List Int) (a j : Nat) (hj : j < 16) : (sixteen bs a).getD j 0 = bs.getD (a + j) 0 := by
  simp [sixteen, List.getD_eq_getElem?_getD, List.getElem?_take, hj]
theorem sixteen_put (bs xs : List Int) (a : Nat) (hx : xs.length = 16) (h : a + 16 ≤ bs.length) : sixteen (putAt bs a xs) a = xs := by
  apply list_ext_getD (by rw [sixteen_length _ _ (by rw [putAt_length]; exact h), hx])
  intro j hj
  rw [sixteen_length _ _ (by rw [putAt_length]; exact h)] at hj
  rw [sixteen_getD _ _ _ hj, putAt_getD _ _ _ _ (by omega), if_pos (by omega), show a + j - a = j by omega]
theorem sixteen_far (bs xs : List Int) (a g : Nat) (h : a + xs.length ≤ bs.length) (hg : g + 16 ≤ bs.length) (hd : g + 16 ≤ a ∨ a + xs.length ≤ g) : sixteen (putAt bs a xs) g = sixteen bs g := by
  apply list_ext_getD (by rw [sixteen_length _ _ (by rw [putAt_length]; exact hg), sixteen_length _ _ hg])
  intro j hj
  rw [sixteen_length _ _ (by rw [putAt_length]; exact hg)] at hj
  rw [sixteen_getD _ _ _ hj, sixteen_getD _ _ _ hj, putAt_getD _ _ _ _ h, if_neg (by omega)]
theorem put_comm (bs x y : List Int) (p q : Nat) (hp : p + x.length ≤ bs.length) (hq : q + y.length ≤ bs.length) (hd : p + x.length ≤ q ∨ q + y.length ≤ p) : putAt (putAt bs p x) q y = putAt (putAt bs q y) p x := by
  apply list_ext_getD (by simp [putAt_length])
  intro j _
  rw [putAt_getD _ _ _ _ (by rw [putAt_length]; exact hq), putAt_getD _ _ _ _ hp, putAt_getD _ _ _ _ (by rw [putAt_length]; exact hp), putAt_getD _ _ _ _ hq]
  by_cases h1 : q ≤ j ∧ j < q + y.length <;> by_cases h2 : p ≤ j ∧ j < p + x.length
  · omega
  · rw [if_pos h1, if_neg h2, if_pos h1]
  · rw [if_neg h1, if_pos h2, if_pos h2]
  · rw [if_neg h1, if_neg h2, if_neg h2, if_neg h1]
theorem off_comm (ts : List Bool) (p m q n : Nat) : offAt (offAt ts p m) q n = offAt (offAt ts q n) p m := by
  apply list_ext_getB (by simp [offAt_length])
  intro j _
  rw [offAt_getD, offAt_getD, offAt_getD, offAt_getD]
  generalize (!(decide (0 < m) && decide (p / 16 ≤ j) && decide (j ≤ (p + m - 1) / 16))) = A
  generalize (!(decide (0 < n) && decide (q / 16 ≤ j) && decide (j ≤ (q + n - 1) / 16))) = B
  cases ts.getD j false <;> cases A <;> cases B <;> rfl
theorem set_getD (ts : List Bool) (i g : Nat) (t : Bool) (hi : i < ts.length) : (ts.set i t).getD g false = if g = i then t else ts.getD g false := by
  simp only [List.getD_eq_getElem?_getD]
  by_cases h : g = i
  · subst h; rw [if_pos rfl, List.getElem?_set_self hi]; rfl
  · rw [if_neg h, List.getElem?_set_ne (fun e => h e.symm)]
/-- Sixteen bytes that are a capability's, read. -/
theorem capV_put (t : Bool) (b p a m y : Int) (hb : 0 ≤ b ∧ b ≤ 4294967295) (hp : 0 ≤ p ∧ p ≤ 4294967295) (ha : 0 ≤ a ∧ a ≤ 4294967295) (hm : 0 ≤ m ∧ m ≤ 65535) (hy : 0 ≤ y ∧ y ≤ 65535) :
    capV t (putL b p a m y) = .agg #[.bool t, .int .u32 b, .int .u32 p, .int .u32 a, .int .u16 m, .int .u16 y] := by
  have e1 : part (putL b p a m y) 0 4 = b4 b := rfl
  have e2 : part (putL b p a m y) 4 4 = b4 p := rfl
  have e3 : part (putL b p a m y) 8 4 = b4 a := rfl
  have e4 : part (putL b p a m y) 12 2 = b2 m := rfl
  have e5 : part (putL b p a m y) 14 2 = b2 y := rfl
  unfold capV
  rw [e1, e2, e3, e4, e5, leW_b4 b hb, leW_b4 p hp, leW_b4 a ha, leW_b2 m hm, leW_b2 y hy]
theorem capV_zero : capV false (List.replicate 16 0) = .agg #[.bool false, .int .u32 0, .int .u32 0, .int .u32 0, .int .u16 0, .int .u16 0] := rfl
end Go.Proofs.YtgfoohiaioojoaaDoor

/- The reference's LoadCap, the good way. -/
namespace Go.Proofs.YtgfoohiaioojoaaDoor
set_option linter.unusedVariables false
set_option linter.unusedSimpArgs false
open Go.RowKit
set_option maxRecDepth 100000 in
set_option maxHeartbeats 1000000 in
theorem rloadCap_good (p gb gt cb ct : Nat) (bs : List Int) (ts : List Bool) (A : Nat) (hA : A + 16 ≤ bs.length) (hm : A % 16 = 0) (w : World) (h : RMem w p gb gt cb ct bs ts) :
    Calls Tryd.prog 55 #[.pointer (some ⟨p, 0, none⟩), .int .i64 A] w fun e w' => e = .returned (.tuple #[capV (ts.getD (A / 16) false) (sixteen bs A), okV]) ∧ Keep w w' := by
  have C := Lib.hid (fun W (k : Keep w W) => rload_pos p gb gt cb ct bs ts A 16 hA (by decide) W (h.keep k))
  have hM := h.most
  unfold okV wrongV at *
  have m1 : (A : Int) % 16 = 0 := by omega
  have m0 : (0 : Int) ≤ (A : Int) := Int.natCast_nonneg _
  obtain ⟨t, ht⟩ : ∃ t, t = ts.getD (A / 16) false := ⟨_, rfl⟩
  rw [← ht]
  have HT := Lib.hid ht
  clear ht
  go_enter Tryd.func55, Tryd.ntmps55
  go_wp2_with fail
  refine (C.out _ (((Keep.refl _).alloc _).alloc _)).mono ?_
  rintro e w1 ⟨g, cap, rfl, ho, hk1⟩
  have HO := Lib.hid ho
  clear ho
  have B0 : Box w1 w.heap.size _ := ((Box.new _ _ _).alloc _).keep hk1
  have B1 : Box w1 (w.heap.size + 1) _ := (Box.new1 _ _ _ _).keep hk1
  have l0 := B0.lt
  have l1 := B1.lt
  have c0 := B0.cells
  have f0 := B0.thawed
  have c1 := B1.cells
  have f1 := B1.thawed
  have P1 := (((h.keep (Keep.refl _)).keep ((Keep.refl _).alloc _)).keep ((Keep.refl _).alloc _)).keep hk1
  have lp := P1.box.lt
  have p0 := P1.box.cells
  have hlen := h.len
  have tg : w1.cell? ⟨gt, A / 16, none⟩ = some (.bool (ts.getD (A / 16) false)) := by
    rw [P1.tags.cells]
    have : A / 16 < ts.length := by omega
    simp [bls, List.getD_eq_getElem?_getD, List.getElem?_eq_getElem this]
  have lt_ := P1.tags.lt
  have at0 : (0 : Int) ≤ (A : Int) / 16 := by omega
  have at1 : (A : Int) / 16 < (ts.length : Int) := by omega
  have at2 : ((A : Int) / 16).toNat = A / 16 := by omega
  have hz : ∀ z ∈ sixteen bs A, IsByte z := fun z hz => h.isB z (List.mem_of_mem_drop (List.mem_of_mem_take hz))
  have hzl : (sixteen bs A).length = 16 := by unfold sixteen; simp; omega
  have C16 : Hid (Cells16 w1 g 0 (sixteen bs A) ∧ 16 ≤ cap ∧ cap ≤ 9223372036854775807) := Lib.hid (by
    have h2 := own_cells (l := sixteen bs A) HO.out hzl (by decide)
    exact ⟨own_16 (l := sixteen bs A) HO.out hzl hz, h2.2.1, by have := h2.2.2.1; unfold maxLen at this; omega⟩)
  clear h P1 hz hzl HO
  rw [← HT.out] at tg
  go_wp2_with (go_at_call 82; refine (rget_any _ g 0 cap (sixteen bs A) _ (C16.out.1.keep ((Keep.refl _).alloc _)) C16.out.2.1 C16.out.2.2).mono ?_; rintro e w2 ⟨rfl, hk2⟩; have E0 := (B0.alloc _).keep hk2; have E1 := (B1.alloc _).keep hk2; have d0 := E0.cells; have d1 := E1.cells; have g0 := E0.thawed; have g1 := E1.thawed; have k0 := E0.lt; have k1 := E1.lt)
  refine bodyPost_ret (v := .tuple #[capV t (sixteen bs A), .agg #[.string ⟨#[]⟩, .int .i64 0, .int .i64 0]]) (by simp [results, Tryd.results55, go_sem, capV, d0, d1, k0, k1]) rfl ⟨rfl, ?_⟩
  repeat (first | with_reducible refine Keep.setCell ?_ (by simp) _)
  exact (((((Keep.refl _).alloc _).alloc _).trans hk1).alloc _).trans hk2
/-- LoadCap: what it answers, and what was there stays. -/
theorem rloadCap_any (p gb gt cb ct : Nat) (bs : List Int) (ts : List Bool) (a : Int) (ha : -9223372036854775808 ≤ a ∧ a ≤ 9223372036854775807) (w : World) (h : RMem w p gb gt cb ct bs ts) :
    Calls Tryd.prog 55 #[.pointer (some ⟨p, 0, none⟩), .int .i64 a] w fun e w' => e = .returned (loadCapV bs ts a) ∧ Keep w w' := by
  unfold loadCapV
  cases hr : reachB a 16 bs.length
  · rw [if_neg (by simp)]
    exact rloadCap_bad p gb gt cb ct bs ts a ha w h hr
  · rw [if_pos rfl]
    obtain ⟨r0, _, r2⟩ := reachB_true hr
    obtain ⟨A, rfl⟩ := Int.eq_ofNat_of_zero_le r0
    simp only [Int.toNat_natCast]
    by_cases hm : (A : Int) % 16 = 0
    · rw [if_pos hm]
      exact rloadCap_good p gb gt cb ct bs ts A (by omega) (by omega) w h
    · rw [if_neg hm]
      exact rloadCap_askew p gb gt cb ct bs ts A (by omega) (by omega) w h
end Go.Proofs.YtgfoohiaioojoaaDoor

/- The reference's StoreCap. -/
namespace Go.Proofs.YtgfoohiaioojoaaDoor
set_option linter.unusedVariables false
set_option linter.unusedSimpArgs false
open Go.RowKit
/-- What LoadCap tells of a place. -/
def granV (L : Nat) (a : Int) : Value := if reachB a 16 L = true then (if a % 16 = 0 then okV else alignV a) else rangeV a
set_option maxRecDepth 100000 in
set_option maxHeartbeats 1000000 in
theorem rstoreCap_bad (p gb gt cb ct : Nat) (bs : List Int) (ts : List Bool) (a : Int) (ha : -9223372036854775808 ≤ a ∧ a ≤ 9223372036854775807) (t : Bool) (b' p' a' m' y' : Int) (w : World) (h : RMem w p gb gt cb ct bs ts) (hr : ¬ (reachB a 16 bs.length = true ∧ a % 16 = 0)) :
    Calls Tryd.prog 43 #[.pointer (some ⟨p, 0, none⟩), .int .i64 a, .agg #[.bool t, .int .u32 b', .int .u32 p', .int .u32 a', .int .u16 m', .int .u16 y']] w fun e w' => e = .returned (granV bs.length a) ∧ Keep w w' := by
  have C := Lib.hid (fun W (k : Keep w W) => rloadCap_any p gb gt cb ct bs ts a ha W (h.keep k))
  obtain ⟨c, n, hn, e1, e2⟩ : ∃ (c : Value) (n : Int), (n = 6 ∨ n = 5) ∧ loadCapV bs ts a = .tuple #[zeroV, .agg #[.string ⟨#[109, 101, 109]⟩, .int .i64 a, .int .i64 n]] ∧ granV bs.length a = .agg #[.string ⟨#[109, 101, 109]⟩, .int .i64 a, .int .i64 n] := by
    unfold loadCapV granV
    by_cases h1 : reachB a 16 bs.length = true
    · have h2 : ¬ a % 16 = 0 := fun h2 => hr ⟨h1, h2⟩
      rw [if_pos h1, if_pos h1, if_neg h2, if_neg h2]
      exact ⟨zeroV, 5, .inr rfl, rfl, rfl⟩
    · rw [if_neg h1, if_neg h1]
      exact ⟨zeroV, 6, .inl rfl, rfl, rfl⟩
  rw [e1] at C
  rw [e2]
  have n0 : ¬ n = 0 := by omega
  clear e1 e2 hr ha hn h
  unfold zeroV at C
  go_enter Tryd.func43, Tryd.ntmps43
  go_wp2_with fail
  refine (C.out _ (((Keep.refl _).alloc _).alloc _)).mono ?_
  rintro e w1 ⟨rfl, hk1⟩
  have B1 : Box w1 (w.heap.size + 1) _ := (Box.new1 _ _ _ _).keep hk1
  have B0 : Box w1 w.heap.size _ := ((Box.new _ _ _).alloc _).keep hk1
  have c1 := B1.cells
  have f1 := B1.thawed
  have c0 := B0.cells
  have l1 := B1.lt
  have l0 := B0.lt
  have ne1 : w.heap.size + 1 ≠ w1.heap.size := by omega
  have lt1 : w.heap.size + 1 < w1.heap.size + 1 := by omega
  have ne2 : w.heap.size ≠ w1.heap.size := by omega
  have lt2 : w.heap.size < w1.heap.size + 1 := by omega
  have ne3 : w.heap.size + 1 ≠ w1.heap.size + 1 := by omega
  go_wp2_with fail
  refine bodyPost_ret (v := .agg #[.string ⟨#[109, 101, 109]⟩, .int .i64 a, .int .i64 n]) (by simp [results, Tryd.results43, go_sem, c1, l1, lt1, ne1, ne3]) rfl ⟨rfl, ?_⟩
  repeat (first | with_reducible refine Keep.setCell ?_ (by simp) _ | with_reducible refine Keep.alloc ?_ _)
  exact (((Keep.refl _).alloc _).alloc _).trans hk1
theorem offAt_16 (ts : List Bool) (A : Nat) (h : A % 16 = 0) : ∀ n, 0 < n → n ≤ 16 → offAt ts A n = ts.set (A / 16) false := by
  intro n
  induction n with
  | zero => intro h0; omega
  | succ n ih =>
    intro _ h2
    rw [offAt_step]
    have e : (A + n) / 16 = A / 16 := by omega
    rw [e]
    rcases Nat.eq_zero_or_pos n with rfl | hn
    · rfl
    · rw [ih hn (by omega), List.set_set]
/-- A memory whose one tag is set. -/
theorem RMem.tag {w : World} {p gb gt cb ct : Nat} {bs : List Int} {ts : List Bool} (h : RMem w p gb gt cb ct bs ts) (j : Nat) (t : Bool) :
    RMem (w.setCell ⟨gt, j, none⟩ (.bool t)) p gb gt cb ct bs (ts.set j t) :=
  { h with
    box := by rw [List.length_set]; exact h.box.other h.pt _
    bytes := h.bytes.other h.bt _
    tags := by rw [bls_set]; exact h.tags.set j _
    len := by rw [List.length_set]; exact h.len
    capt := by rw [List.length_set]; exact h.capt }
/-- Put's row lies where a Store may read it. -/
theorem rput_lies (t : Bool) (b p a m y : Int) (hb : 0 ≤ b ∧ b ≤ 4294967295) (hp : 0 ≤ p ∧ p ≤ 4294967295) (ha : 0 ≤ a ∧ a ≤ 4294967295) (hm : 0 ≤ m ∧ m ≤ 65535) (hy : 0 ≤ y ∧ y ≤ 65535) (w : World) (S : Nat → Prop) (hS : ∀ k, S k → k < w.heap.size) :
    Calls Tryd.prog 79 #[.agg #[.bool t, .int .u32 b, .int .u32 p, .int .u32 a, .int .u16 m, .int .u16 y]] w fun e w' => ∃ v, e = .returned v ∧ Lies w' v (putL b p a m y) S ∧ Keep w w' := by
  refine (rput_any t b p a m y hb hp ha hm hy w).mono ?_
  rintro e w' ⟨g, cap, rfl, ho, hk⟩
  have h := own_cells (l := putL b p a m y) ho rfl (by rw [putL_length]; decide)
  refine ⟨_, rfl, ⟨_, cap, rfl, h.2.1, by have := h.2.2.1; unfold maxLen at this; omega, fun j hj => ⟨g, 0, rfl, fun hs => ?_, h.2.2.2.2, by rw [Nat.zero_add]; exact h.1 j hj⟩⟩, hk⟩
  have := hS g hs
  have := h.2.2.2.1
  omega
theorem putL_bytes (b p a m y : Int) : ∀ z ∈ putL b p a m y, IsByte z := by
  intro z h
  simp only [putL, List.mem_append] at h
  rcases h with h | h | h | h | h
  · exact b4_bytes b z h
  · exact b4_bytes p z h
  · exact b4_bytes a z h
  · exact b2_bytes m z h
  · exact b2_bytes y z h
set_option maxRecDepth 100000 in
set_option maxHeartbeats 1000000 in
theorem rstoreCap_good (p gb gt cb ct : Nat) (bs : List Int) (ts : List Bool) (A : Nat) (hA : A + 16 ≤ bs.length) (hm : A % 16 = 0) (t : Bool) (b' p' a' m' y' : Int) (hb : 0 ≤ b' ∧ b' ≤ 4294967295) (hp : 0 ≤ p' ∧ p' ≤ 4294967295) (ha : 0 ≤ a' ∧ a' ≤ 4294967295) (hmm : 0 ≤ m' ∧ m' ≤ 65535) (hy : 0 ≤ y' ∧ y' ≤ 65535) (w : World) (h : RMem w p gb gt cb ct bs ts) :
    Calls Tryd.prog 43 #[.pointer (some ⟨p, 0, none⟩), .int .i64 A, .agg #[.bool t, .int .u32 b', .int .u32 p', .int .u32 a', .int .u16 m', .int .u16 y']] w fun e w' => e = .returned okV ∧ RMem w' p gb gt cb ct (putAt bs A (putL b' p' a' m' y')) (ts.set (A / 16) t) ∧ KeepBut (ownsM gb gt) w w' := by
  have C := Lib.hid (fun W (k : Keep w W) => rloadCap_good p gb gt cb ct bs ts A hA hm W (h.keep k))
  have CP := Lib.hid (fun W S hS => rput_lies t b' p' a' m' y' hb hp ha hmm hy W S hS)
  have hlen := h.len
  have HP := Lib.hid (show A + (putL b' p' a' m' y').length ≤ bs.length from hA)
  have LB := Lib.hid h.bytes.lt
  have LT := Lib.hid h.tags.lt
  have LP := Lib.hid h.box.lt
  obtain ⟨x1, x2, x3, x4, x5, hx⟩ : ∃ x1 x2 x3 x4 x5 : Int, capV (ts.getD (A / 16) false) (sixteen bs A) = .agg #[.bool (ts.getD (A / 16) false), .int .u32 x1, .int .u32 x2, .int .u32 x3, .int .u16 x4, .int .u16 x5] := ⟨_, _, _, _, _, rfl⟩
  rw [hx] at C
  clear hx
  have HM := Lib.hid h
  have hM := h.most
  unfold okV wrongV at C ⊢
  have m0 : (0 : Int) ≤ (A : Int) := Int.natCast_nonneg _
  have CS := Lib.hid (fun v W (hR : RMem W p gb gt cb ct bs ts) (hv : Lies W v (putL b' p' a' m' y') (ownsM gb gt)) => rstore_ok p gb gt cb ct bs ts A v (putL b' p' a' m' y') (putL_bytes b' p' a' m' y') HP.out W hR hv)
  clear h
  go_enter Tryd.func43, Tryd.ntmps43
  go_wp2_with fail
  refine (C.out _ (((Keep.refl _).alloc _).alloc _)).mono ?_
  rintro e w1 ⟨rfl, hk1⟩
  have B1 : Box w1 (w.heap.size + 1) _ := (Box.new1 _ _ _ _).keep hk1
  have B0 : Box w1 w.heap.size _ := ((Box.new _ _ _).alloc _).keep hk1
  have c1 := B1.cells
  have f1 := B1.thawed
  have c0 := B0.cells
  have l1 := B1.lt
  have l0 := B0.lt
  have ne1 : w.heap.size + 1 ≠ w1.heap.size := by omega
  have lt1 : w.heap.size + 1 < w1.heap.size + 1 := by omega
  have ne2 : w.heap.size ≠ w1.heap.size := by omega
  have lt2 : w.heap.size < w1.heap.size + 1 := by omega
  have ne3 : w.heap.size + 1 ≠ w1.heap.size + 1 := by omega
  go_wp2_with fail
  refine (CP.out _ (ownsM gb gt) ?_).mono ?_
  · rintro k (rfl | rfl) <;> simp <;> have := LB.out <;> have := LT.out <;> omega
  rintro e w2 ⟨v, rfl, hv, hk2⟩
  have K2 : Keep w w2 := ((((((Keep.refl _).alloc _).alloc _).trans hk1).alloc _).alloc _).trans hk2
  have B02 : Box w2 w.heap.size _ := ((B0.alloc _).alloc _).keep hk2
  have B12 : Box w2 (w.heap.size + 1) _ := ((B1.alloc _).alloc _).keep hk2
  have HK2 := Lib.hid K2
  have HV := Lib.hid hv
  clear hv hk2 hk1 c0 c1 f1 l0 l1 ne1 lt1 ne2 lt2 ne3 B0 B1 K2
  go_wp2_with fail
  refine (CS.out v w2 (HM.out.keep HK2.out) HV.out).mono ?_
  rintro e w3 ⟨rfl, hR3, hB3⟩
  have lb0 := LB.out
  have lt0 := LT.out
  have lp0 := LP.out
  have B03 := B02.but hB3 (by rintro (h | h) <;> omega)
  have B13 := B12.but hB3 (by rintro (h | h) <;> omega)
  have hbl : (putAt bs A (putL b' p' a' m' y')).length = bs.length := putAt_length _ _ _
  have htl : (offAt ts A (putL b' p' a' m' y').length).length = ts.length := offAt_length _ _ _
  have HT := Lib.hid (offAt_16 ts A hm (putL b' p' a' m' y').length (by rw [putL_length]; decide) (by rw [putL_length]; decide))
  obtain ⟨bk, hbk⟩ : ∃ bk, bk = putAt bs A (putL b' p' a' m' y') := ⟨_, rfl⟩
  obtain ⟨tk, htk⟩ : ∃ tk, tk = offAt ts A (putL b' p' a' m' y').length := ⟨_, rfl⟩
  rw [← hbk] at hbl hR3
  rw [← htk] at htl hR3 HT
  have HBK := Lib.hid hbk
  have HR3 := Lib.hid hR3
  have HB3 := Lib.hid hB3
  have p3 := hR3.box.cells
  have l3 := hR3.box.lt
  rw [hbl, htl] at p3
  have at1 : A / 16 < ts.length := by omega
  have at0 : (0 : Int) ≤ (A : Int) / 16 := by omega
  have at3 : (A : Int) / 16 < (ts.length : Int) := by omega
  have at2 : ((A : Int) / 16).toNat = A / 16 := by omega
  have g2 : w3.cell? ⟨gt, A / 16, none⟩ = some (.bool (tk.getD (A / 16) false)) := by
    rw [hR3.tags.cells]
    have : A / 16 < tk.length := by rw [htl]; omega
    simp [bls, List.getD_eq_getElem?_getD, List.getElem?_eq_getElem this]
  have gf := hR3.tags.thawed
  have c0 := B03.cells
  have c1 := B13.cells
  have f1 := B13.thawed
  have n1 := hR3.pt
  have n2 := hR3.bt
  have n3 : w.heap.size ≠ gt := by omega
  have n4 : w.heap.size + 1 ≠ gt := by omega
  have n5 : p ≠ w.heap.size + 1 := by omega
  have n6 : gb ≠ w.heap.size + 1 := by omega
  have n7 : gt ≠ w.heap.size + 1 := by omega
  have hbo : IsByte 0 := by unfold IsByte; decide
  clear htk hR3 hB3 hbk HP
  go_wp2_with fail
  clear c0 g2 gf c1 f1 p3
  have wA : IntKind.i64.wrap ((A : Int) / 16) = (A : Int) / 16 := by rw [IntKind.wrap_i64]; omega
  refine region_grows_tail 9 (Keep _) (by kernel_rfl) (by kernel_rfl) (Keep.refl _).drew ?_
  simp only [List.take_succ_cons, List.take_zero, List.drop_succ_cons, List.drop_zero]
  repeat (first
    | (apply text_step (by rfl)
       · intro W hW
         have c1 := (HR3.out.box.keep hW).cells
         rw [hbl, htl] at c1
         have c2 := (B03.keep hW).cells
         go_simp
         exact ⟨rfl, hW⟩
       go_simp))
  apply text_end
  intro W hW
  have HRW := Lib.hid (HR3.out.keep hW)
  have HBW := Lib.hid (HB3.out.trans (hW.but _))
  have g2 : W.cell? ⟨gt, A / 16, none⟩ = some (.bool (tk.getD (A / 16) false)) := by
    rw [HRW.out.tags.cells]
    have : A / 16 < tk.length := by rw [htl]; omega
    simp [bls, List.getD_eq_getElem?_getD, List.getElem?_eq_getElem this]
  have gf := HRW.out.tags.thawed
  have B1W := B13.keep hW
  have c1 := B1W.cells
  have f1 := B1W.thawed
  have lW := B1W.lt
  clear hW
  go_wp2_with fail
  refine bodyPost_ret (v := .agg #[.string ⟨#[]⟩, .int .i64 0, .int .i64 0]) (by simp [results, Tryd.results43, go_sem, c1]) rfl ⟨rfl, ?_, ?_⟩
  · have hR := HRW.out.tag (A / 16) t
    rw [HT.out, List.set_set, HBK.out] at hR
    exact ((hR.other n5 n6 n7 _).other n5 n6 n7 _).other n5 n6 n7 _
  · exact ((((HK2.out.but _).trans HBW.out).setCell (.inl (.inr rfl)) _).setCell (.inr (by simp)) _ |>.setCell (.inr (by simp)) _).setCell (.inr (by simp)) _
/-- StoreCap: the sixteen bytes and the tag; or the error, and nothing changes. -/
theorem rstoreCap_any (p gb gt cb ct : Nat) (bs : List Int) (ts : List Bool) (a : Int) (ha0 : -9223372036854775808 ≤ a ∧ a ≤ 9223372036854775807) (t : Bool) (b' p' a' m' y' : Int) (hb : 0 ≤ b' ∧ b' ≤ 4294967295) (hp : 0 ≤ p' ∧ p' ≤ 4294967295) (ha : 0 ≤ a' ∧ a' ≤ 4294967295) (hmm : 0 ≤ m' ∧ m' ≤ 65535) (hy : 0 ≤ y' ∧ y' ≤ 65535) (w : World) (h : RMem w p gb gt cb ct bs ts) :
    Calls Tryd.prog 43 #[.pointer (some ⟨p, 0, none⟩), .int .i64 a, .agg #[.bool t, .int .u32 b', .int .u32 p', .int .u32 a', .int .u16 m', .int .u16 y']] w fun e w' =>
      (¬ (reachB a 16 bs.length = true ∧ a % 16 = 0) ∧ e = .returned (granV bs.length a) ∧ Keep w w') ∨
      ((reachB a 16 bs.length = true ∧ a % 16 = 0) ∧ e = .returned okV ∧ RMem w' p gb gt cb ct (putAt bs a.toNat (putL b' p' a' m' y')) (ts.set (a.toNat / 16) t) ∧ KeepBut (ownsM gb gt) w w') := by
  by_cases hr : reachB a 16 bs.length = true ∧ a % 16 = 0
  · obtain ⟨h1, h2⟩ := hr
    obtain ⟨r0, _, r2⟩ := reachB_true h1
    obtain ⟨A, rfl⟩ := Int.eq_ofNat_of_zero_le r0
    simp only [Int.toNat_natCast]
    exact (rstoreCap_good p gb gt cb ct bs ts A (by omega) (by omega) t b' p' a' m' y' hb hp ha hmm hy w h).mono fun e w' h => .inr ⟨⟨h1, h2⟩, h⟩
  · exact (rstoreCap_bad p gb gt cb ct bs ts a ha0 t b' p' a' m' y' w h hr).mono fun e w' h => .inl ⟨hr, h⟩
end Go.Proofs.YtgfoohiaioojoaaDoor

/- The reference's NewMem, Tags. -/
namespace Go.Proofs.YtgfoohiaioojoaaDoor
set_option linter.unusedVariables false
set_option linter.unusedSimpArgs false
open Go.RowKit Go.Deep
def sizeV (size err : Int) : Value := .agg #[.string ⟨#[115, 105, 122, 101]⟩, .int .i64 size, .int .i64 err]
theorem rnew_bad (size : Int) (hs : -9223372036854775808 ≤ size ∧ size ≤ 9223372036854775807) (n : Int) (hn : (size < 16 ∨ 65536 < size) ∧ n = 6 ∨ (16 ≤ size ∧ size ≤ 65536) ∧ ¬ size % 16 = 0 ∧ n = 5) (w : World) :
    Calls Tryd.prog 39 #[.int .i64 size] w fun e w' => e = .returned (.tuple #[.pointer none, sizeV size n]) ∧ Keep w w' := by
  unfold sizeV
  go_enter Tryd.func39, Tryd.ntmps39
  go_wp2_with fail
  all_goals (
    first
      | (have e : n = 6 := (by omega)
         subst e
         refine bodyPost_ret (v := .tuple #[.pointer none, .agg #[.string ⟨#[115, 105, 122, 101]⟩, .int .i64 size, .int .i64 6]]) (by simp [results, Tryd.results39, go_sem]; done) rfl ⟨rfl, (Keep.refl _).alloc _⟩)
      | (have e : n = 5 := (by omega)
         subst e
         refine bodyPost_ret (v := .tuple #[.pointer none, .agg #[.string ⟨#[115, 105, 122, 101]⟩, .int .i64 size, .int .i64 5]]) (by simp [results, Tryd.results39, go_sem]; done) rfl ⟨rfl, (Keep.refl _).alloc _⟩))
theorem infoBool : (Tryd.prog.info? 4).map (fun i => (i.zero, i.size, i.bytes)) = some (some (.bool false), 1, 1) := by kernel_rfl
theorem made_u8 (n : Nat) : madeCells #[.int .u8 0] n = u8s (List.replicate n 0) := by
  apply Array.ext'
  rw [toList_madeCells_one]
  simp [u8s]
theorem made_bl (n : Nat) : madeCells #[.bool false] n = bls (List.replicate n false) := by
  apply Array.ext'
  rw [toList_madeCells_one]
  simp [bls]
/-- A memory that has just been made. -/
theorem RMem.fresh {w : World} {p gb gt N M : Nat} (hp : Box w p #[.slice (some ⟨gb, 0, none⟩) N N, .slice (some ⟨gt, 0, none⟩) M M]) (hb : Box w gb (madeCells #[.int .u8 0] N)) (ht : Box w gt (madeCells #[.bool false] M)) (h1 : p ≠ gb) (h2 : p ≠ gt) (h3 : gb ≠ gt) (h4 : N = 16 * M) (h5 : N ≤ 65536) :
    RMem w p gb gt N M (List.replicate N 0) (List.replicate M false) :=
  { box := by simpa using hp
    bytes := by rw [← made_u8]; exact hb
    tags := by rw [← made_bl]; exact ht
    pb := h1, pt := h2, bt := h3
    isB := fun z hz => by rw [(List.mem_replicate.1 hz).2]; unfold IsByte; decide
    len := by simpa using h4
    most := by simpa using h5
    capb := by simp; omega
    capt := by simp; omega }
set_option maxRecDepth 100000 in
theorem rnew_good (N M : Nat) (h1 : 16 ≤ N) (h2 : N ≤ 65536) (h3 : N = 16 * M) (w : World) :
    Calls Tryd.prog 39 #[.int .i64 N] w fun e w' => ∃ p gb gt, e = .returned (.tuple #[.pointer (some ⟨p, 0, none⟩), okV]) ∧ RMem w' p gb gt N M (List.replicate N 0) (List.replicate M false) ∧ Keep w w' ∧ w.heap.size ≤ p ∧ w.heap.size ≤ gb ∧ w.heap.size ≤ gt := by
  unfold okV wrongV
  have hmk1 := run_make_row' (P := Tryd.prog) 37 5 (.int .u8 0) 1 Tryd.underlying37 infoU8 rfl .i64 .i64 N (by omega) (by omega)
  have hmk2 := run_make_row' (P := Tryd.prog) 106 4 (.bool false) 1 Tryd.underlying106 infoBool rfl .i64 .i64 M (by omega) (by omega)
  have hw : IntKind.i64.wrap ((N : Int) / 16) = (M : Int) := by rw [IntKind.wrap_i64]; omega
  have hmod : (N : Int) % 16 = 0 := by omega
  have b1 : (16 : Int) ≤ (N : Int) := by omega
  have b2 : (N : Int) ≤ 65536 := by omega
  have hd : (N : Int) / 16 = (M : Int) := by omega
  have H3 := Lib.hid h3
  clear h3
  go_enter Tryd.func39, Tryd.ntmps39
  go_wp2_with fail
  go_region
  all_goals go_wp2_with fail
  · refine bodyPost_ret (v := .tuple #[.pointer (some ⟨w.heap.size + 1 + 1 + 1, 0, none⟩), .agg #[.string ⟨#[]⟩, .int .i64 0, .int .i64 0]]) (by simp [results, Tryd.results39, go_sem]; done) rfl ⟨_, _, _, rfl, RMem.fresh ((Box.newAt _ _ _ _ (by simp)).drew) ((((Box.newAt _ _ _ _ (by simp)).alloc _).alloc _).drew) (((Box.newAt _ _ _ _ (by simp)).alloc _).drew) (by omega) (by omega) (by omega) H3.out h2, (((((Keep.refl _).alloc _).alloc _).alloc _).alloc _).drew, by omega, by omega, by omega⟩
  · refine bodyPost_ret (v := .tuple #[.pointer (some ⟨w.heap.size + 1 + 1 + 1, 0, none⟩), .agg #[.string ⟨#[]⟩, .int .i64 0, .int .i64 0]]) (by simp [results, Tryd.results39, go_sem]; done) rfl ⟨_, _, _, rfl, RMem.fresh ((Box.newAt _ _ _ _ (by simp)).drew) (((Box.newAt _ _ _ _ (by simp)).alloc _).drew) ((((Box.newAt _ _ _ _ (by simp)).alloc _).alloc _).drew) (by omega) (by omega) (by omega) H3.out h2, (((((Keep.refl _).alloc _).alloc _).alloc _).alloc _).drew, by omega, by omega, by omega⟩
end Go.Proofs.YtgfoohiaioojoaaDoor

/- The reference's Tags: where granules with tags begin. -/
namespace Go.Proofs.YtgfoohiaioojoaaDoor
set_option linter.unusedVariables false
set_option linter.unusedSimpArgs false
open Go.RowKit Go.Deep
/-- Of the first k granules. -/
def tagsAt (ts : List Bool) : Nat → List Int
  | 0 => []
  | k + 1 => if ts.getD k false = true then tagsAt ts k ++ [16 * (k : Int)] else tagsAt ts k
theorem tagsAt_length (ts : List Bool) (k : Nat) : (tagsAt ts k).length ≤ k := by
  induction k with
  | zero => simp [tagsAt]
  | succ k ih => unfold tagsAt; split <;> (try simp) <;> omega
theorem infoInt : (Tryd.prog.info? 3).map (fun i => (i.zero, i.size, i.bytes)) = some (some (.int .i64 0), 1, 8) := by kernel_rfl
set_option maxRecDepth 100000 in
set_option maxHeartbeats 1000000 in
theorem rtags_any (p gb gt cb ct : Nat) (bs : List Int) (ts : List Bool) (w : World) (h : RMem w p gb gt cb ct bs ts) :
    Calls Tryd.prog 60 #[.pointer (some ⟨p, 0, none⟩)] w fun e w' => ∃ v, e = .returned v ∧ w'.ownsRow w.heap.size 3 1 v (tagsAt ts ts.length).length ((tagsAt ts ts.length).map (Value.int .i64)) ∧ Keep w w' := by
  have hM := h.most
  have hlen := h.len
  obtain ⟨i0, hi0, hz0, hz1, hz2⟩ := info_parts infoInt
  obtain ⟨M, hMe⟩ : ∃ M, M = ts.length := ⟨_, rfl⟩
  have HH := Lib.hid h
  have BP := h.box
  have lp := BP.lt
  rw [← hMe] at BP hlen ⊢
  have HE := Lib.hid hMe
  have m63 : (M : Int) ≤ 4096 := by omega
  clear h hMe
  go_enter Tryd.func60, Tryd.ntmps60
  go_wp2_with fail
  go_loopw [3, 4] (fun v i wr => ∃ k : Nat, k ≤ M ∧ i = .int .i64 (k : Int) ∧ wr.ownsRow w.heap.size 3 1 v (tagsAt ts k).length ((tagsAt ts k).map (Value.int .i64)) ∧ Keep w wr) (fun _ i _ => M - (intOf i).toNat)
  case atStart => exact ⟨0, Nat.zero_le _, rfl, ⟨by simp [tagsAt], .inl ⟨rfl, by simp [tagsAt]⟩⟩, Keep.refl _⟩
  case round =>
    obtain ⟨k, hk, rfl, hO, hK⟩ := hrel
    have k0 : (0 : Int) ≤ (k : Int) := Int.natCast_nonneg _
    have p0 := (BP.keep hK).cells
    by_cases h : k < M
    · have hkN : (k : Int) < (M : Int) := by omega
      have g2 : wr.cell? ⟨gt, k, none⟩ = some (.bool (ts.getD k false)) := by
        rw [(HH.out.keep hK).tags.cells]
        have : k < ts.length := by rw [← HE.out]; exact h
        simp [bls, List.getD_eq_getElem?_getD, List.getElem?_eq_getElem this]
      have HO := Lib.hid hO
      have HK := Lib.hid hK
      clear hO hK
      have htl := tagsAt_length ts k
      cases ht : ts.getD k false
      · have hstep : tagsAt ts (k + 1) = tagsAt ts k := by rw [tagsAt, ht]; rfl
        have HS := Lib.hid hstep
        rw [ht] at g2
        clear hstep htl
        go_wp2_with fail
        refine ⟨⟨k + 1, h, by simp, ?_, HK.out⟩, by simp [intOf]; omega⟩
        rw [HS.out]
        exact HO.out
      · have hstep : tagsAt ts (k + 1) = tagsAt ts k ++ [16 * (k : Int)] := by rw [tagsAt, ht]; rfl
        have HS := Lib.hid hstep
        have hL := Lib.hid htl
        rw [ht] at g2
        clear hstep htl
        go_wp2_with (at_builtin; refine wpList_append_own _ rfl _ _ 61 rfl w.heap.size 3 i0 (.int .i64 0) 1 8 Tryd.underlying61 hi0 hz0 hz1 hz2 rfl (by decide) _ _ _ rfl (HO.out.alloc _) ⟨wr.heap.size, 0, none⟩ 1 1 [.int .i64 (16 * (k : Int))] rfl rfl ?c1 ?c2 ?c3 ?c4 ?c5 ?_)
        case c1 =>
          intro j u hj
          match j, hj with
          | 0, hj => simp at hj; subst hj; simp [Addr.add]
        case c2 => intro u hu; simp at hu; subst hu; rfl
        case c3 => have := hL.out; unfold maxLen; omega
        case c4 => have := hL.out; omega
        case c5 => have := HK.out.size; simp; omega
        intro v' w1 hown' hgrow _
        have KG : Keep w w1 := grown_keep (HK.out.alloc _) hgrow (fun c hc => (World.ownsRow.lt HO.out c hc).1)
        clear hgrow
        go_wp2_with fail
        refine ⟨⟨k + 1, h, by simp, ?_, KG⟩, by simp [intOf]; omega⟩
        rw [HS.out]
        simpa using hown'
    · obtain rfl : k = M := by omega
      go_wp2_with fail
      go_ret
      exact ⟨_, rfl, hO, hK⟩
end Go.Proofs.YtgfoohiaioojoaaDoor
