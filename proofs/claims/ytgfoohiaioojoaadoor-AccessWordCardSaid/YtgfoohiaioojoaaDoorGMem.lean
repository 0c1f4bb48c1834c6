/- Mem, MemLoad, MemStore, BytesData: The reference's memory: what lies there, as plain lists; and 'all stays but these blocks'. -/
import Derived.Test.YtgfoohiaioojoaaDoorGRef
import Derived.Test.YtgfoohiaioojoaaDoorGBase
import Derived.OneCell
import Derived.Test.YtgfoohiaioojoaaDoorTrodKeep
import Derived.ProofKit
import Derived.OpenShut
import Derived.WideKeyArgs
import Derived.ChangeSlices
import Derived.SizedLaws
/- The reference's memory: what lies there, as plain lists; and 'all stays but these blocks'. -/
namespace Go.Proofs.YtgfoohiaioojoaaDoor
set_option linter.unusedVariables false
set_option linter.unusedSimpArgs false
open Go.RowKit

def bls (l : List Bool) : Array Value := (l.map Value.bool).toArray
/-- At p lies a memory of the reference's: its bytes in block gb, its tags in block gt. -/
structure RMem (w : World) (p gb gt cb ct : Nat) (bs : List Int) (ts : List Bool) : Prop where
  box : Box w p #[.slice (some ⟨gb, 0, none⟩) bs.length cb, .slice (some ⟨gt, 0, none⟩) ts.length ct]
  bytes : Box w gb (u8s bs)
  tags : Box w gt (bls ts)
  pb : p ≠ gb
  pt : p ≠ gt
  bt : gb ≠ gt
  isB : ∀ z ∈ bs, IsByte z
  len : bs.length = 16 * ts.length
  most : bs.length ≤ 65536
  capb : bs.length ≤ cb ∧ cb ≤ 9223372036854775807
  capt : ts.length ≤ ct ∧ ct ≤ 9223372036854775807
theorem RMem.keep {w w' : World} {p gb gt cb ct : Nat} {bs : List Int} {ts : List Bool} (h : RMem w p gb gt cb ct bs ts) (k : Keep w w') : RMem w' p gb gt cb ct bs ts :=
  { h with box := h.box.keep k, bytes := h.bytes.keep k, tags := h.tags.keep k }
def ownsM (gb gt : Nat) (k : Nat) : Prop := k = gb ∨ k = gt
theorem RMem.but {S : Nat → Prop} {w w' : World} {p gb gt cb ct : Nat} {bs : List Int} {ts : List Bool} (h : RMem w p gb gt cb ct bs ts) (k : KeepBut S w w') (hp : ¬ S p) (hb : ¬ S gb) (ht : ¬ S gt) : RMem w' p gb gt cb ct bs ts :=
  { h with box := h.box.but k hp, bytes := h.bytes.but k hb, tags := h.tags.but k ht }
/-- Are so many bytes there? -/
def reachB (a n : Int) (L : Nat) : Bool := decide (0 ≤ a) && decide (0 ≤ n) && decide (a + n ≤ L)
def rangeV (a : Int) : Value := wrongV ⟨#[109, 101, 109]⟩ a 6
def alignV (a : Int) : Value := wrongV ⟨#[109, 101, 109]⟩ a 5
def reachV (a n : Int) (L : Nat) : Value := if reachB a n L = true then okV else rangeV a
set_option maxHeartbeats 1000000 in
theorem rreach_any (p gb gt cb ct : Nat) (bs : List Int) (ts : List Bool) (a n : Int) (ha : -9223372036854775808 ≤ a ∧ a ≤ 9223372036854775807) (hn : -9223372036854775808 ≤ n ∧ n ≤ 9223372036854775807) (w : World) (h : RMem w p gb gt cb ct bs ts) :
    Calls Tryd.prog 78 #[.pointer (some ⟨p, 0, none⟩), .int .i64 a, .int .i64 n] w fun e w' => e = .returned (reachV a n bs.length) ∧ Keep w w' := by
  have hL := h.most
  obtain ⟨L, hLe⟩ : ∃ L, L = bs.length := ⟨_, rfl⟩
  have B := h.box
  have hlt := B.lt
  rw [← hLe] at hL B ⊢
  clear h hLe
  have c0 := B.cells
  go_enter Tryd.func78, Tryd.ntmps78
  go_wp2_with fail
  all_goals (
    refine bodyPost_ret (v := reachV a n L) ?_ rfl ⟨rfl, (Keep.refl _).alloc _⟩
    first
      | (have hv : reachV a n L = okV := by unfold reachV; rw [if_pos (by simp [reachB]; omega)]
         rw [hv]; simp [results, Tryd.results78, go_sem, okV, wrongV]; done)
      | (have hv : reachV a n L = rangeV a := by unfold reachV; rw [if_neg (by simp [reachB]; omega)]
         rw [hv]; simp [results, Tryd.results78, go_sem, rangeV, wrongV]; done))
end Go.Proofs.YtgfoohiaioojoaaDoor

/- The reference's Load. -/
namespace Go.Proofs.YtgfoohiaioojoaaDoor
set_option linter.unusedVariables false
set_option linter.unusedSimpArgs false
open Go.RowKit
theorem reachB_true {a n : Int} {L : Nat} (h : reachB a n L = true) : 0 ≤ a ∧ 0 ≤ n ∧ a + n ≤ L := by simpa [reachB, and_assoc] using h
theorem bad_err : ∀ a, rangeV a = .agg #[.string ⟨#[109, 101, 109]⟩, .int .i64 a, .int .i64 6] := fun _ => rfl
set_option maxHeartbeats 1000000 in
theorem rload_bad (p gb gt cb ct : Nat) (bs : List Int) (ts : List Bool) (a n : Int) (ha : -9223372036854775808 ≤ a ∧ a ≤ 9223372036854775807) (hn : -9223372036854775808 ≤ n ∧ n ≤ 9223372036854775807) (w : World) (h : RMem w p gb gt cb ct bs ts) (hr : reachB a n bs.length = false) :
    Calls Tryd.prog 49 #[.pointer (some ⟨p, 0, none⟩), .int .i64 a, .int .i64 n] w fun e w' => e = .returned (.tuple #[.slice none 0 0, rangeV a]) ∧ Keep w w' := by
  have C := Lib.hid (fun W (k : Keep w W) => rreach_any p gb gt cb ct bs ts a n ha hn W (h.keep k))
  have R : reachV a n bs.length = rangeV a := by unfold reachV; rw [hr]; rfl
  rw [R, bad_err] at C
  rw [bad_err]
  clear R h hr ha hn
  go_enter Tryd.func49, Tryd.ntmps49
  go_wp2_with fail
  refine (C.out _ ((Keep.refl _).alloc _)).mono ?_
  rintro e w1 ⟨rfl, hk1⟩
  have B0 : Box w1 w.heap.size _ := (Box.new _ _ _).keep hk1
  have hs := hk1.size
  have l0 := B0.lt
  go_wp2_with fail
  refine region_grows_tail 2 (Keep _) (by kernel_rfl) (by kernel_rfl) (Keep.refl _).drew ?_
  simp only [List.take_succ_cons, List.take_zero, List.drop_succ_cons, List.drop_zero]
  repeat (first
    | (apply text_step (by rfl)
       · intro W hW
         have c1 := ((Box.new _ _ _).keep hW).cells
         go_simp
         exact ⟨rfl, hW⟩
       go_simp))
  apply text_end
  intro W hW
  have B1 := (B0.alloc _).keep hW
  have r0 := B1.cells
  have rf := B1.thawed
  go_wp2_with fail
  refine bodyPost_ret (v := .tuple #[.slice none 0 0, .agg #[.string ⟨#[109, 101, 109]⟩, .int .i64 a, .int .i64 6]]) (by simp [results, Tryd.results49, go_sem, r0]) rfl ⟨rfl, ?_⟩
  repeat (with_reducible refine Keep.setCell ?_ (by simp) _)
  exact ((((Keep.refl _).alloc _).trans hk1).alloc _).trans hW
set_option maxHeartbeats 1000000 in
set_option maxRecDepth 100000 in
theorem rload_pos (p gb gt cb ct : Nat) (bs : List Int) (ts : List Bool) (A N : Nat) (hAN : A + N ≤ bs.length) (hN : 0 < N) (w : World) (h : RMem w p gb gt cb ct bs ts) :
    Calls Tryd.prog 49 #[.pointer (some ⟨p, 0, none⟩), .int .i64 A, .int .i64 N] w fun e w' => ∃ g cap, e = .returned (.tuple #[.slice (some ⟨g, 0, none⟩) N cap, okV]) ∧ w'.ownsRow w.heap.size 5 1 (.slice (some ⟨g, 0, none⟩) N cap) N (((bs.drop A).take N).map (Value.int .u8)) ∧ Keep w w' := by
  have hM := h.most
  obtain ⟨c1, c2⟩ := h.capb
  have C := Lib.hid (fun W (k : Keep w W) => rreach_any p gb gt cb ct bs ts A N (by omega) (by omega) W (h.keep k))
  have R : reachV A N bs.length = okV := by unfold reachV; rw [if_pos (by simp [reachB]; omega)]
  rw [R] at C
  obtain ⟨L, hLe⟩ : ∃ L, L = bs.length := ⟨_, rfl⟩
  have BP := h.box
  have lp := BP.lt
  have BBY := Lib.hid h.bytes
  have hb8 : ∀ z ∈ (bs.drop A).take N, IsByte z := fun z hz => h.isB z (List.mem_of_mem_drop (List.mem_of_mem_take hz))
  have hl8 : ((bs.drop A).take N).length = N := by simp; omega
  rw [← hLe] at hM c1 BP hAN
  have a0 : (0 : Int) ≤ (A : Int) := Int.natCast_nonneg _
  have n0 : (0 : Int) ≤ (N : Int) := Int.natCast_nonneg _
  have an : (A : Int) ≤ (A : Int) + (N : Int) := by omega
  have ac : (A : Int) + (N : Int) ≤ (cb : Int) := by omega
  clear R h
  unfold okV wrongV at C ⊢
  obtain ⟨i0, hi0, hz0, hz1, hz2⟩ := info_parts infoU8
  go_enter Tryd.func49, Tryd.ntmps49
  go_wp2_with fail
  refine (C.out _ ((Keep.refl _).alloc _)).mono ?_
  rintro e w1 ⟨rfl, hk1⟩
  have B0 : Box w1 w.heap.size _ := (Box.new _ _ _).keep hk1
  have hs := hk1.size
  have l0 := B0.lt
  have BP1 := (BP.alloc _).keep hk1
  have p0 := BP1.cells
  have lp1 := BP1.lt
  have hw1 : IntKind.i64.wrap ((A : Int) + (N : Int)) = (A : Int) + (N : Int) := by rw [IntKind.wrap_i64]; omega
  have c0 := B0.cells
  have f0 := B0.thawed
  have hsz : w.heap.size + 1 ≤ w1.heap.size := by simpa using hs
  have hnews : ∀ j u, (((bs.drop A).take N).map (Value.int .u8))[j]? = some u → ((w1.alloc (.cells #[.string ⟨#[]⟩, .int .i64 0, .int .i64 0] 32)).alloc (.cells #[] 5)).cell? ((⟨gb, A, none⟩ : Addr).add j) = some u := by
    intro j u hj
    have hB := (((BBY.out.alloc _).keep hk1).alloc (.cells #[.string ⟨#[]⟩, .int .i64 0, .int .i64 0] 32)).alloc (.cells #[] 5)
    rw [Addr.add_lit, hB.cells]
    simp only [List.getElem?_map, List.getElem?_take, List.getElem?_drop] at hj
    split at hj
    · simpa [u8s] using hj
    · simp at hj
  have hsub : A + N - A = N := by omega
  have hrow : ((w1.alloc (.cells #[.string ⟨#[]⟩, .int .i64 0, .int .i64 0] 32)).alloc (.cells #[] 5)).ownsRow w.heap.size 5 1 (.slice (some ⟨w1.heap.size + 1, 0, none⟩) 0 0) 0 [] := by
    have h := owns_new (w1.alloc (.cells #[.string ⟨#[]⟩, .int .i64 0, .int .i64 0] 32)) [] 0 rfl (by decide) w.heap.size (by simp; omega)
    have e : (w1.alloc (.cells #[.string ⟨#[]⟩, .int .i64 0, .int .i64 0] 32)).heap.size = w1.heap.size + 1 := by simp
    rwa [e] at h
  have h1 : ∀ u ∈ ((bs.drop A).take N).map (Value.int .u8), u.oneCell' = true := fun u hu => by
    obtain ⟨z, _, rfl⟩ := List.mem_map.1 hu
    rfl
  have hl1 : (((bs.drop A).take N).map (Value.int .u8)).length = N * 1 := by rw [List.length_map, hl8]; omega
  have hx63 : 0 + N ≤ maxLen := by unfold maxLen; omega
  have hxby : (0 + N) * 1 ≤ 140737488355328 := by omega
  go_wp2_with (first
    | (at_builtin; go_loud (refine wpList_append_lies _ (by rfl) (.tmp 17) (.tmp 26) _ (by rfl) w.heap.size 5 i0 _ 1 1 Tryd.underlying37 hi0 hz0 hz1 hz2 rfl (by decide) (.slice (some ⟨w1.heap.size + 1, 0, none⟩) 0 0) 0 [] (by rfl) ?hown ⟨gb, A, none⟩ N (cb - A) (((bs.drop A).take N).map (Value.int .u8)) (by rw [hsub]; rfl) ?hl ?hnews ?h1 ?hN ?hx63 ?hxby ?hba (w1.heap.size + 2) ?hH ?go)))
  case hown => exact hrow
  case hl => exact hl1
  case hnews => exact hnews
  case h1 => exact h1
  case hN => exact hN
  case hx63 => exact hx63
  case hxby => exact hxby
  case hba => simp; omega
  case hH => simp
  case go =>
    intro g cap w2 hown2 hgrow2 hat2 hlt2
    have B2 := grown_box hgrow2 ((B0.alloc _).alloc _) (by simp [Value.ownBlock]; omega)
    have K2 := grown_keep ((((Keep.refl _).alloc _).trans hk1 |>.alloc _).alloc _) hgrow2 (by simp [Value.ownBlock]; omega)
    have hg2 : w.heap.size < g := (by simp [Value.ownBlock] at hat2; omega)
    have g0 := B2.cells
    have gf := B2.thawed
    have l2 := B2.lt
    clear hnews hrow c0 f0 p0 hgrow2 hat2
    have hown3 : w2.ownsRow w.heap.size 5 1 (.slice (some ⟨g, 0, none⟩) N cap) N (((bs.drop A).take N).map (Value.int .u8)) := by simpa using hown2
    have HO := Lib.hid hown3
    clear hown2 hown3
    have hz0N : 0 + N = N := Nat.zero_add N
    go_wp2_with fail
    refine bodyPost_ret (v := .tuple #[.slice (some ⟨g, 0, none⟩) N cap, .agg #[.string ⟨#[]⟩, .int .i64 0, .int .i64 0]]) (by simp [results, Tryd.results49, go_sem, g0]) rfl ⟨g, cap, rfl, ?_, ?_⟩
    · have hne : ∀ k, (Value.slice (some ⟨g, 0, none⟩) N cap).ownBlock ≠ some (⟨w.heap.size, k, none⟩ : Addr).block := fun k => by simp [Value.ownBlock]; omega
      exact ownsRow_setCell_other (ownsRow_setCell_other (ownsRow_setCell_other HO.out (hne 0) _) (hne 1) _) (hne 2) _
    · repeat (with_reducible refine Keep.setCell ?_ (by simp) _)
      exact K2
set_option maxRecDepth 100000 in
theorem rload_zero (p gb gt cb ct : Nat) (bs : List Int) (ts : List Bool) (A : Nat) (hAN : A ≤ bs.length) (w : World) (h : RMem w p gb gt cb ct bs ts) :
    Calls Tryd.prog 49 #[.pointer (some ⟨p, 0, none⟩), .int .i64 A, .int .i64 0] w fun e w' => ∃ g cap, e = .returned (.tuple #[.slice (some ⟨g, 0, none⟩) 0 cap, okV]) ∧ w'.ownsRow w.heap.size 5 1 (.slice (some ⟨g, 0, none⟩) 0 cap) 0 [] ∧ Keep w w' := by
  have hM := h.most
  obtain ⟨c1, c2⟩ := h.capb
  have C := Lib.hid (fun W (k : Keep w W) => rreach_any p gb gt cb ct bs ts A 0 (by omega) (by omega) W (h.keep k))
  have R : reachV A 0 bs.length = okV := by unfold reachV; rw [if_pos (by simp [reachB]; omega)]
  rw [R] at C
  obtain ⟨L, hLe⟩ : ∃ L, L = bs.length := ⟨_, rfl⟩
  have BP := h.box
  have lp := BP.lt
  have BBY := Lib.hid h.bytes
  rw [← hLe] at hM c1 BP hAN
  have a0 : (0 : Int) ≤ (A : Int) := Int.natCast_nonneg _
  have ac : (A : Int) ≤ (cb : Int) := by omega
  clear R h
  unfold okV wrongV at C ⊢
  obtain ⟨i0, hi0, hz0, hz1, hz2⟩ := info_parts infoU8
  go_enter Tryd.func49, Tryd.ntmps49
  go_wp2_with fail
  refine (C.out _ ((Keep.refl _).alloc _)).mono ?_
  rintro e w1 ⟨rfl, hk1⟩
  have B0 : Box w1 w.heap.size _ := (Box.new _ _ _).keep hk1
  have hs := hk1.size
  have l0 := B0.lt
  have BP1 := (BP.alloc _).keep hk1
  have p0 := BP1.cells
  have lp1 := BP1.lt
  have hw1 : IntKind.i64.wrap (A : Int) = (A : Int) := by rw [IntKind.wrap_i64]; omega
  have c0 := B0.cells
  have f0 := B0.thawed
  have hsz : w.heap.size + 1 ≤ w1.heap.size := by simpa using hs
  have hlc : ∀ ad W, (loadCellsFrom ad 0 0 #[]).run Tryd.prog W = .ok #[] W := fun _ _ => by simp [loadCellsFrom]
  have hsc : ∀ ad W, (storeCells ad []).run Tryd.prog W = .ok () W := fun _ _ => by simp [storeCells]
  have ho : ∀ W : World, W.heap.size = w1.heap.size → ((W.alloc (.cells #[.string ⟨#[]⟩, .int .i64 0, .int .i64 0] 32)).alloc (.cells #[] 5)).ownsRow w.heap.size 5 1 (.slice (some ⟨w1.heap.size + 1, 0, none⟩) 0 0) 0 [] := by
    intro W hW
    have h := owns_new (W.alloc (.cells #[.string ⟨#[]⟩, .int .i64 0, .int .i64 0] 32)) [] 0 rfl (by decide) w.heap.size (by simp [hW]; omega)
    have e : (W.alloc (.cells #[.string ⟨#[]⟩, .int .i64 0, .int .i64 0] 32)).heap.size = w1.heap.size + 1 := by simp [hW]
    rwa [e] at h
  have HO := Lib.hid ho
  clear ho
  go_wp2_with fail
  all_goals (
    refine bodyPost_ret (v := .tuple #[.slice (some ⟨w1.heap.size + 1, 0, none⟩) 0 0, .agg #[.string ⟨#[]⟩, .int .i64 0, .int .i64 0]]) (by simp [results, Tryd.results49, go_sem, c0, l0, show w.heap.size < w1.heap.size + 1 from by omega, show w.heap.size ≠ w1.heap.size from by omega, show w.heap.size ≠ w1.heap.size + 1 from by omega]) rfl ⟨_, 0, rfl, HO.out _ (by simp [World.setCell]), ?_⟩
    refine Keep.alloc (Keep.alloc ?_ _) _
    repeat (with_reducible refine Keep.setCell ?_ (by simp) _)
    exact ((Keep.refl _).alloc _).trans hk1)
/-- Load: so many bytes, or the error. -/
theorem rload_any (p gb gt cb ct : Nat) (bs : List Int) (ts : List Bool) (a n : Int) (ha : -9223372036854775808 ≤ a ∧ a ≤ 9223372036854775807) (hn : -9223372036854775808 ≤ n ∧ n ≤ 9223372036854775807) (w : World) (h : RMem w p gb gt cb ct bs ts) :
    Calls Tryd.prog 49 #[.pointer (some ⟨p, 0, none⟩), .int .i64 a, .int .i64 n] w fun e w' =>
      (reachB a n bs.length = false ∧ e = .returned (.tuple #[.slice none 0 0, rangeV a]) ∧ Keep w w') ∨
      (reachB a n bs.length = true ∧ ∃ g cap, e = .returned (.tuple #[.slice (some ⟨g, 0, none⟩) n.toNat cap, okV]) ∧ w'.ownsRow w.heap.size 5 1 (.slice (some ⟨g, 0, none⟩) n.toNat cap) n.toNat (((bs.drop a.toNat).take n.toNat).map (Value.int .u8)) ∧ Keep w w') := by
  cases hr : reachB a n bs.length
  · exact (rload_bad p gb gt cb ct bs ts a n ha hn w h hr).mono fun e w' h => .inl ⟨by simp, h⟩
  · obtain ⟨r0, r1, r2⟩ := reachB_true hr
    obtain ⟨A, rfl⟩ := Int.eq_ofNat_of_zero_le r0
    obtain ⟨N, rfl⟩ := Int.eq_ofNat_of_zero_le r1
    simp only [Int.toNat_natCast]
    rcases Nat.eq_zero_or_pos N with rfl | hN
    · exact (rload_zero p gb gt cb ct bs ts A (by omega) w h).mono fun e w' ⟨g, cap, h1, h2, h3⟩ => .inr ⟨by simp, g, cap, h1, by simpa using h2, h3⟩
    · exact (rload_pos p gb gt cb ct bs ts A N (by omega) hN w h).mono fun e w' h => .inr ⟨by simp, h⟩
end Go.Proofs.YtgfoohiaioojoaaDoor

/- The reference's Store. -/
namespace Go.Proofs.YtgfoohiaioojoaaDoor
set_option linter.unusedVariables false
set_option linter.unusedSimpArgs false
open Go.RowKit
def In64 (x : Int) : Prop := -9223372036854775808 ≤ x ∧ x ≤ 9223372036854775807
def putAt : List Int → Nat → List Int → List Int
  | bs, _, [] => bs
  | bs, a, x :: xs => putAt (bs.set a x) (a + 1) xs
def offAt : List Bool → Nat → Nat → List Bool
  | ts, _, 0 => ts
  | ts, a, n + 1 => offAt (ts.set (a / 16) false) (a + 1) n
theorem putAt_length (xs : List Int) : ∀ (bs : List Int) (a : Nat), (putAt bs a xs).length = bs.length := by
  induction xs with
  | nil => intro bs a; rfl
  | cons x xs ih => intro bs a; simp [putAt, ih]
theorem putAt_append (xs ys : List Int) : ∀ (bs : List Int) (a : Nat), putAt bs a (xs ++ ys) = putAt (putAt bs a xs) (a + xs.length) ys := by
  induction xs with
  | nil => intro bs a; rfl
  | cons x xs ih => intro bs a; simp only [List.cons_append, putAt, ih, List.length_cons]; rw [show a + (xs.length + 1) = a + 1 + xs.length by omega]
theorem putAt_step (xs : List Int) (bs : List Int) (a k : Nat) (h : k < xs.length) : putAt bs a (xs.take (k + 1)) = (putAt bs a (xs.take k)).set (a + k) (xs.getD k 0) := by
  rw [List.take_succ_eq_append_getElem h, putAt_append]
  simp only [putAt, List.length_take, Nat.min_eq_left (Nat.le_of_lt h), List.getD_eq_getElem?_getD, List.getElem?_eq_getElem h, Option.getD_some]
theorem offAt_length (n : Nat) : ∀ (ts : List Bool) (a : Nat), (offAt ts a n).length = ts.length := by
  induction n with
  | zero => intro ts a; rfl
  | succ n ih => intro ts a; simp [offAt, ih]
theorem offAt_step (n : Nat) : ∀ (ts : List Bool) (a : Nat), offAt ts a (n + 1) = (offAt ts a n).set ((a + n) / 16) false := by
  induction n with
  | zero => intro ts a; rfl
  | succ n ih => intro ts a; rw [offAt, ih, offAt, show a + 1 + n = a + (n + 1) by omega]
theorem putAt_byte (xs : List Int) (hx : ∀ z ∈ xs, IsByte z) : ∀ (bs : List Int) (a : Nat), (∀ z ∈ bs, IsByte z) → ∀ z ∈ putAt bs a xs, IsByte z := by
  induction xs with
  | nil => intro bs a h; exact h
  | cons x xs ih =>
    intro bs a h
    refine ih (fun z hz => hx z (by simp [hz])) _ _ fun z hz => ?_
    rcases List.mem_or_eq_of_mem_set hz with h' | rfl
    · exact h z h'
    · exact hx _ (by simp)
theorem u8s_set (l : List Int) (i : Nat) (z : Int) : u8s (l.set i z) = (u8s l).setIfInBounds i (.int .u8 z) := by
  simp [u8s, List.map_set]
theorem bls_set (l : List Bool) (i : Nat) (z : Bool) : bls (l.set i z) = (bls l).setIfInBounds i (.bool z) := by
  simp [bls, List.map_set]
/-- A memory whose byte and tag are set. -/
theorem RMem.set {w : World} {p gb gt cb ct : Nat} {bs : List Int} {ts : List Bool} (h : RMem w p gb gt cb ct bs ts) (i : Nat) (z : Int) (hz : IsByte z) (j : Nat) (t : Bool) :
    RMem ((w.setCell ⟨gb, i, none⟩ (.int .u8 z)).setCell ⟨gt, j, none⟩ (.bool t)) p gb gt cb ct (bs.set i z) (ts.set j t) :=
  { box := by rw [List.length_set, List.length_set]; exact (h.box.other h.pb _).other h.pt _
    bytes := by rw [u8s_set]; exact (h.bytes.set i _).other h.bt _
    tags := by rw [bls_set]; exact (h.tags.other (Ne.symm h.bt) _).set j _
    pb := h.pb
    pt := h.pt
    bt := h.bt
    isB := fun y hy => by
      rcases List.mem_or_eq_of_mem_set hy with h' | rfl
      · exact h.isB y h'
      · exact hz
    len := by rw [List.length_set, List.length_set]; exact h.len
    most := by rw [List.length_set]; exact h.most
    capb := by rw [List.length_set]; exact h.capb
    capt := by rw [List.length_set]; exact h.capt }
theorem RMem.other {w : World} {p gb gt cb ct : Nat} {bs : List Int} {ts : List Bool} (h : RMem w p gb gt cb ct bs ts) {a : Addr} (h1 : p ≠ a.block) (h2 : gb ≠ a.block) (h3 : gt ≠ a.block) (v : Value) : RMem (w.setCell a v) p gb gt cb ct bs ts :=
  { h with box := h.box.other h1 v, bytes := h.bytes.other h2 v, tags := h.tags.other h3 v }
/-- So many bytes lie at v (a slice, nil too), in a block that S does not hold of. -/
def Lies (w : World) (v : Value) (xs : List Int) (S : Nat → Prop) : Prop :=
  ∃ ad cs, v = .slice ad xs.length cs ∧ xs.length ≤ cs ∧ cs ≤ 9223372036854775807 ∧ ∀ k, k < xs.length → ∃ b off, ad = some ⟨b, off, none⟩ ∧ ¬ S b ∧ b < w.heap.size ∧ w.cell? ⟨b, off + k, none⟩ = some (.int .u8 (xs.getD k 0))
theorem Lies.keep {w w' : World} {v : Value} {xs : List Int} {S : Nat → Prop} (h : Lies w v xs S) (k : Keep w w') : Lies w' v xs S := by
  obtain ⟨ad, cs, h1, h2, h3, h4⟩ := h
  refine ⟨ad, cs, h1, h2, h3, fun j hj => ?_⟩
  obtain ⟨b, off, e, hs, hl, hc⟩ := h4 j hj
  exact ⟨b, off, e, hs, Nat.lt_of_lt_of_le hl k.size, k.cellOf hc⟩
theorem Lies.but {w w' : World} {v : Value} {xs : List Int} {S T : Nat → Prop} (h : Lies w v xs S) (k : KeepBut T w w') (hT : ∀ b, T b → S b) : Lies w' v xs S := by
  obtain ⟨ad, cs, h1, h2, h3, h4⟩ := h
  refine ⟨ad, cs, h1, h2, h3, fun j hj => ?_⟩
  obtain ⟨b, off, e, hs, hl, hc⟩ := h4 j hj
  exact ⟨b, off, e, hs, Nat.lt_of_lt_of_le hl k.size, by rw [World.cell?_of_block (k.block b hl fun ht => hs (hT b ht))]; exact hc⟩
theorem Lies.less {w : World} {v : Value} {xs : List Int} {S T : Nat → Prop} (h : Lies w v xs S) (hT : ∀ b, b < w.heap.size → T b → S b) : Lies w v xs T := by
  obtain ⟨ad, cs, h1, h2, h3, h4⟩ := h
  refine ⟨ad, cs, h1, h2, h3, fun j hj => ?_⟩
  obtain ⟨b, off, e, hs, hl, hc⟩ := h4 j hj
  exact ⟨b, off, e, fun ht => hs (hT b hl ht), hl, hc⟩
set_option maxHeartbeats 1000000 in
theorem rstore_bad (p gb gt cb ct : Nat) (bs : List Int) (ts : List Bool) (a : Int) (ha : -9223372036854775808 ≤ a ∧ a ≤ 9223372036854775807) (ad : Option Addr) (N cs : Nat) (hN : N ≤ 9223372036854775807) (w : World) (h : RMem w p gb gt cb ct bs ts) (hr : reachB a N bs.length = false) :
    Calls Tryd.prog 42 #[.pointer (some ⟨p, 0, none⟩), .int .i64 a, .slice ad N cs] w fun e w' => e = .returned (rangeV a) ∧ Keep w w' := by
  have C := Lib.hid (fun W (k : Keep w W) => rreach_any p gb gt cb ct bs ts a N ha (by omega) W (h.keep k))
  have R : reachV a N bs.length = rangeV a := by unfold reachV; rw [hr]; rfl
  rw [R, bad_err] at C
  rw [bad_err]
  clear R h hr ha
  go_enter Tryd.func42, Tryd.ntmps42
  go_wp2_with fail
  refine (C.out _ ((Keep.refl _).alloc _)).mono ?_
  rintro e w1 ⟨rfl, hk1⟩
  have B0 : Box w1 w.heap.size _ := (Box.new _ _ _).keep hk1
  have l0 := B0.lt
  have c0 := B0.cells
  have f0 := B0.thawed
  go_wp2_with fail
  refine bodyPost_ret (v := .agg #[.string ⟨#[109, 101, 109]⟩, .int .i64 a, .int .i64 6]) (by simp [results, Tryd.results42, go_sem, c0, l0]) rfl ⟨rfl, ?_⟩
  refine Keep.alloc ?_ _
  repeat (with_reducible refine Keep.setCell ?_ (by simp) _)
  exact ((Keep.refl _).alloc _).trans hk1
set_option maxRecDepth 100000 in
set_option maxHeartbeats 1000000 in
theorem rstore_ok (p gb gt cb ct : Nat) (bs : List Int) (ts : List Bool) (A : Nat) (v : Value) (xs : List Int) (hx : ∀ z ∈ xs, IsByte z) (hAN : A + xs.length ≤ bs.length) (w : World) (h : RMem w p gb gt cb ct bs ts) (hv : Lies w v xs (ownsM gb gt)) :
    Calls Tryd.prog 42 #[.pointer (some ⟨p, 0, none⟩), .int .i64 A, v] w fun e w' => e = .returned okV ∧ RMem w' p gb gt cb ct (putAt bs A xs) (offAt ts A xs.length) ∧ KeepBut (ownsM gb gt) w w' := by
  have hM := h.most
  have C := Lib.hid (fun W (k : Keep w W) => rreach_any p gb gt cb ct bs ts A xs.length (by omega) (by omega) W (h.keep k))
  have R : reachV A xs.length bs.length = okV := by unfold reachV; rw [if_pos (by simp [reachB]; omega)]
  rw [R] at C
  unfold okV wrongV at C ⊢
  obtain ⟨ad, cs', hvv, _, _, hcell⟩ := hv
  clear R
  subst hvv
  obtain ⟨N, hNe⟩ : ∃ N, N = xs.length := ⟨_, rfl⟩
  rw [← hNe] at hAN C hcell ⊢
  have HM := Lib.hid h
  have HC := Lib.hid hcell
  have HX := Lib.hid hx
  have HN := Lib.hid hNe
  have lp := h.box.lt
  clear h hcell hx hNe
  have n63 : (N : Int) ≤ 9223372036854775807 := by omega
  go_enter Tryd.func42, Tryd.ntmps42
  go_wp2_with fail
  refine (C.out _ ((Keep.refl _).alloc _)).mono ?_
  rintro e w1 ⟨rfl, hk1⟩
  have B0 : Box w1 w.heap.size _ := (Box.new _ _ _).keep hk1
  have l0 := B0.lt
  have c0 := B0.cells
  have f0 := B0.thawed
  go_wp2_with fail
  go_loopw [8] (fun i wr => ∃ k : Nat, k ≤ N ∧ i = .int .i64 (k : Int) ∧ RMem wr p gb gt cb ct (putAt bs A (xs.take k)) (offAt ts A k) ∧ KeepBut (ownsM gb gt) w wr ∧ Box wr w.heap.size #[.string ⟨#[]⟩, .int .i64 0, .int .i64 0]) (fun i _ => N - (intOf i).toNat)
  case atStart =>
    exact ⟨0, Nat.zero_le _, rfl, HM.out.keep ((((Keep.refl _).alloc _).trans hk1).alloc _), ((((Keep.refl _).alloc _).trans hk1).alloc _).but _, B0.alloc _⟩
  case round =>
    clear c0 f0 l0 B0 hk1 C
    obtain ⟨k, hk, rfl, hR, hK, hB⟩ := hrel
    have k0 : (0 : Int) ≤ (k : Int) := Int.natCast_nonneg _
    have k63 : (k : Int) ≤ 9223372036854775807 := by omega
    by_cases h : k < N
    · have hkN : (k : Int) < (N : Int) := by omega
      obtain ⟨b, off, rfl, hnb, hbl, hc⟩ := HC.out k h
      have hcell : wr.cell? ⟨b, off + k, none⟩ = some (.int .u8 (xs.getD k 0)) := by
        rw [World.cell?_of_block (hK.block b hbl hnb)]
        exact hc
      obtain ⟨z, hz⟩ : ∃ z, z = xs.getD k 0 := ⟨_, rfl⟩
      rw [← hz] at hcell
      have HS := Lib.hid (putAt_step xs bs A k (by rw [← HN.out]; exact h))
      have HT := Lib.hid (offAt_step k ts A)
      have hlen := hR.len
      rw [putAt_length, offAt_length] at hlen
      have hLb : (putAt bs A (xs.take k)).length = bs.length := putAt_length _ _ _
      have hLt : (offAt ts A k).length = ts.length := offAt_length _ _ _
      obtain ⟨bk, hbk⟩ : ∃ bk, bk = putAt bs A (xs.take k) := ⟨_, rfl⟩
      obtain ⟨tk, htk⟩ : ∃ tk, tk = offAt ts A k := ⟨_, rfl⟩
      rw [← hbk] at hR hLb HS
      rw [← htk] at hR hLt HT
      rw [← hz] at HS
      have HZ : Hid (IsByte z) := Lib.hid (by
        have hkx : k < xs.length := by rw [← HN.out]; exact h
        rw [hz, List.getD_eq_getElem?_getD, List.getElem?_eq_getElem hkx]
        exact HX.out _ (List.getElem_mem hkx))
      have HR := Lib.hid hR
      have HK := Lib.hid hK
      have hp0 := hR.box.cells
      have lpr := hR.box.lt
      rw [hLb, hLt] at hp0
      have ht : ((A : Int) + (k : Int)).toNat = A + k := by omega
      have a4 : (A + k) / 16 < ts.length := by omega
      clear hc hz hbk htk hR hK hlen
      have hA : IntKind.i64.wrap ((A : Int) + (k : Int)) = (A : Int) + (k : Int) := by rw [IntKind.wrap_i64]; omega
      have a1 : (0 : Int) ≤ (A : Int) + (k : Int) := by omega
      have a2 : (A : Int) + (k : Int) < (bs.length : Int) := by omega
      go_wp2_with fail
      refine region_grows_tail 12 (Keep _) (by kernel_rfl) (by kernel_rfl) (Keep.refl _).drew ?_
      simp only [List.take_succ_cons, List.take_zero, List.drop_succ_cons, List.drop_zero]
      repeat (first
        | (apply text_step (by rfl)
           · intro W hW
             have c1 := ((HR.out.keep hW).box).cells
             rw [hLb, hLt] at c1
             have c2 := hW.cellOf hcell
             go_simp
             exact ⟨rfl, hW⟩
           go_simp))
      apply text_end
      intro W hW
      have RW := HR.out.keep hW
      have g0 : W.cell? ⟨gb, A + k, none⟩ = some (.int .u8 (bk.getD (A + k) 0)) := by
        rw [RW.bytes.cells]
        have : A + k < bk.length := by rw [hLb]; omega
        simp [u8s, List.getD_eq_getElem?_getD, List.getElem?_eq_getElem this]
      have gf := RW.bytes.thawed
      have g1 := RW.box.cells
      have lpW := RW.box.lt
      rw [hLb, hLt] at g1
      have g2 : W.cell? ⟨gt, (A + k) / 16, none⟩ = some (.bool (tk.getD ((A + k) / 16) false)) := by
        rw [RW.tags.cells]
        have : (A + k) / 16 < tk.length := by rw [hLt]; omega
        simp [bls, List.getD_eq_getElem?_getD, List.getElem?_eq_getElem this]
      have gg := RW.tags.thawed
      have n1 := RW.pb
      have n2 := RW.pt
      have n3 := RW.bt
      clear hp0 lpr
      have HW := Lib.hid hW
      have HRW := Lib.hid RW
      clear hW RW
      go_wp2_with fail
      have lb := HM.out.bytes.lt
      have lt := HM.out.tags.lt
      refine ⟨⟨k + 1, h, by simp, ?_, ?_, ?_⟩, ?_⟩
      · rw [HS.out, HT.out]
        exact HRW.out.set _ _ HZ.out _ _
      · exact ((HK.out.trans (HW.out.but _)).setCell (.inl (.inl rfl)) _).setCell (.inl (.inr rfl)) _
      · exact ((hB.keep HW.out).other (show w.heap.size ≠ gb by omega) _).other (show w.heap.size ≠ gt by omega) _
      · simp [intOf]; omega
    · obtain rfl : k = N := by omega
      have b0 := hB.cells
      have bf := hB.thawed
      have bl := hB.lt
      have HR := Lib.hid hR
      have HK := Lib.hid hK
      clear hR hK
      go_wp2_with fail
      have lb := HM.out.bytes.lt
      have lt := HM.out.tags.lt
      have n1 : p ≠ w.heap.size := by omega
      have n2 : gb ≠ w.heap.size := by omega
      have n3 : gt ≠ w.heap.size := by omega
      have ex : xs.take k = xs := by rw [HN.out]; exact List.take_length
      refine bodyPost_ret (v := .agg #[.string ⟨#[]⟩, .int .i64 0, .int .i64 0]) (by simp [results, Tryd.results42, go_sem, b0]) rfl ⟨rfl, ?_, ?_⟩
      · have hR := HR.out
        rw [ex] at hR
        exact ((hR.other n1 n2 n3 _).other n1 n2 n3 _).other n1 n2 n3 _
      · exact ((HK.out.setCell (.inr (Nat.le_refl _)) _).setCell (.inr (Nat.le_refl _)) _).setCell (.inr (Nat.le_refl _)) _
/-- Store: so many bytes written, their granules without a tag; or the error, and nothing changes. -/
theorem rstore_any (p gb gt cb ct : Nat) (bs : List Int) (ts : List Bool) (a : Int) (ha : -9223372036854775808 ≤ a ∧ a ≤ 9223372036854775807) (v : Value) (xs : List Int) (hx : ∀ z ∈ xs, IsByte z) (hl : xs.length ≤ 9223372036854775807) (w : World) (h : RMem w p gb gt cb ct bs ts) (hv : Lies w v xs (ownsM gb gt)) :
    Calls Tryd.prog 42 #[.pointer (some ⟨p, 0, none⟩), .int .i64 a, v] w fun e w' =>
      (reachB a xs.length bs.length = false ∧ e = .returned (rangeV a) ∧ Keep w w') ∨
      (reachB a xs.length bs.length = true ∧ e = .returned okV ∧ RMem w' p gb gt cb ct (putAt bs a.toNat xs) (offAt ts a.toNat xs.length) ∧ KeepBut (ownsM gb gt) w w') := by
  cases hr : reachB a xs.length bs.length
  · obtain ⟨ad, cs', rfl, _⟩ := hv
    exact (rstore_bad p gb gt cb ct bs ts a ha ad xs.length cs' hl w h hr).mono fun e w' h => .inl ⟨by simp, h⟩
  · obtain ⟨r0, r1, r2⟩ := reachB_true hr
    obtain ⟨A, rfl⟩ := Int.eq_ofNat_of_zero_le r0
    simp only [Int.toNat_natCast]
    exact (rstore_ok p gb gt cb ct bs ts A v xs hx (by omega) w h hv).mono fun e w' h => .inr ⟨by simp, h⟩
end Go.Proofs.YtgfoohiaioojoaaDoor

/- Rows of bytes as arguments: what lies there. And: arguments read again where nothing of theirs has changed. -/
namespace Go.Proofs.YtgfoohiaioojoaaDoor
set_option linter.unusedVariables false
set_option linter.unusedSimpArgs false
open Go.ChangeShapes Go.WideShapes Go.ChangeAt Go.RowKit
open Go.WideElems (Trod_stays)

section
variable {H : Type} {enc : TypeId × Value → H} {W W' : World} {base : Nat}
theorem cellsU8' : Tryd.prog.cellsOf 5 = 1 := by kernel_rfl
/-- The datum is as long at least. -/
def OfData (d : DataW H) (xs : List Int) : Prop := (d = .nil ∧ xs = []) ∨ ∃ e s, d = .slice e s ∧ xs.length ≤ e.length + s.length
theorem bytesU8 : Tryd.prog.bytesOf 5 = 1 := by kernel_rfl
theorem bytes_sized {ts : List TypeId} {ds : List (DataW H)} (h : (DataW.weightsEach Tryd.prog ts ds).all (· ≤ reachBytes) = true) {j : Nat} {d : DataW H} {xs : List Int} (ht : ts[j]? = some 37) (hd : ds[j]? = some d) (ho : OfData d xs) : xs.length ≤ 140737488351232 := by
  rcases ho with ⟨_, rfl⟩ | ⟨e, s, rfl, hl⟩
  · simp
  · have := sized_slice h ht hd Tryd.underlying37
    rw [bytesU8, Nat.mul_one] at this
    unfold reachBytes at this
    omega
set_option maxRecDepth 100000 in
theorem bytes_cells {fuel : Nat} {cs : List Value} {x : DataW H × List MemPlace} (hf : DataW.trod enc Tryd.prog W base (fun _ => true) true fuel 37 cs = some x) :
    ∃ (v : Value) (xs : List Int), cs = [v] ∧ Lies W v xs (fun _ => False) ∧ (∀ z ∈ xs, IsByte z) ∧ xs.length ≤ maxLen ∧ OfData x.1 xs := by
  rcases open_ints Tryd.underlying37 Tryd.underlying5 cellsU8' hf with ⟨rfl, hx⟩ | ⟨a, len, cap, zs, rfl, _, hl, hm, hz, hx, hcell, hwz⟩
  · exact ⟨_, [], rfl, ⟨none, 0, rfl, by simp, by decide, fun k hk => by simp at hk⟩, by simp, by simp, .inl ⟨by rw [hx], rfl⟩⟩
  · simp only [if_true] at hz
    have hlt : (zs.take len).length = len := by simp; omega
    refine ⟨_, zs.take len, rfl, ⟨some a, cap, by rw [hlt], by omega, by unfold maxLen at hm; omega, fun k hk => ?_⟩, fun z hz' => ?_, by omega, .inr ⟨_, _, by rw [hx], by simp [lits]⟩⟩
    · have hk' : k < zs.length := by rw [hlt] at hk; omega
      have hc := hcell k hk'
      have hc0 := hcell 0 (by omega)
      obtain ⟨b, off, spot⟩ := a
      have hspot : spot = none := by simpa [Addr.add] using World.cell?_spot hc0
      subst hspot
      refine ⟨b, off, rfl, fun h => h, ?_, ?_⟩
      · exact World.block_lt_of_cell? _ _ hc0
      · rw [Addr.add_lit] at hc
        rw [hc]
        congr 2
        rw [hlt] at hk
        simp [List.getD_eq_getElem?_getD, List.getElem?_take, hk]
    · exact bounds_u8 (hwz z (List.mem_of_mem_take hz'))
set_option maxRecDepth 100000 in
/-- A row of bytes. -/
theorem open_bytes {r : Reach} {b0 : Nat} {v : Value} {d : DataW H} {pl : List MemPlace} (hv : Value.okWide Tryd.prog W r b0 37 v) (h : DataW.Trod enc Tryd.prog W base (fun _ => true) true 37 v d pl) :
    ∃ xs : List Int, Lies W v xs (fun _ => False) ∧ (∀ z ∈ xs, IsByte z) ∧ xs.length ≤ maxLen ∧ OfData d xs := by
  obtain ⟨a0, len, cap, rfl⟩ := Go.WideShapes.okWide_slice Tryd.underlying37 hv
  obtain ⟨fuel, hf⟩ := h
  obtain ⟨v, xs, hcs, h⟩ := bytes_cells hf
  simp only [Value.cells, List.cons.injEq, and_true] at hcs
  subst hcs
  exact ⟨xs, h⟩
end
end Go.Proofs.YtgfoohiaioojoaaDoor
