/- The reference's Load. -/
import Derived.Test.YtnnelghngekbpaaDoorMem
import Derived.OneCell
namespace Go.Proofs.YtnnelghngekbpaaDoor
set_option linter.unusedVariables false
set_option linter.unusedSimpArgs false
open Go.RowKit
theorem reachB_true {a n : Int} {L : Nat} (h : reachB a n L = true) : 0 ≤ a ∧ 0 ≤ n ∧ a + n ≤ L := by simpa [reachB, and_assoc] using h
theorem bad_err : ∀ a, rangeV a = .agg #[.string ⟨#[109, 101, 109]⟩, .int .i64 a, .int .i64 6] := fun _ => rfl
set_option maxHeartbeats 1000000 in
theorem rload_bad (p gb gt cb ct : Nat) (bs : List Int) (ts : List Bool) (a n : Int) (ha : -9223372036854775808 ≤ a ∧ a ≤ 9223372036854775807) (hn : -9223372036854775808 ≤ n ∧ n ≤ 9223372036854775807) (w : World) (h : RMem w p gb gt cb ct bs ts) (hr : reachB a n bs.length = false) :
    Calls Tryd.prog 17 #[.pointer (some ⟨p, 0, none⟩), .int .i64 a, .int .i64 n] w fun e w' => e = .returned (.tuple #[.slice none 0 0, rangeV a]) ∧ Keep w w' := by
  have C := Lib.hid (fun W (k : Keep w W) => rreach_any p gb gt cb ct bs ts a n ha hn W (h.keep k))
  have R : reachV a n bs.length = rangeV a := by unfold reachV; rw [hr]; rfl
  rw [R, bad_err] at C
  rw [bad_err]
  clear R h hr ha hn
  go_enter Tryd.func17, Tryd.ntmps17
  go_wp2_with fail
  refine (C.out _ ((Keep.refl _).alloc _)).mono ?_
  rintro e w1 ⟨rfl, hk1⟩
  have B0 : Box w1 w.heap.size _ := (Box.new _ _ _).keep hk1
  have hs := hk1.size
  have l0 := B0.lt
  go_wp2_with fail
  refine region_grows_tail 2 (Keep _) (by kernel_rfl) (by kernel_rfl) (Keep.refl _).drew ?_
  simp only [List.take_succ_cons, List.take_zero, List.drop_succ_cons, List.drop_zero]
  repeat (first
    | (apply text_step (by rfl)
       · intro W hW
         have c1 := ((Box.new _ _ _).keep hW).cells
         go_simp
         exact ⟨rfl, hW⟩
       go_simp))
  apply text_end
  intro W hW
  have B1 := (B0.alloc _).keep hW
  have r0 := B1.cells
  have rf := B1.thawed
  go_wp2_with fail
  refine bodyPost_ret (v := .tuple #[.slice none 0 0, .agg #[.string ⟨#[109, 101, 109]⟩, .int .i64 a, .int .i64 6]]) (by simp [results, Tryd.results17, go_sem, r0]) rfl ⟨rfl, ?_⟩
  repeat (with_reducible refine Keep.setCell ?_ (by simp) _)
  exact ((((Keep.refl _).alloc _).trans hk1).alloc _).trans hW
set_option maxHeartbeats 1000000 in
set_option maxRecDepth 100000 in
theorem rload_pos (p gb gt cb ct : Nat) (bs : List Int) (ts : List Bool) (A N : Nat) (hAN : A + N ≤ bs.length) (hN : 0 < N) (w : World) (h : RMem w p gb gt cb ct bs ts) :
    Calls Tryd.prog 17 #[.pointer (some ⟨p, 0, none⟩), .int .i64 A, .int .i64 N] w fun e w' => ∃ g cap, e = .returned (.tuple #[.slice (some ⟨g, 0, none⟩) N cap, okV]) ∧ w'.ownsRow w.heap.size 5 1 (.slice (some ⟨g, 0, none⟩) N cap) N (((bs.drop A).take N).map (Value.int .u8)) ∧ Keep w w' := by
  have hM := h.most
  obtain ⟨c1, c2⟩ := h.capb
  have C := Lib.hid (fun W (k : Keep w W) => rreach_any p gb gt cb ct bs ts A N (by omega) (by omega) W (h.keep k))
  have R : reachV A N bs.length = okV := by unfold reachV; rw [if_pos (by simp [reachB]; omega)]
  rw [R] at C
  obtain ⟨L, hLe⟩ : ∃ L, L = bs.length := ⟨_, rfl⟩
  have BP := h.box
  have lp := BP.lt
  have BBY := Lib.hid h.bytes
  have hb8 : ∀ z ∈ (bs.drop A).take N, IsByte z := fun z hz => h.isB z (List.mem_of_mem_drop (List.mem_of_mem_take hz))
  have hl8 : ((bs.drop A).take N).length = N := by simp; omega
  rw [← hLe] at hM c1 BP hAN
  have a0 : (0 : Int) ≤ (A : Int) := Int.natCast_nonneg _
  have n0 : (0 : Int) ≤ (N : Int) := Int.natCast_nonneg _
  have an : (A : Int) ≤ (A : Int) + (N : Int) := by omega
  have ac : (A : Int) + (N : Int) ≤ (cb : Int) := by omega
  clear R h
  unfold okV wrongV at C ⊢
  obtain ⟨i0, hi0, hz0, hz1, hz2⟩ := info_parts infoU8
  go_enter Tryd.func17, Tryd.ntmps17
  go_wp2_with fail
  refine (C.out _ ((Keep.refl _).alloc _)).mono ?_
  rintro e w1 ⟨rfl, hk1⟩
  have B0 : Box w1 w.heap.size _ := (Box.new _ _ _).keep hk1
  have hs := hk1.size
  have l0 := B0.lt
  have BP1 := (BP.alloc _).keep hk1
  have p0 := BP1.cells
  have lp1 := BP1.lt
  have hw1 : IntKind.i64.wrap ((A : Int) + (N : Int)) = (A : Int) + (N : Int) := by rw [IntKind.wrap_i64]; omega
  have c0 := B0.cells
  have f0 := B0.thawed
  have hsz : w.heap.size + 1 ≤ w1.heap.size := by simpa using hs
  have hnews : ∀ j u, (((bs.drop A).take N).map (Value.int .u8))[j]? = some u → ((w1.alloc (.cells #[.string ⟨#[]⟩, .int .i64 0, .int .i64 0] 31)).alloc (.cells #[] 5)).cell? ((⟨gb, A, none⟩ : Addr).add j) = some u := by
    intro j u hj
    have hB := (((BBY.out.alloc _).keep hk1).alloc (.cells #[.string ⟨#[]⟩, .int .i64 0, .int .i64 0] 31)).alloc (.cells #[] 5)
    rw [Addr.add_lit, hB.cells]
    simp only [List.getElem?_map, List.getElem?_take, List.getElem?_drop] at hj
    split at hj
    · simpa [u8s] using hj
    · simp at hj
  have hsub : A + N - A = N := by omega
  have hrow : ((w1.alloc (.cells #[.string ⟨#[]⟩, .int .i64 0, .int .i64 0] 31)).alloc (.cells #[] 5)).ownsRow w.heap.size 5 1 (.slice (some ⟨w1.heap.size + 1, 0, none⟩) 0 0) 0 [] := by
    have h := owns_new (w1.alloc (.cells #[.string ⟨#[]⟩, .int .i64 0, .int .i64 0] 31)) [] 0 rfl (by decide) w.heap.size (by simp; omega)
    have e : (w1.alloc (.cells #[.string ⟨#[]⟩, .int .i64 0, .int .i64 0] 31)).heap.size = w1.heap.size + 1 := by simp
    rwa [e] at h
  have h1 : ∀ u ∈ ((bs.drop A).take N).map (Value.int .u8), u.oneCell' = true := fun u hu => by
    obtain ⟨z, _, rfl⟩ := List.mem_map.1 hu
    rfl
  have hl1 : (((bs.drop A).take N).map (Value.int .u8)).length = N * 1 := by rw [List.length_map, hl8]; omega
  have hx63 : 0 + N ≤ maxLen := by unfold maxLen; omega
  have hxby : (0 + N) * 1 ≤ 140737488355328 := by omega
  go_wp2_with (first
    | (at_builtin; go_loud (refine wpList_append_lies _ (by rfl) (.tmp 17) (.tmp 26) _ (by rfl) w.heap.size 5 i0 _ 1 1 Tryd.underlying35 hi0 hz0 hz1 hz2 rfl (by decide) (.slice (some ⟨w1.heap.size + 1, 0, none⟩) 0 0) 0 [] (by rfl) ?hown ⟨gb, A, none⟩ N (cb - A) (((bs.drop A).take N).map (Value.int .u8)) (by rw [hsub]; rfl) ?hl ?hnews ?h1 ?hN ?hx63 ?hxby ?hba (w1.heap.size + 2) ?hH ?go)))
  case hown => exact hrow
  case hl => exact hl1
  case hnews => exact hnews
  case h1 => exact h1
  case hN => exact hN
  case hx63 => exact hx63
  case hxby => exact hxby
  case hba => simp; omega
  case hH => simp
  case go =>
    intro g cap w2 hown2 hgrow2 hat2 hlt2
    have B2 := grown_box hgrow2 ((B0.alloc _).alloc _) (by simp [Value.ownBlock]; omega)
    have K2 := grown_keep ((((Keep.refl _).alloc _).trans hk1 |>.alloc _).alloc _) hgrow2 (by simp [Value.ownBlock]; omega)
    have hg2 : w.heap.size < g := (by simp [Value.ownBlock] at hat2; omega)
    have g0 := B2.cells
    have gf := B2.thawed
    have l2 := B2.lt
    clear hnews hrow c0 f0 p0 hgrow2 hat2
    have hown3 : w2.ownsRow w.heap.size 5 1 (.slice (some ⟨g, 0, none⟩) N cap) N (((bs.drop A).take N).map (Value.int .u8)) := by simpa using hown2
    have HO := Lib.hid hown3
    clear hown2 hown3
    have hz0N : 0 + N = N := Nat.zero_add N
    go_wp2_with fail
    refine bodyPost_ret (v := .tuple #[.slice (some ⟨g, 0, none⟩) N cap, .agg #[.string ⟨#[]⟩, .int .i64 0, .int .i64 0]]) (by simp [results, Tryd.results17, go_sem, g0]) rfl ⟨g, cap, rfl, ?_, ?_⟩
    · have hne : ∀ k, (Value.slice (some ⟨g, 0, none⟩) N cap).ownBlock ≠ some (⟨w.heap.size, k, none⟩ : Addr).block := fun k => by simp [Value.ownBlock]; omega
      exact ownsRow_setCell_other (ownsRow_setCell_other (ownsRow_setCell_other HO.out (hne 0) _) (hne 1) _) (hne 2) _
    · repeat (with_reducible refine Keep.setCell ?_ (by simp) _)
      exact K2
set_option maxRecDepth 100000 in
theorem rload_zero (p gb gt cb ct : Nat) (bs : List Int) (ts : List Bool) (A : Nat) (hAN : A ≤ bs.length) (w : World) (h : RMem w p gb gt cb ct bs ts) :
    Calls Tryd.prog 17 #[.pointer (some ⟨p, 0, none⟩), .int .i64 A, .int .i64 0] w fun e w' => ∃ g cap, e = .returned (.tuple #[.slice (some ⟨g, 0, none⟩) 0 cap, okV]) ∧ w'.ownsRow w.heap.size 5 1 (.slice (some ⟨g, 0, none⟩) 0 cap) 0 [] ∧ Keep w w' := by
  have hM := h.most
  obtain ⟨c1, c2⟩ := h.capb
  have C := Lib.hid (fun W (k : Keep w W) => rreach_any p gb gt cb ct bs ts A 0 (by omega) (by omega) W (h.keep k))
  have R : reachV A 0 bs.length = okV := by unfold reachV; rw [if_pos (by simp [reachB]; omega)]
  rw [R] at C
  obtain ⟨L, hLe⟩ : ∃ L, L = bs.length := ⟨_, rfl⟩
  have BP := h.box
  have lp := BP.lt
  have BBY := Lib.hid h.bytes
  rw [← hLe] at hM c1 BP hAN
  have a0 : (0 : Int) ≤ (A : Int) := Int.natCast_nonneg _
  have ac : (A : Int) ≤ (cb : Int) := by omega
  clear R h
  unfold okV wrongV at C ⊢
  obtain ⟨i0, hi0, hz0, hz1, hz2⟩ := info_parts infoU8
  go_enter Tryd.func17, Tryd.ntmps17
  go_wp2_with fail
  refine (C.out _ ((Keep.refl _).alloc _)).mono ?_
  rintro e w1 ⟨rfl, hk1⟩
  have B0 : Box w1 w.heap.size _ := (Box.new _ _ _).keep hk1
  have hs := hk1.size
  have l0 := B0.lt
  have BP1 := (BP.alloc _).keep hk1
  have p0 := BP1.cells
  have lp1 := BP1.lt
  have hw1 : IntKind.i64.wrap (A : Int) = (A : Int) := by rw [IntKind.wrap_i64]; omega
  have c0 := B0.cells
  have f0 := B0.thawed
  have hsz : w.heap.size + 1 ≤ w1.heap.size := by simpa using hs
  have hlc : ∀ ad W, (loadCellsFrom ad 0 0 #[]).run Tryd.prog W = .ok #[] W := fun _ _ => by simp [loadCellsFrom]
  have hsc : ∀ ad W, (storeCells ad []).run Tryd.prog W = .ok () W := fun _ _ => by simp [storeCells]
  have ho : ∀ W : World, W.heap.size = w1.heap.size → ((W.alloc (.cells #[.string ⟨#[]⟩, .int .i64 0, .int .i64 0] 31)).alloc (.cells #[] 5)).ownsRow w.heap.size 5 1 (.slice (some ⟨w1.heap.size + 1, 0, none⟩) 0 0) 0 [] := by
    intro W hW
    have h := owns_new (W.alloc (.cells #[.string ⟨#[]⟩, .int .i64 0, .int .i64 0] 31)) [] 0 rfl (by decide) w.heap.size (by simp [hW]; omega)
    have e : (W.alloc (.cells #[.string ⟨#[]⟩, .int .i64 0, .int .i64 0] 31)).heap.size = w1.heap.size + 1 := by simp [hW]
    rwa [e] at h
  have HO := Lib.hid ho
  clear ho
  go_wp2_with fail
  all_goals (
    refine bodyPost_ret (v := .tuple #[.slice (some ⟨w1.heap.size + 1, 0, none⟩) 0 0, .agg #[.string ⟨#[]⟩, .int .i64 0, .int .i64 0]]) (by simp [results, Tryd.results17, go_sem, c0, l0, show w.heap.size < w1.heap.size + 1 from by omega, show w.heap.size ≠ w1.heap.size from by omega, show w.heap.size ≠ w1.heap.size + 1 from by omega]) rfl ⟨_, 0, rfl, HO.out _ (by simp [World.setCell]), ?_⟩
    refine Keep.alloc (Keep.alloc ?_ _) _
    repeat (with_reducible refine Keep.setCell ?_ (by simp) _)
    exact ((Keep.refl _).alloc _).trans hk1)
/-- Load: so many bytes, or the error. -/
theorem rload_any (p gb gt cb ct : Nat) (bs : List Int) (ts : List Bool) (a n : Int) (ha : -9223372036854775808 ≤ a ∧ a ≤ 9223372036854775807) (hn : -9223372036854775808 ≤ n ∧ n ≤ 9223372036854775807) (w : World) (h : RMem w p gb gt cb ct bs ts) :
    Calls Tryd.prog 17 #[.pointer (some ⟨p, 0, none⟩), .int .i64 a, .int .i64 n] w fun e w' =>
      (reachB a n bs.length = false ∧ e = .returned (.tuple #[.slice none 0 0, rangeV a]) ∧ Keep w w') ∨
      (reachB a n bs.length = true ∧ ∃ g cap, e = .returned (.tuple #[.slice (some ⟨g, 0, none⟩) n.toNat cap, okV]) ∧ w'.ownsRow w.heap.size 5 1 (.slice (some ⟨g, 0, none⟩) n.toNat cap) n.toNat (((bs.drop a.toNat).take n.toNat).map (Value.int .u8)) ∧ Keep w w') := by
  cases hr : reachB a n bs.length
  · exact (rload_bad p gb gt cb ct bs ts a n ha hn w h hr).mono fun e w' h => .inl ⟨by simp, h⟩
  · obtain ⟨r0, r1, r2⟩ := reachB_true hr
    obtain ⟨A, rfl⟩ := Int.eq_ofNat_of_zero_le r0
    obtain ⟨N, rfl⟩ := Int.eq_ofNat_of_zero_le r1
    simp only [Int.toNat_natCast]
    rcases Nat.eq_zero_or_pos N with rfl | hN
    · exact (rload_zero p gb gt cb ct bs ts A (by omega) w h).mono fun e w' ⟨g, cap, h1, h2, h3⟩ => .inr ⟨by simp, g, cap, h1, by simpa using h2, h3⟩
    · exact (rload_pos p gb gt cb ct bs ts A N (by omega) hN w h).mono fun e w' h => .inr ⟨by simp, h⟩
end Go.Proofs.YtnnelghngekbpaaDoor
