/- The reference's LoadCap, the good way. -/
import Derived.Test.YtnnelghngekbpaaDoorMemCap
import Derived.Test.YtnnelghngekbpaaDoorRel
namespace Go.Proofs.YtnnelghngekbpaaDoor
set_option linter.unusedVariables false
set_option linter.unusedSimpArgs false
open Go.RowKit
set_option maxRecDepth 100000 in
set_option maxHeartbeats 1000000 in
theorem rloadCap_good (p gb gt cb ct : Nat) (bs : List Int) (ts : List Bool) (A : Nat) (hA : A + 16 ≤ bs.length) (hm : A % 16 = 0) (w : World) (h : RMem w p gb gt cb ct bs ts) :
    Calls Tryd.prog 19 #[.pointer (some ⟨p, 0, none⟩), .int .i64 A] w fun e w' => e = .returned (.tuple #[capV (ts.getD (A / 16) false) (sixteen bs A), okV]) ∧ Keep w w' := by
  have C := Lib.hid (fun W (k : Keep w W) => rload_pos p gb gt cb ct bs ts A 16 hA (by decide) W (h.keep k))
  have hM := h.most
  unfold okV wrongV at *
  have m1 : (A : Int) % 16 = 0 := by omega
  have m0 : (0 : Int) ≤ (A : Int) := Int.natCast_nonneg _
  obtain ⟨t, ht⟩ : ∃ t, t = ts.getD (A / 16) false := ⟨_, rfl⟩
  rw [← ht]
  have HT := Lib.hid ht
  clear ht
  go_enter Tryd.func19, Tryd.ntmps19
  go_wp2_with fail
  refine (C.out _ (((Keep.refl _).alloc _).alloc _)).mono ?_
  rintro e w1 ⟨g, cap, rfl, ho, hk1⟩
  have HO := Lib.hid ho
  clear ho
  have B0 : Box w1 w.heap.size _ := ((Box.new _ _ _).alloc _).keep hk1
  have B1 : Box w1 (w.heap.size + 1) _ := (Box.new1 _ _ _ _).keep hk1
  have l0 := B0.lt
  have l1 := B1.lt
  have c0 := B0.cells
  have f0 := B0.thawed
  have c1 := B1.cells
  have f1 := B1.thawed
  have P1 := (((h.keep (Keep.refl _)).keep ((Keep.refl _).alloc _)).keep ((Keep.refl _).alloc _)).keep hk1
  have lp := P1.box.lt
  have p0 := P1.box.cells
  have hlen := h.len
  have tg : w1.cell? ⟨gt, A / 16, none⟩ = some (.bool (ts.getD (A / 16) false)) := by
    rw [P1.tags.cells]
    have : A / 16 < ts.length := by omega
    simp [bls, List.getD_eq_getElem?_getD, List.getElem?_eq_getElem this]
  have lt_ := P1.tags.lt
  have at0 : (0 : Int) ≤ (A : Int) / 16 := by omega
  have at1 : (A : Int) / 16 < (ts.length : Int) := by omega
  have at2 : ((A : Int) / 16).toNat = A / 16 := by omega
  have hz : ∀ z ∈ sixteen bs A, IsByte z := fun z hz => h.isB z (List.mem_of_mem_drop (List.mem_of_mem_take hz))
  have hzl : (sixteen bs A).length = 16 := by unfold sixteen; simp; omega
  have C16 : Hid (Cells16 w1 g 0 (sixteen bs A) ∧ 16 ≤ cap ∧ cap ≤ 9223372036854775807) := Lib.hid (by
    have h2 := own_cells (l := sixteen bs A) HO.out hzl (by decide)
    exact ⟨own_16 (l := sixteen bs A) HO.out hzl hz, h2.2.1, by have := h2.2.2.1; unfold maxLen at this; omega⟩)
  clear h P1 hz hzl HO
  rw [← HT.out] at tg
  go_wp2_with (go_at_call 40; refine (rget_any _ g 0 cap (sixteen bs A) _ (C16.out.1.keep ((Keep.refl _).alloc _)) C16.out.2.1 C16.out.2.2).mono ?_; rintro e w2 ⟨rfl, hk2⟩; have E0 := (B0.alloc _).keep hk2; have E1 := (B1.alloc _).keep hk2; have d0 := E0.cells; have d1 := E1.cells; have g0 := E0.thawed; have g1 := E1.thawed; have k0 := E0.lt; have k1 := E1.lt)
  refine bodyPost_ret (v := .tuple #[capV t (sixteen bs A), .agg #[.string ⟨#[]⟩, .int .i64 0, .int .i64 0]]) (by simp [results, Tryd.results19, go_sem, capV, d0, d1, k0, k1]) rfl ⟨rfl, ?_⟩
  repeat (first | with_reducible refine Keep.setCell ?_ (by simp) _)
  exact (((((Keep.refl _).alloc _).alloc _).trans hk1).alloc _).trans hk2
/-- LoadCap: what it answers, and what was there stays. -/
theorem rloadCap_any (p gb gt cb ct : Nat) (bs : List Int) (ts : List Bool) (a : Int) (ha : -9223372036854775808 ≤ a ∧ a ≤ 9223372036854775807) (w : World) (h : RMem w p gb gt cb ct bs ts) :
    Calls Tryd.prog 19 #[.pointer (some ⟨p, 0, none⟩), .int .i64 a] w fun e w' => e = .returned (loadCapV bs ts a) ∧ Keep w w' := by
  unfold loadCapV
  cases hr : reachB a 16 bs.length
  · rw [if_neg (by simp)]
    exact rloadCap_bad p gb gt cb ct bs ts a ha w h hr
  · rw [if_pos rfl]
    obtain ⟨r0, _, r2⟩ := reachB_true hr
    obtain ⟨A, rfl⟩ := Int.eq_ofNat_of_zero_le r0
    simp only [Int.toNat_natCast]
    by_cases hm : (A : Int) % 16 = 0
    · rw [if_pos hm]
      exact rloadCap_good p gb gt cb ct bs ts A (by omega) (by omega) w h
    · rw [if_neg hm]
      exact rloadCap_askew p gb gt cb ct bs ts A (by omega) (by omega) w h
end Go.Proofs.YtnnelghngekbpaaDoor
