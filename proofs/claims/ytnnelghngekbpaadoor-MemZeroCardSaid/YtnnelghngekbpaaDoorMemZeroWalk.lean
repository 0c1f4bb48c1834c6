/- MemZero's walk. -/
import Derived.Test.YtnnelghngekbpaaDoorMemKnown
import Derived.Test.YtnnelghngekbpaaDoorMemMath
import Derived.Test.YtnnelghngekbpaaDoorCapEq
namespace Go.Proofs.YtnnelghngekbpaaDoor
set_option linter.unusedVariables false
set_option linter.unusedSimpArgs false
open Go.RowKit
theorem dec_or (P : Prop) [Decidable P] : (decide P = true ∧ P) ∨ (decide P = false ∧ ¬ P) := by
  by_cases h : P
  · exact .inl ⟨decide_eq_true h, h⟩
  · exact .inr ⟨decide_eq_false h, h⟩
/-- The first k granules hold a capability. -/
def Filled (bs : List Int) (ts : List Bool) (t : Bool) (b p a m y : Int) (k : Nat) : Prop := ∀ g, g < k → sixteen bs (16 * g) = putL b p a m y ∧ ts.getD g false = t
theorem Filled.step {bs : List Int} {ts : List Bool} {t : Bool} {b p a m y : Int} {k N : Nat} (h : Filled bs ts t b p a m y k) (hl : bs.length = 16 * N) (ht : ts.length = N) (hk : k < N) :
    Filled (putAt bs (16 * k) (putL b p a m y)) (ts.set k t) t b p a m y (k + 1) := by
  intro g hg
  by_cases e : g = k
  · subst e
    exact ⟨sixteen_put _ _ _ (putL_length _ _ _ _ _) (by omega), by rw [set_getD _ _ _ _ (by omega), if_pos rfl]⟩
  · obtain ⟨h1, h2⟩ := h g (by omega)
    refine ⟨?_, by rw [set_getD _ _ _ _ (by omega), if_neg e]; exact h2⟩
    rw [sixteen_far _ _ _ _ (by rw [putL_length]; omega) (by omega) (by rw [putL_length]; omega)]
    exact h1
/-- StoreCap at the k-th granule: it goes. -/
theorem dstoreCap_at {w : World} {m : Nat} {O : Nat → Prop} {bs : List Int} {ts : List Bool} {N : Nat} (k : Nat) (hl : bs.length = 16 * N) (hk : k < N) (t : Bool) (b' p' a' m' y' : Int) (hb : 0 ≤ b' ∧ b' ≤ 4294967295) (hp : 0 ≤ p' ∧ p' ≤ 4294967295) (haa : 0 ≤ a' ∧ a' ≤ 4294967295) (hmm : 0 ≤ m' ∧ m' ≤ 65535) (hy : 0 ≤ y' ∧ y' ≤ 65535) (h : DMem w m O bs ts) (hE : ErrT w) :
    Calls Tryd.prog 13 #[.pointer (some ⟨m, 0, none⟩), .int .i64 (16 * (k : Int)), .agg #[.bool t, .int .u32 b', .int .u32 p', .int .u32 a', .int .u16 m', .int .u16 y']] w fun e w' => e = .returned .nilIface ∧ DMem w' m O (putAt bs (16 * k) (putL b' p' a' m' y')) (ts.set k t) ∧ KeepBut O w w' := by
  have hM := h.most
  refine (dstoreCap_any (16 * (k : Int)) (by unfold In64; omega) t b' p' a' m' y' hb hp haa hmm hy h hE).mono ?_
  rintro e w' ⟨u, rfl, h⟩
  have e1 : (16 * (k : Int)).toNat = 16 * k := by omega
  rcases h with ⟨hn, _⟩ | ⟨_, rfl, hD, hB⟩
  · exact absurd ⟨by simp [reachB]; omega, by omega⟩ hn
  · rw [e1, show 16 * k / 16 = k by omega] at hD
    exact ⟨rfl, hD, hB⟩
/-- What LoadCap tells of the k-th granule. -/
theorem lcap_at {bs : List Int} {ts : List Bool} {N : Nat} (k : Nat) (hl : bs.length = 16 * N) (hk : k < N) : lcapV bs ts (16 * (k : Int)) = capV (ts.getD k false) (sixteen bs (16 * k)) ∧ granV bs.length (16 * (k : Int)) = okV := by
  have e1 : (16 * (k : Int)).toNat = 16 * k := by omega
  have hr : reachB (16 * (k : Int)) 16 bs.length = true := by simp [reachB]; omega
  unfold lcapV granV
  rw [if_pos hr, if_pos hr, if_pos (by omega), if_pos (by omega), e1, show 16 * k / 16 = k by omega]
  exact ⟨rfl, rfl⟩
/-- LoadCap at the k-th granule: it goes. -/
theorem dloadCap_at {w : World} {m : Nat} {O : Nat → Prop} {bs : List Int} {ts : List Bool} {N : Nat} (k : Nat) (hl : bs.length = 16 * N) (hk : k < N) (hN : N ≤ 4096) (v : Value) (hv : capV (ts.getD k false) (sixteen bs (16 * k)) = v) (h : DMem w m O bs ts) (hE : ErrT w) :
    Calls Tryd.prog 18 #[.pointer (some ⟨m, 0, none⟩), .int .i64 (16 * (k : Int))] w fun e w' => e = .returned (.tuple #[v, .nilIface]) ∧ Keep w w' := by
  refine (dloadCap_any (16 * (k : Int)) (by unfold In64; omega) h hE).mono ?_
  rintro e w' ⟨hk', u, rfl, hu⟩
  obtain ⟨e1, e2⟩ := lcap_at (ts := ts) k hl hk
  rw [e2] at hu
  obtain rfl := hu.ok
  rw [e1, hv]
  exact ⟨rfl, hk'⟩
/-- What lies in the g-th granule once some are zeroed. -/
theorem zeroed {bs : List Int} {ts : List Bool} {t : Bool} {b p a m y : Int} {N : Nat} (h : Filled bs ts t b p a m y N) (hl : bs.length = 16 * N) (ht : ts.length = N) (A K : Nat) (hA : A + K ≤ N) (g : Nat) (hg : g < N) :
    capV ((offAt ts (16 * A) (16 * K)).getD g false) (sixteen (putAt bs (16 * A) (List.replicate (16 * K) 0)) (16 * g)) = if A ≤ g ∧ g < A + K then capV false (List.replicate 16 0) else capV t (putL b p a m y) := by
  obtain ⟨h1, h2⟩ := h g hg
  have hlen : (List.replicate (16 * K) (0 : Int)).length = 16 * K := List.length_replicate
  rw [offAt_getD]
  by_cases hin : A ≤ g ∧ g < A + K
  · rw [if_pos hin]
    have e1 : sixteen (putAt bs (16 * A) (List.replicate (16 * K) 0)) (16 * g) = List.replicate 16 0 := by
      apply list_ext_getD (by rw [sixteen_length _ _ (by rw [putAt_length]; omega), List.length_replicate])
      intro j hj
      rw [sixteen_length _ _ (by rw [putAt_length]; omega)] at hj
      rw [sixteen_getD _ _ _ hj, putAt_getD _ _ _ _ (by rw [hlen]; omega), if_pos (by rw [hlen]; omega)]
      simp only [List.getD_eq_getElem?_getD]
      rw [List.getElem?_replicate, List.getElem?_replicate, if_pos (by omega), if_pos hj]
    have e2 : (ts.getD g false && !(decide (0 < 16 * K) && decide (16 * A / 16 ≤ g) && decide (g ≤ (16 * A + 16 * K - 1) / 16))) = false := by
      have q1 : 0 < 16 * K := by omega
      have q2 : 16 * A / 16 ≤ g := by omega
      have q3 : g ≤ (16 * A + 16 * K - 1) / 16 := by omega
      rw [decide_eq_true q1, decide_eq_true q2, decide_eq_true q3]
      simp
    rw [e1, e2]
  · rw [if_neg hin]
    have e1 : sixteen (putAt bs (16 * A) (List.replicate (16 * K) 0)) (16 * g) = putL b p a m y := by
      rw [← h1]
      exact sixteen_far _ _ _ _ (by rw [hlen]; omega) (by omega) (by rw [hlen]; omega)
    have e2 : (ts.getD g false && !(decide (0 < 16 * K) && decide (16 * A / 16 ≤ g) && decide (g ≤ (16 * A + 16 * K - 1) / 16))) = t := by
      have q : (decide (0 < 16 * K) && decide (16 * A / 16 ≤ g) && decide (g ≤ (16 * A + 16 * K - 1) / 16)) = false := by
        by_cases q1 : 0 < 16 * K
        · by_cases q2 : 16 * A / 16 ≤ g
          · have q3 : ¬ g ≤ (16 * A + 16 * K - 1) / 16 := by omega
            rw [decide_eq_false q3]; simp
          · rw [decide_eq_false q2]; simp
        · rw [decide_eq_false q1]; simp
      rw [q, h2]
      simp
    rw [e1, e2]
set_option maxRecDepth 100000 in
set_option maxHeartbeats 2000000 in
theorem memZero_walk (t : Bool) (b p a m y x n : Int) {W : World} (hb : 0 ≤ b ∧ b ≤ 4294967295) (hp : 0 ≤ p ∧ p ≤ 4294967295) (ha : 0 ≤ a ∧ a ≤ 4294967295) (hm : 0 ≤ m ∧ m ≤ 65535) (hy : 0 ≤ y ∧ y ≤ 65535) (hx : 0 ≤ x ∧ x ≤ 255) (hn : 0 ≤ n ∧ n ≤ 255) (hE : ErrT W) :
    Calls Tryd.prog 6 #[.agg #[.bool t, .int .u32 b, .int .u32 p, .int .u32 a, .int .u16 m, .int .u16 y], .int .u8 x, .int .u8 n] W fun e W' => e = .returned (.bool true) ∧ Keep W W' := by
  have HE := Lib.hid hE
  clear hE
  go_enter Tryd.func6, Tryd.ntmps6
  go_wp2_with fail
  refine (mknown_any _ (HE.out.keep ((Keep.refl _).alloc _))).mono ?_
  rintro e w1 ⟨rfl, hk1⟩
  have BC1 : Box w1 W.heap.size #[.bool t, .int .u32 b, .int .u32 p, .int .u32 a, .int .u16 m, .int .u16 y] := (Box.new _ _ _).keep hk1
  have K1 := Lib.hid (((Keep.refl _).alloc _).trans hk1)
  clear hk1
  go_wp2_with fail
  refine (dnew_good 512 32 (by decide) (by decide) (by decide) _ (HE.out.keep K1.out)).mono ?_
  rintro e w2 ⟨dm, O, rfl, hD, hk2, hO⟩
  have BC2 := BC1.keep hk2
  have K2 := Lib.hid (K1.out.trans hk2)
  have D2 := Lib.hid hD
  have OL := Lib.hid (fun z (h : O z) => hO z h)
  have l1 := BC1.lt
  unfold ptrV
  clear hk2 hD hO BC1
  go_wp2_with fail
  go_loopw [9] (fun i wr => ∃ (k : Nat) (bs : List Int) (ts : List Bool), k ≤ 32 ∧ i = .int .i64 (k : Int) ∧ DMem wr dm O bs ts ∧ bs.length = 16 * 32 ∧ Filled bs ts t b p a m y k ∧ KeepBut O w2 wr) (fun i _ => 32 - (intOf i).toNat)
  case atStart => exact ⟨0, _, _, by decide, rfl, D2.out, by simp, fun g hg => by omega, KeepBut.refl _ _⟩
  case round =>
    obtain ⟨k, bs, ts, hk, rfl, hD, hL, hF, hK⟩ := hrel
    have k0 : (0 : Int) ≤ (k : Int) := Int.natCast_nonneg _
    have BCr := BC2.but hK (fun h => by have := OL.out _ h; omega)
    have cC := BCr.cells
    have HD := Lib.hid hD
    have HF := Lib.hid hF
    have HK := Lib.hid hK
    have HL := Lib.hid hL
    clear hD hF hK hL
    by_cases h : k < 32
    · have hk32 : (k : Int) < 32 := by omega
      go_wp2_with fail
      refine (dstoreCap_at k HL.out h t b p a m y hb hp ha hm hy HD.out (HE.out.keep (K2.out.butNew HK.out (fun z hz => Nat.le_trans (by omega) (OL.out z hz))))).mono ?_
      rintro e w3 ⟨rfl, hD3, hB3⟩
      have htl := HD.out.len
      have hF3 := HF.out.step HL.out (by rw [HL.out] at htl; omega) h
      have HD3 := Lib.hid hD3
      have HF3 := Lib.hid hF3
      have HK3 := Lib.hid (HK.out.trans hB3)
      clear hD3 hF3 hB3 htl
      go_wp2_with fail
      refine ⟨⟨k + 1, _, _, h, by simp, HD3.out, by rw [putAt_length]; exact HL.out, HF3.out, HK3.out⟩, by simp [intOf]; omega⟩
    · obtain rfl : k = 32 := by omega
      go_wp2_with fail
      obtain ⟨A, hA⟩ := Int.eq_ofNat_of_zero_le (show 0 ≤ x % 16 by omega)
      obtain ⟨K, hKn⟩ := Int.eq_ofNat_of_zero_le (show 0 ≤ n % 16 by omega)
      have hA16 : A < 16 := by omega
      have hK16 : K < 16 := by omega
      rw [hA, hKn]
      refine (dzero_any (16 * (A : Int)) (16 * (K : Int)) (by unfold In64; omega) (by unfold In64; omega) HD.out).mono ?_
      rintro e w4 ⟨u, rfl, h4⟩
      have ea : (16 * (A : Int)).toNat = 16 * A := by omega
      have ek : (16 * (K : Int)).toNat = 16 * K := by omega
      obtain ⟨rfl, hD4, hB4⟩ : u = .nilIface ∧ _ := by
        rcases h4 with ⟨hn, _⟩ | ⟨_, h⟩
        · rw [HL.out] at hn
          simp [reachB] at hn
          omega
        · exact h
      rw [ea, ek] at hD4
      have htl := HD.out.len
      rw [HL.out] at htl
      have HZ := Lib.hid (fun g hg => zeroed HF.out HL.out (by omega) A K (by omega) g hg)
      have HL4 : Hid ((putAt bs (16 * A) (List.replicate (16 * K) 0)).length = 16 * 32) := Lib.hid (by rw [putAt_length]; exact HL.out)
      obtain ⟨bs4, hbs4⟩ : ∃ bs4, bs4 = putAt bs (16 * A) (List.replicate (16 * K) 0) := ⟨_, rfl⟩
      obtain ⟨ts4, hts4⟩ : ∃ ts4, ts4 = offAt ts (16 * A) (16 * K) := ⟨_, rfl⟩
      rw [← hbs4, ← hts4] at hD4 HZ
      rw [← hbs4] at HL4
      have BC4 := BCr.but hB4 (fun h => by have := OL.out _ h; omega)
      have D4 := Lib.hid hD4
      have KW4 := Lib.hid (K2.out.butNew (HK.out.trans hB4) (fun z hz => Nat.le_trans (by omega) (OL.out z hz)))
      clear h4 hD4 hB4 htl hbs4 hts4 ea ek cC BCr HD HF HK HL BC2 D2 K2 hk
      go_wp2_with fail
      go_loopw [12] (fun i wr => ∃ k : Nat, k ≤ 32 ∧ i = .int .i64 (k : Int) ∧ Keep w4 wr) (fun i _ => 32 - (intOf i).toNat)
      case atStart => exact ⟨0, by decide, rfl, Keep.refl _⟩
      case round =>
        obtain ⟨k, hk, rfl, hK⟩ := hrel
        have k0 : (0 : Int) ≤ (k : Int) := Int.natCast_nonneg _
        by_cases h : k < 32
        · have hk32 : (k : Int) < 32 := by omega
          have HK := Lib.hid hK
          have hd1 := dec_or ((16 : Int) * (A : Int) ≤ 16 * (k : Int))
          have hd2 := dec_or ((16 : Int) * (k : Int) < 16 * (A : Int) + 16 * (K : Int))
          clear hK
          rcases hd1 with ⟨d1, q1⟩ | ⟨d1, q1⟩ <;> rcases hd2 with ⟨d2, q2⟩ | ⟨d2, q2⟩
          · have hv := HZ.out k h
            rw [if_pos (by omega), capV_zero] at hv
            have hE : ∀ W, (Op.equalIn 10000 39 (.agg #[.bool false, .int .u32 0, .int .u32 0, .int .u32 0, .int .u16 0, .int .u16 0]) (.agg #[.bool false, .int .u32 0, .int .u32 0, .int .u32 0, .int .u16 0, .int .u16 0])).run Tryd.prog W = .ok true W := fun W => by
              rw [eqin_cap]
              simp
            go_wp2_with fail
            refine (dloadCap_at k HL4.out h (by decide) _ hv (D4.out.keep HK.out) (HE.out.keep (KW4.out.trans HK.out))).mono ?_
            rintro e w5 ⟨rfl, hk5⟩
            have BC5 := (BC4.keep HK.out).keep hk5
            have HK5 := Lib.hid ((HK.out.trans hk5).alloc (.cells #[.bool false, .int .u32 0, .int .u32 0, .int .u32 0, .int .u16 0, .int .u16 0] 39))
            have ne5 : W.heap.size ≠ w5.heap.size := Nat.ne_of_lt BC5.lt
            clear hv hk5
            go_wp2_with fail
            refine region_grows (Keep _) (by kernel_rfl) (by kernel_rfl) (Keep.refl _).drew ?_
            repeat (first
              | (apply text_pass (by rfl)
                 go_simp)
              | (apply text_step (by rfl)
                 · intro W hW
                   have c0 := ((BC5.alloc _).keep hW).cells
                   have c1 := ((Box.new _ _ _).keep hW).cells
                   go_simp
                   first
                    | exact ⟨rfl, hW⟩
                    | (apply yes_enter; go_at_call 27; refine (cint_any _ _).mono ?_; rintro e w' ⟨rfl, hk⟩; exact ⟨rfl, hW.trans hk⟩)
                 go_simp))
            apply text_end
            intro W hW
            have HKW := Lib.hid (HK5.out.trans hW)
            clear hW
            go_wp2_with fail
            exact ⟨⟨k + 1, h, by simp, HKW.out⟩, by simp [intOf]; omega⟩
          · have hv := HZ.out k h
            rw [if_neg (by omega), capV_put t b p a m y hb hp ha hm hy] at hv
            have hE : ∀ W, (Op.equalIn 10000 39 (.agg #[.bool t, .int .u32 b, .int .u32 p, .int .u32 a, .int .u16 m, .int .u16 y]) (.agg #[.bool t, .int .u32 b, .int .u32 p, .int .u32 a, .int .u16 m, .int .u16 y])).run Tryd.prog W = .ok true W := fun W => by
              rw [eqin_cap]
              simp
            go_wp2_with fail
            refine (dloadCap_at k HL4.out h (by decide) _ hv (D4.out.keep HK.out) (HE.out.keep (KW4.out.trans HK.out))).mono ?_
            rintro e w5 ⟨rfl, hk5⟩
            have BC5 := (BC4.keep HK.out).keep hk5
            have HK5 := Lib.hid ((HK.out.trans hk5).alloc (.cells #[.bool t, .int .u32 b, .int .u32 p, .int .u32 a, .int .u16 m, .int .u16 y] 39))
            have ne5 : W.heap.size ≠ w5.heap.size := Nat.ne_of_lt BC5.lt
            clear hv hk5
            go_wp2_with fail
            refine region_grows (Keep _) (by kernel_rfl) (by kernel_rfl) (Keep.refl _).drew ?_
            repeat (first
              | (apply text_pass (by rfl)
                 go_simp)
              | (apply text_step (by rfl)
                 · intro W hW
                   have c0 := ((BC5.alloc _).keep hW).cells
                   have c1 := ((Box.new _ _ _).keep hW).cells
                   go_simp
                   first
                    | exact ⟨rfl, hW⟩
                    | (apply yes_enter; go_at_call 27; refine (cint_any _ _).mono ?_; rintro e w' ⟨rfl, hk⟩; exact ⟨rfl, hW.trans hk⟩)
                 go_simp))
            apply text_end
            intro W hW
            have HKW := Lib.hid (HK5.out.trans hW)
            clear hW
            go_wp2_with fail
            exact ⟨⟨k + 1, h, by simp, HKW.out⟩, by simp [intOf]; omega⟩
          · have hv := HZ.out k h
            rw [if_neg (by omega), capV_put t b p a m y hb hp ha hm hy] at hv
            have hE : ∀ W, (Op.equalIn 10000 39 (.agg #[.bool t, .int .u32 b, .int .u32 p, .int .u32 a, .int .u16 m, .int .u16 y]) (.agg #[.bool t, .int .u32 b, .int .u32 p, .int .u32 a, .int .u16 m, .int .u16 y])).run Tryd.prog W = .ok true W := fun W => by
              rw [eqin_cap]
              simp
            go_wp2_with fail
            refine (dloadCap_at k HL4.out h (by decide) _ hv (D4.out.keep HK.out) (HE.out.keep (KW4.out.trans HK.out))).mono ?_
            rintro e w5 ⟨rfl, hk5⟩
            have BC5 := (BC4.keep HK.out).keep hk5
            have HK5 := Lib.hid ((HK.out.trans hk5).alloc (.cells #[.bool t, .int .u32 b, .int .u32 p, .int .u32 a, .int .u16 m, .int .u16 y] 39))
            have ne5 : W.heap.size ≠ w5.heap.size := Nat.ne_of_lt BC5.lt
            clear hv hk5
            go_wp2_with fail
            refine region_grows (Keep _) (by kernel_rfl) (by kernel_rfl) (Keep.refl _).drew ?_
            repeat (first
              | (apply text_pass (by rfl)
                 go_simp)
              | (apply text_step (by rfl)
                 · intro W hW
                   have c0 := ((BC5.alloc _).keep hW).cells
                   have c1 := ((Box.new _ _ _).keep hW).cells
                   go_simp
                   first
                    | exact ⟨rfl, hW⟩
                    | (apply yes_enter; go_at_call 27; refine (cint_any _ _).mono ?_; rintro e w' ⟨rfl, hk⟩; exact ⟨rfl, hW.trans hk⟩)
                 go_simp))
            apply text_end
            intro W hW
            have HKW := Lib.hid (HK5.out.trans hW)
            clear hW
            go_wp2_with fail
            exact ⟨⟨k + 1, h, by simp, HKW.out⟩, by simp [intOf]; omega⟩
          · exfalso; omega
        · obtain rfl : k = 32 := by omega
          go_wp2_with fail
          go_ret
          exact ⟨rfl, KW4.out.trans hK⟩
end Go.Proofs.YtnnelghngekbpaaDoor
