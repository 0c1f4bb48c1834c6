/- Store, Zero. -/
import Derived.Test.YtnnelghngekbpaaDoorDevFns
namespace Go.Proofs.YtnnelghngekbpaaDoor
set_option linter.unusedVariables false
set_option linter.unusedSimpArgs false
open Go.RowKit Go.Deep
set_option maxHeartbeats 1000000 in
theorem store_bad {m gb gt cb ct : Nat} {bs : List Int} {ts : List Bool} (a : Int) (ha : In64 a) (ad : Option Addr) (N cs : Nat) (hN : (N : Int) ≤ 9223372036854775807) (w : World) (h : DM w m gb gt cb ct bs ts) (hr : reachB a N bs.length = false) :
    Calls Tryd.prog 11 #[.pointer (some ⟨m, 0, none⟩), .int .i64 a, .slice ad N cs] w fun e w' => ∃ u, e = .returned u ∧ ErrV w' u (rangeV a) ∧ Keep w w' := by
  have C := Lib.hid (holds_any a N ha (by unfold In64; omega) w h)
  have R : reachV a N bs.length = rangeV a := by unfold reachV; rw [hr]; rfl
  rw [R] at C
  clear R h hr ha
  go_enter Tryd.func11, Tryd.ntmps11
  go_wp2_with fail
  refine C.out.mono ?_
  rintro e w1 ⟨v1, rfl, hv1, hk1⟩
  obtain ⟨q, rfl⟩ := hv1.fault (fun h => absurd (okV_wrong h.symm) (by decide))
  have V1 := Lib.hid hv1
  have K1 := Lib.hid hk1
  clear hv1 hk1
  unfold faultP
  go_wp2_with fail
  go_ret
  exact ⟨_, rfl, V1.out, K1.out⟩
set_option maxRecDepth 100000 in
set_option maxHeartbeats 1000000 in
theorem store_ok {m gb gt cb ct : Nat} {bs : List Int} {ts : List Bool} (A : Nat) (v : Value) (xs : List Int) (hx : ∀ z ∈ xs, IsByte z) (hAN : A + xs.length ≤ bs.length) (w : World) (h : DM w m gb gt cb ct bs ts) (hv : Lies w v xs (ownsM gb gt)) :
    Calls Tryd.prog 11 #[.pointer (some ⟨m, 0, none⟩), .int .i64 A, v] w fun e w' => e = .returned .nilIface ∧ DM w' m gb gt cb ct (putAt bs A xs) (offAt ts A xs.length) ∧ KeepBut (ownsM gb gt) w w' := by
  have hM := h.most
  have C := Lib.hid (holds_any (A : Int) xs.length (by unfold In64; omega) (by unfold In64; omega) w h)
  have R : reachV A xs.length bs.length = okV := by unfold reachV; rw [if_pos (by simp [reachB]; omega)]
  rw [R] at C
  obtain ⟨ad, cs', hvv, _, _, hcell⟩ := hv
  clear R
  subst hvv
  obtain ⟨N, hNe⟩ : ∃ N, N = xs.length := ⟨_, rfl⟩
  rw [← hNe] at hAN C hcell ⊢
  have HM := Lib.hid h
  have HC := Lib.hid hcell
  have HX := Lib.hid hx
  have HN := Lib.hid hNe
  have lp := h.box.lt
  clear h hcell hx hNe
  have n63 : (N : Int) ≤ 9223372036854775807 := by omega
  go_enter Tryd.func11, Tryd.ntmps11
  go_wp2_with fail
  refine C.out.mono ?_
  rintro e w1 ⟨v1, rfl, hv1, hk1⟩
  obtain rfl := hv1.ok
  clear hv1
  go_wp2_with fail
  go_loopw [8, 9, 20] (fun _ _ i wr => ∃ k : Nat, k ≤ N ∧ i = .int .i64 (k : Int) ∧ DM wr m gb gt cb ct (putAt bs A (xs.take k)) (offAt ts A k) ∧ KeepBut (ownsM gb gt) w wr) (fun _ _ i _ => N - (intOf i).toNat)
  case atStart =>
    exact ⟨0, Nat.zero_le _, rfl, HM.out.keep hk1, hk1.but _⟩
  case round =>
    clear hk1 C
    obtain ⟨k, hk, rfl, hR, hK⟩ := hrel
    have k0 : (0 : Int) ≤ (k : Int) := Int.natCast_nonneg _
    have k63 : (k : Int) ≤ 9223372036854775807 := by omega
    by_cases h : k < N
    · have hkN : (k : Int) < (N : Int) := by omega
      obtain ⟨b, off, rfl, hnb, hbl, hc⟩ := HC.out k h
      have hcell : wr.cell? ⟨b, off + k, none⟩ = some (.int .u8 (xs.getD k 0)) := by
        rw [World.cell?_of_block (hK.block b hbl hnb)]
        exact hc
      obtain ⟨z, hz⟩ : ∃ z, z = xs.getD k 0 := ⟨_, rfl⟩
      rw [← hz] at hcell
      have HS := Lib.hid (putAt_step xs bs A k (by rw [← HN.out]; exact h))
      have HT := Lib.hid (offAt_step k ts A)
      have hlen := hR.len
      rw [putAt_length, offAt_length] at hlen
      have hLb : (putAt bs A (xs.take k)).length = bs.length := putAt_length _ _ _
      have hLt : (offAt ts A k).length = ts.length := offAt_length _ _ _
      obtain ⟨bk, hbk⟩ : ∃ bk, bk = putAt bs A (xs.take k) := ⟨_, rfl⟩
      obtain ⟨tk, htk⟩ : ∃ tk, tk = offAt ts A k := ⟨_, rfl⟩
      rw [← hbk] at hR hLb HS
      rw [← htk] at hR hLt HT
      rw [← hz] at HS
      have HZ : Hid (IsByte z) := Lib.hid (by
        have hkx : k < xs.length := by rw [← HN.out]; exact h
        rw [hz, List.getD_eq_getElem?_getD, List.getElem?_eq_getElem hkx]
        exact HX.out _ (List.getElem_mem hkx))
      have HR := Lib.hid hR
      have HK := Lib.hid hK
      have hp0 := hR.box.cells
      have lpr := hR.box.lt
      rw [hLb, hLt] at hp0
      have ht : ((A : Int) + (k : Int)).toNat = A + k := by omega
      have a4 : (A + k) / 16 < ts.length := by omega
      have g0 : wr.cell? ⟨gb, A + k, none⟩ = some (.int .u8 (bk.getD (A + k) 0)) := by
        exact hR.cell (by rw [hLb]; omega)
      have gf := hR.thawb
      have g2 : wr.cell? ⟨gt, (A + k) / 16, none⟩ = some (.bool (tk.getD ((A + k) / 16) false)) := by
        exact hR.tag (by rw [hLt]; omega)
      have gg := hR.thawt
      have n1 := hR.pb
      have n2 := hR.pt
      have n3 := hR.bt
      clear hc hz hbk htk hR hK hlen
      have hA : IntKind.i64.wrap ((A : Int) + (k : Int)) = (A : Int) + (k : Int) := by rw [IntKind.wrap_i64]; omega
      have a1 : (0 : Int) ≤ (A : Int) + (k : Int) := by omega
      have a2 : (A : Int) + (k : Int) < (bs.length : Int) := by omega
      go_wp2_with fail
      refine ⟨⟨k + 1, h, by simp, ?_, ?_⟩, ?_⟩
      · rw [HS.out, HT.out]
        exact (HR.out.setb _ _ HZ.out (by rw [hLb]; omega)).sett _ _ (by rw [hLt]; omega)
      · exact (HK.out.setCell (.inl (.inl rfl)) _).setCell (.inl (.inr rfl)) _
      · simp [intOf]; omega
    · obtain rfl : k = N := by omega
      have HR := Lib.hid hR
      have HK := Lib.hid hK
      clear hR hK
      go_wp2_with fail
      go_ret
      have ex : xs.take k = xs := by rw [HN.out]; exact List.take_length
      have hR := HR.out
      rw [ex] at hR
      exact ⟨rfl, hR, HK.out⟩
variable {w : World} {m : Nat} {O : Nat → Prop} {bs : List Int} {ts : List Bool}
theorem ownsM_D {m gb gt : Nat} : ∀ k, ownsM gb gt k → ownsD m gb gt k := fun k h => h.elim (fun h => .inr (.inl h)) (fun h => .inr (.inr h))
theorem dstore_any (a : Int) (ha : In64 a) (v : Value) (xs : List Int) (hx : ∀ z ∈ xs, IsByte z) (h : DMem w m O bs ts) (hv : Lies w v xs O) :
    Calls Tryd.prog 11 #[ptrV m, .int .i64 a, v] w fun e w' => ∃ u, e = .returned u ∧
      ((reachB a xs.length bs.length = false ∧ ErrV w' u (rangeV a) ∧ Keep w w') ∨
       (reachB a xs.length bs.length = true ∧ u = .nilIface ∧ DMem w' m O (putAt bs a.toNat xs) (offAt ts a.toNat xs.length) ∧ KeepBut O w w')) := by
  obtain ⟨gb, gt, cb, ct, h, rfl⟩ := h
  unfold ptrV
  cases hr : reachB a xs.length bs.length
  · obtain ⟨ad, cs', rfl, hl1, hl2, _⟩ := hv
    refine (store_bad a ha ad xs.length cs' (by omega) w h hr).mono ?_
    rintro e w' ⟨u, rfl, h1, h2⟩
    exact ⟨u, rfl, .inl ⟨rfl, h1, h2⟩⟩
  · obtain ⟨r0, r1, r2⟩ := reachB_true hr
    obtain ⟨A, rfl⟩ := Int.eq_ofNat_of_zero_le r0
    simp only [Int.toNat_natCast]
    refine (store_ok A v xs hx (by omega) w h (hv.less (fun b _ hb => ownsM_D b hb))).mono ?_
    rintro e w' ⟨rfl, h1, h2⟩
    exact ⟨_, rfl, .inr ⟨by simp, rfl, ⟨gb, gt, cb, ct, h1, rfl⟩, h2.mono (fun k _ hk => ownsM_D k hk)⟩⟩
set_option maxRecDepth 100000 in
set_option maxHeartbeats 1000000 in
theorem dzero_any (a n : Int) (ha : In64 a) (hn : In64 n) (h : DMem w m O bs ts) :
    Calls Tryd.prog 20 #[ptrV m, .int .i64 a, .int .i64 n] w fun e w' => ∃ u, e = .returned u ∧
      ((reachB a n bs.length = false ∧ ErrV w' u (rangeV a) ∧ Keep w w') ∨
       (reachB a n bs.length = true ∧ u = .nilIface ∧ DMem w' m O (putAt bs a.toNat (List.replicate n.toNat 0)) (offAt ts a.toNat n.toNat) ∧ KeepBut O w w')) := by
  have hM := h.most
  have HD := Lib.hid h
  obtain ⟨gb, gt, cb, ct, hr, rfl⟩ := h
  have C := Lib.hid (holds_any a n ha hn w hr)
  have HA := Lib.hid ha
  unfold ptrV
  unfold In64 at ha hn
  clear hr
  cases hrr : reachB a n bs.length
  · have R : reachV a n bs.length = rangeV a := by unfold reachV; rw [hrr]; rfl
    rw [R] at C
    clear R hrr
    go_enter Tryd.func20, Tryd.ntmps20
    go_wp2_with fail
    refine C.out.mono ?_
    rintro e w1 ⟨v1, rfl, hv1, hk1⟩
    obtain ⟨q, rfl⟩ := hv1.fault (fun h => absurd (okV_wrong h.symm) (by decide))
    have V1 := Lib.hid hv1
    have K1 := Lib.hid hk1
    clear hv1 hk1
    unfold faultP
    go_wp2_with fail
    go_ret
    exact ⟨_, rfl, .inl ⟨by simp, V1.out, K1.out⟩⟩
  · have R : reachV a n bs.length = okV := by unfold reachV; rw [hrr]; rfl
    rw [R] at C
    obtain ⟨r0, r1, r2⟩ := reachB_true hrr
    obtain ⟨N, rfl⟩ := Int.eq_ofNat_of_zero_le r1
    have hmk := run_make_row' (P := Tryd.prog) 35 5 (.int .u8 0) 1 Tryd.underlying35 infoU8 rfl .i64 .i64 N (by omega) (by omega)
    have HR := Lib.hid hrr
    have nl : (N : Int) ≤ 65536 := by omega
    clear R hrr r2
    go_enter Tryd.func20, Tryd.ntmps20
    go_wp2_with fail
    refine C.out.mono ?_
    rintro e w1 ⟨v1, rfl, hv1, hk1⟩
    obtain rfl := hv1.ok
    have K1 := Lib.hid hk1
    have D1 := Lib.hid (HD.out.keep hk1)
    clear hv1 hk1
    go_wp2_with fail
    have NO : ¬ ownsD m gb gt w1.heap.size := fun ho => by have := D1.out.lt _ ho; omega
    have LI : Lies (w1.alloc (.cells (madeCells #[.int .u8 0] N) 5)) (.slice (some ⟨w1.heap.size, 0, none⟩) N N) (List.replicate N 0) (ownsD m gb gt) := by
      refine ⟨_, N, by rw [List.length_replicate], by rw [List.length_replicate]; exact Nat.le_refl _, by omega, fun k hk => ⟨w1.heap.size, 0, rfl, NO, by simp, ?_⟩⟩
      rw [(Box.new w1 _ _).cells, Nat.zero_add, made_u8]
      rw [List.length_replicate] at hk
      simp [u8s, List.getD_eq_getElem?_getD, List.getElem?_replicate, hk]
    refine (dstore_any a HA.out _ (List.replicate N 0) (fun z hz => by rw [(List.mem_replicate.1 hz).2]; unfold IsByte; decide) (D1.out.keep ((Keep.refl _).alloc _)) LI).mono ?_
    rintro e w2 ⟨u, rfl, h⟩
    rw [List.length_replicate] at h
    obtain ⟨rfl, hD, hB⟩ : u = .nilIface ∧ _ := by
      rcases h with ⟨hn, _⟩ | ⟨_, h⟩
      · rw [HR.out] at hn; cases hn
      · exact h
    have D2 := Lib.hid hD
    have K2 := Lib.hid (((K1.out.alloc (.cells (madeCells #[.int .u8 0] N) 5)).but (ownsD m gb gt)).trans hB)
    clear h hD hB LI NO
    go_wp2_with fail
    go_ret
    rw [Int.toNat_natCast]
    exact ⟨_, rfl, .inr ⟨by simp, rfl, D2.out, K2.out⟩⟩
end Go.Proofs.YtnnelghngekbpaaDoor
