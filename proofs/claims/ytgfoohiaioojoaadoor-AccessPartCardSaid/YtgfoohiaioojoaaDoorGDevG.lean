/- DevTags, DevStore, DevClone, DevLoad: Tag, Tags. -/
import Derived.Test.YtgfoohiaioojoaaDoorGDevF
import Derived.OwnWalk
import Derived.Lib.SliceRun
import Derived.Test.YtgfoohiaioojoaaDoorGBase
/- Tag, Tags. -/
namespace Go.Proofs.YtgfoohiaioojoaaDoor
set_option linter.unusedVariables false
set_option linter.unusedSimpArgs false
open Go.RowKit Go.Deep
variable {w : World} {m : Nat} {O : Nat → Prop} {bs : List Int} {ts : List Bool}
set_option maxHeartbeats 1000000 in
theorem dtag_any (a : Int) (ha : In64 a) (h : DMem w m O bs ts) :
    Calls Tryd.prog 29 #[ptrV m, .int .i64 a] w fun e w' => e = .returned (.bool (decide (0 ≤ a) && decide (a < bs.length) && ts.getD (a.toNat / 16) false)) ∧ Keep w w' := by
  obtain ⟨gb, gt, cb, ct, hr, rfl⟩ := h
  unfold ptrV
  have C := Lib.hid (holds_any a 1 ha (by unfold In64; decide) w hr)
  have hM := hr.most
  have hlen := hr.len
  have HR := Lib.hid hr
  obtain ⟨L, hLe⟩ : ∃ L, L = bs.length := ⟨_, rfl⟩
  rw [← hLe] at C hM hlen ⊢
  unfold In64 at ha
  have HL := Lib.hid hLe
  clear hr hLe
  go_enter Tryd.func29, Tryd.ntmps29
  go_wp2_with fail
  refine C.out.mono ?_
  rintro e w1 ⟨v1, rfl, hv1, hk1⟩
  by_cases hrr : reachB a 1 L = true
  · unfold reachV at hv1
    rw [if_pos hrr] at hv1
    obtain rfl := hv1.ok
    obtain ⟨r0, r1, r2⟩ := reachB_true hrr
    obtain ⟨A, rfl⟩ := Int.eq_ofNat_of_zero_le r0
    have R1 := HR.out.keep hk1
    have p0 := R1.box.cells
    have lp := R1.box.lt
    have a4 : A / 16 < ts.length := by omega
    have g2 : w1.cell? ⟨gt, A / 16, none⟩ = some (.bool (ts.getD (A / 16) false)) := by
      exact R1.tag a4
    have hd : Int.tdiv (A : Int) 16 = ((A / 16 : Nat) : Int) := by rw [Int.tdiv_eq_ediv_of_nonneg (by omega)]; omega
    have e1 : (decide (0 ≤ (A : Int)) && decide ((A : Int) < (L : Int)) && ts.getD ((A : Int).toNat / 16) false) = ts.getD (A / 16) false := by
      rw [decide_eq_true r0, decide_eq_true (show (A : Int) < (L : Int) by omega), Int.toNat_natCast]; rfl
    obtain ⟨z, hz⟩ : ∃ z, z = ts.getD (A / 16) false := ⟨_, rfl⟩
    rw [← hz] at e1 g2
    have E1 := Lib.hid e1
    have K1 := Lib.hid hk1
    clear hv1 hk1 R1 hrr e1 hz HR HL
    go_wp2_with fail
    go_ret
    rw [E1.out]
    exact ⟨rfl, K1.out⟩
  · unfold reachV at hv1
    rw [if_neg hrr] at hv1
    obtain ⟨q, rfl⟩ := hv1.fault (fun h => absurd (okV_wrong h.symm) (by decide))
    have e1 : (decide (0 ≤ a) && decide (a < (L : Int)) && ts.getD (a.toNat / 16) false) = false := by
      by_cases q1 : 0 ≤ a
      · rw [decide_eq_false (show ¬ a < (L : Int) from fun q2 => hrr (by simp [reachB]; omega)), Bool.and_false, Bool.false_and]
      · rw [decide_eq_false q1, Bool.false_and, Bool.false_and]
    have E1 := Lib.hid e1
    have K1 := Lib.hid hk1
    unfold faultP
    clear hv1 hk1 hrr e1 HR HL
    go_wp2_with fail
    go_ret
    rw [E1.out]
    exact ⟨rfl, K1.out⟩
theorem dsize_any (h : DMem w m O bs ts) : Calls Tryd.prog 59 #[ptrV m] w fun e w' => e = .returned (.int .i64 (bs.length : Int)) ∧ Keep w w' := by
  obtain ⟨gb, gt, cb, ct, hr, rfl⟩ := h
  exact rsize_any hr
set_option maxRecDepth 100000 in
set_option maxHeartbeats 1000000 in
theorem dtags_any (h : DMem w m O bs ts) : Calls Tryd.prog 28 #[ptrV m] w fun e w' => ∃ v, e = .returned v ∧ w'.ownsRow w.heap.size 3 1 v (tagsAt ts ts.length).length ((tagsAt ts ts.length).map (Value.int .i64)) ∧ Keep w w' := by
  obtain ⟨gb, gt, cb, ct, h, rfl⟩ := h
  unfold ptrV
  have hM := h.most
  have hlen := h.len
  obtain ⟨i0, hi0, hz0, hz1, hz2⟩ := info_parts infoInt
  obtain ⟨M, hMe⟩ : ∃ M, M = ts.length := ⟨_, rfl⟩
  have HH := Lib.hid h
  have BP := h.box
  have lp := BP.lt
  have cp := BP.cells
  rw [← hMe] at BP cp hlen ⊢
  have HE := Lib.hid hMe
  have m63 : (M : Int) ≤ 4096 := by omega
  clear h hMe
  go_enter Tryd.func28, Tryd.ntmps28
  go_wp2_with fail
  go_loopw [3, 11] (fun v i wr => ∃ k : Nat, k ≤ M ∧ i = .int .i64 (k : Int) ∧ wr.ownsRow w.heap.size 3 1 v (tagsAt ts k).length ((tagsAt ts k).map (Value.int .i64)) ∧ Keep w wr) (fun _ i _ => M - (intOf i).toNat)
  case atStart => exact ⟨0, Nat.zero_le _, rfl, ⟨by simp [tagsAt], .inl ⟨rfl, by simp [tagsAt]⟩⟩, Keep.refl _⟩
  case round =>
    obtain ⟨k, hk, rfl, hO, hK⟩ := hrel
    have k0 : (0 : Int) ≤ (k : Int) := Int.natCast_nonneg _
    clear cp
    by_cases h : k < M
    · have hkN : (k : Int) < (M : Int) := by omega
      have g2 : wr.cell? ⟨gt, k, none⟩ = some (.bool (ts.getD k false)) := by
        exact (HH.out.keep hK).tag (by rw [← HE.out]; exact h)
      have HO := Lib.hid hO
      have HK := Lib.hid hK
      clear hO hK
      have htl := tagsAt_length ts k
      have wk : IntKind.i64.wrap ((k : Int) * 16) = (k : Int) * 16 := by rw [IntKind.wrap_i64]; omega
      cases ht : ts.getD k false
      · have hstep : tagsAt ts (k + 1) = tagsAt ts k := by rw [tagsAt, ht]; rfl
        have HS := Lib.hid hstep
        rw [ht] at g2
        clear hstep htl
        go_wp2_with fail
        refine ⟨⟨k + 1, h, by simp, ?_, HK.out⟩, by simp [intOf]; omega⟩
        rw [HS.out]
        exact HO.out
      · have hstep : tagsAt ts (k + 1) = tagsAt ts k ++ [16 * (k : Int)] := by rw [tagsAt, ht]; rfl
        have HS := Lib.hid hstep
        have hL := Lib.hid htl
        rw [ht] at g2
        clear hstep htl
        go_wp2_with (at_builtin; refine wpList_append_own _ rfl _ _ 61 rfl w.heap.size 3 i0 (.int .i64 0) 1 8 Tryd.underlying61 hi0 hz0 hz1 hz2 rfl (by decide) _ _ _ rfl (HO.out.alloc _) ⟨wr.heap.size, 0, none⟩ 1 1 [.int .i64 ((k : Int) * 16)] rfl rfl ?c1 ?c2 ?c3 ?c4 ?c5 ?_)
        case c1 =>
          intro j u hj
          match j, hj with
          | 0, hj => simp at hj; subst hj; simp [Addr.add]
        case c2 => intro u hu; simp at hu; subst hu; rfl
        case c3 => have := hL.out; unfold maxLen; omega
        case c4 => have := hL.out; omega
        case c5 => have := HK.out.size; simp; omega
        intro v' w1 hown' hgrow _
        have KG : Keep w w1 := grown_keep (HK.out.alloc _) hgrow (fun c hc => (World.ownsRow.lt HO.out c hc).1)
        clear hgrow
        go_wp2_with fail
        refine ⟨⟨k + 1, h, by simp, ?_, KG⟩, by simp [intOf]; omega⟩
        rw [HS.out, Int.mul_comm 16]
        simpa using hown'
    · obtain rfl : k = M := by omega
      go_wp2_with fail
      go_ret
      exact ⟨_, rfl, hO, hK⟩
end Go.Proofs.YtgfoohiaioojoaaDoor

/- Store, Zero. -/
namespace Go.Proofs.YtgfoohiaioojoaaDoor
set_option linter.unusedVariables false
set_option linter.unusedSimpArgs false
open Go.RowKit Go.Deep
set_option maxHeartbeats 1000000 in
theorem store_bad {m gb gt cb ct : Nat} {bs : List Int} {ts : List Bool} (a : Int) (ha : In64 a) (ad : Option Addr) (N cs : Nat) (hN : (N : Int) ≤ 9223372036854775807) (w : World) (h : DM w m gb gt cb ct bs ts) (hr : reachB a N bs.length = false) :
    Calls Tryd.prog 40 #[.pointer (some ⟨m, 0, none⟩), .int .i64 a, .slice ad N cs] w fun e w' => ∃ u, e = .returned u ∧ ErrV w' u (rangeV a) ∧ Keep w w' := by
  have C := Lib.hid (holds_any a N ha (by unfold In64; omega) w h)
  have R : reachV a N bs.length = rangeV a := by unfold reachV; rw [hr]; rfl
  rw [R] at C
  clear R h hr ha
  go_enter Tryd.func40, Tryd.ntmps40
  go_wp2_with fail
  refine C.out.mono ?_
  rintro e w1 ⟨v1, rfl, hv1, hk1⟩
  obtain ⟨q, rfl⟩ := hv1.fault (fun h => absurd (okV_wrong h.symm) (by decide))
  have V1 := Lib.hid hv1
  have K1 := Lib.hid hk1
  clear hv1 hk1
  unfold faultP
  go_wp2_with fail
  go_ret
  exact ⟨_, rfl, V1.out, K1.out⟩
set_option maxRecDepth 100000 in
set_option maxHeartbeats 1000000 in
theorem store_ok {m gb gt cb ct : Nat} {bs : List Int} {ts : List Bool} (A : Nat) (v : Value) (xs : List Int) (hx : ∀ z ∈ xs, IsByte z) (hAN : A + xs.length ≤ bs.length) (w : World) (h : DM w m gb gt cb ct bs ts) (hv : Lies w v xs (ownsM gb gt)) :
    Calls Tryd.prog 40 #[.pointer (some ⟨m, 0, none⟩), .int .i64 A, v] w fun e w' => e = .returned .nilIface ∧ DM w' m gb gt cb ct (putAt bs A xs) (offAt ts A xs.length) ∧ KeepBut (ownsM gb gt) w w' := by
  have hM := h.most
  have C := Lib.hid (holds_any (A : Int) xs.length (by unfold In64; omega) (by unfold In64; omega) w h)
  have R : reachV A xs.length bs.length = okV := by unfold reachV; rw [if_pos (by simp [reachB]; omega)]
  rw [R] at C
  obtain ⟨ad, cs', hvv, _, _, hcell⟩ := hv
  clear R
  subst hvv
  obtain ⟨N, hNe⟩ : ∃ N, N = xs.length := ⟨_, rfl⟩
  rw [← hNe] at hAN C hcell ⊢
  have HM := Lib.hid h
  have HC := Lib.hid hcell
  have HX := Lib.hid hx
  have HN := Lib.hid hNe
  have lp := h.box.lt
  clear h hcell hx hNe
  have n63 : (N : Int) ≤ 9223372036854775807 := by omega
  go_enter Tryd.func40, Tryd.ntmps40
  go_wp2_with fail
  refine C.out.mono ?_
  rintro e w1 ⟨v1, rfl, hv1, hk1⟩
  obtain rfl := hv1.ok
  clear hv1
  go_wp2_with fail
  go_loopw [8, 9, 20] (fun _ _ i wr => ∃ k : Nat, k ≤ N ∧ i = .int .i64 (k : Int) ∧ DM wr m gb gt cb ct (putAt bs A (xs.take k)) (offAt ts A k) ∧ KeepBut (ownsM gb gt) w wr) (fun _ _ i _ => N - (intOf i).toNat)
  case atStart =>
    exact ⟨0, Nat.zero_le _, rfl, HM.out.keep hk1, hk1.but _⟩
  case round =>
    clear hk1 C
    obtain ⟨k, hk, rfl, hR, hK⟩ := hrel
    have k0 : (0 : Int) ≤ (k : Int) := Int.natCast_nonneg _
    have k63 : (k : Int) ≤ 9223372036854775807 := by omega
    by_cases h : k < N
    · have hkN : (k : Int) < (N : Int) := by omega
      obtain ⟨b, off, rfl, hnb, hbl, hc⟩ := HC.out k h
      have hcell : wr.cell? ⟨b, off + k, none⟩ = some (.int .u8 (xs.getD k 0)) := by
        rw [World.cell?_of_block (hK.block b hbl hnb)]
        exact hc
      obtain ⟨z, hz⟩ : ∃ z, z = xs.getD k 0 := ⟨_, rfl⟩
      rw [← hz] at hcell
      have HS := Lib.hid (putAt_step xs bs A k (by rw [← HN.out]; exact h))
      have HT := Lib.hid (offAt_step k ts A)
      have hlen := hR.len
      rw [putAt_length, offAt_length] at hlen
      have hLb : (putAt bs A (xs.take k)).length = bs.length := putAt_length _ _ _
      have hLt : (offAt ts A k).length = ts.length := offAt_length _ _ _
      obtain ⟨bk, hbk⟩ : ∃ bk, bk = putAt bs A (xs.take k) := ⟨_, rfl⟩
      obtain ⟨tk, htk⟩ : ∃ tk, tk = offAt ts A k := ⟨_, rfl⟩
      rw [← hbk] at hR hLb HS
      rw [← htk] at hR hLt HT
      rw [← hz] at HS
      have HZ : Hid (IsByte z) := Lib.hid (by
        have hkx : k < xs.length := by rw [← HN.out]; exact h
        rw [hz, List.getD_eq_getElem?_getD, List.getElem?_eq_getElem hkx]
        exact HX.out _ (List.getElem_mem hkx))
      have HR := Lib.hid hR
      have HK := Lib.hid hK
      have hp0 := hR.box.cells
      have lpr := hR.box.lt
      rw [hLb, hLt] at hp0
      have ht : ((A : Int) + (k : Int)).toNat = A + k := by omega
      have a4 : (A + k) / 16 < ts.length := by omega
      have g0 : wr.cell? ⟨gb, A + k, none⟩ = some (.int .u8 (bk.getD (A + k) 0)) := by
        exact hR.cell (by rw [hLb]; omega)
      have gf := hR.thawb
      have g2 : wr.cell? ⟨gt, (A + k) / 16, none⟩ = some (.bool (tk.getD ((A + k) / 16) false)) := by
        exact hR.tag (by rw [hLt]; omega)
      have gg := hR.thawt
      have n1 := hR.pb
      have n2 := hR.pt
      have n3 := hR.bt
      clear hc hz hbk htk hR hK hlen
      have hA : IntKind.i64.wrap ((A : Int) + (k : Int)) = (A : Int) + (k : Int) := by rw [IntKind.wrap_i64]; omega
      have a1 : (0 : Int) ≤ (A : Int) + (k : Int) := by omega
      have a2 : (A : Int) + (k : Int) < (bs.length : Int) := by omega
      go_wp2_with fail
      refine ⟨⟨k + 1, h, by simp, ?_, ?_⟩, ?_⟩
      · rw [HS.out, HT.out]
        exact (HR.out.setb _ _ HZ.out (by rw [hLb]; omega)).sett _ _ (by rw [hLt]; omega)
      · exact (HK.out.setCell (.inl (.inl rfl)) _).setCell (.inl (.inr rfl)) _
      · simp [intOf]; omega
    · obtain rfl : k = N := by omega
      have HR := Lib.hid hR
      have HK := Lib.hid hK
      clear hR hK
      go_wp2_with fail
      go_ret
      have ex : xs.take k = xs := by rw [HN.out]; exact List.take_length
      have hR := HR.out
      rw [ex] at hR
      exact ⟨rfl, hR, HK.out⟩
variable {w : World} {m : Nat} {O : Nat → Prop} {bs : List Int} {ts : List Bool}
theorem ownsM_D {m gb gt : Nat} : ∀ k, ownsM gb gt k → ownsD m gb gt k := fun k h => h.elim (fun h => .inr (.inl h)) (fun h => .inr (.inr h))
theorem dstore_any (a : Int) (ha : In64 a) (v : Value) (xs : List Int) (hx : ∀ z ∈ xs, IsByte z) (h : DMem w m O bs ts) (hv : Lies w v xs O) :
    Calls Tryd.prog 40 #[ptrV m, .int .i64 a, v] w fun e w' => ∃ u, e = .returned u ∧
      ((reachB a xs.length bs.length = false ∧ ErrV w' u (rangeV a) ∧ Keep w w') ∨
       (reachB a xs.length bs.length = true ∧ u = .nilIface ∧ DMem w' m O (putAt bs a.toNat xs) (offAt ts a.toNat xs.length) ∧ KeepBut O w w')) := by
  obtain ⟨gb, gt, cb, ct, h, rfl⟩ := h
  unfold ptrV
  cases hr : reachB a xs.length bs.length
  · obtain ⟨ad, cs', rfl, hl1, hl2, _⟩ := hv
    refine (store_bad a ha ad xs.length cs' (by omega) w h hr).mono ?_
    rintro e w' ⟨u, rfl, h1, h2⟩
    exact ⟨u, rfl, .inl ⟨rfl, h1, h2⟩⟩
  · obtain ⟨r0, r1, r2⟩ := reachB_true hr
    obtain ⟨A, rfl⟩ := Int.eq_ofNat_of_zero_le r0
    simp only [Int.toNat_natCast]
    refine (store_ok A v xs hx (by omega) w h (hv.less (fun b _ hb => ownsM_D b hb))).mono ?_
    rintro e w' ⟨rfl, h1, h2⟩
    exact ⟨_, rfl, .inr ⟨by simp, rfl, ⟨gb, gt, cb, ct, h1, rfl⟩, h2.mono (fun k _ hk => ownsM_D k hk)⟩⟩
end Go.Proofs.YtgfoohiaioojoaaDoor

/- slices.Clone, Load, Twin. -/
namespace Go.Proofs.YtgfoohiaioojoaaDoor
set_option linter.unusedVariables false
set_option linter.unusedSimpArgs false
open Go.RowKit Go.Deep
set_option maxHeartbeats 2000000 in
set_option maxRecDepth 100000 in
theorem clone8 (b off c n : Nat) (xs : List Int) (hn : n = xs.length) (w : World) (hl : n ≤ 65536) (hc : ∀ j, j < xs.length → w.cell? ⟨b, off + j, none⟩ = some (.int .u8 (xs.getD j 0))) :
    Calls Tryd.prog 61 #[.slice (some ⟨b, off, none⟩) n c] w fun e w' => ∃ v', e = .returned v' ∧ w'.ownsRow w.heap.size 5 1 v' n (xs.map (Value.int .u8)) ∧ v' ≠ .slice none 0 0 ∧ Keep w w' := by
  obtain ⟨i0, hi, hz0, hz1, hz2⟩ := info_parts infoU8
  have q22 : ∀ (w : World) (a : Option Addr) (n c n' c' : Nat), (binOp .eql 37 (.slice a n c) (.slice none n' c')).run Tryd.prog w = .ok (.bool a.isNone) w := fun w a n c n' c' => Lib.run_eql_slice_nil w _ _ a n c n' c' Tryd.underlying37
  have u22 : ∀ w, Sem.run Tryd.prog (underlying 37) w = .ok (TypeDesc.slice 5) w := run_underlying Tryd.underlying37
  have A := Lib.hid hc
  have HN := Lib.hid hn
  clear hc hn
  go_enter Tryd.func61, Tryd.ntmps61
  go_wp2_with (at_builtin; refine wpList_append_own _ rfl _ _ 37 rfl w.heap.size 5 i0 (.int .u8 0) 1 1 Tryd.underlying37 hi hz0 hz1 hz2 rfl (by decide) _ _ _ rfl (World.ownsRow_made w #[] 0 (Nat.le_refl _) (Nat.zero_le _) rfl) ⟨b, off, none⟩ n c (xs.map (Value.int .u8)) rfl ?qc1 ?qc2 ?qc3 ?qc4 ?qc5 ?qc6 ?_)
  case qc1 => simp; exact HN.out.symm
  case qc2 =>
    intro j u hj
    have hjn : j < xs.length := by
      have := (List.getElem?_eq_some_iff.1 hj).1
      simpa using this
    rw [Addr.add_lit]
    refine Lib.cell?_alloc_some _ ?_
    rw [A.out j hjn]
    have e : (xs.map (Value.int .u8))[j]? = some (Value.int .u8 (xs.getD j 0)) := by simp [List.getD, List.getElem?_eq_getElem hjn]
    rw [e] at hj
    exact hj
  case qc3 => intro u hu; obtain ⟨x, _, rfl⟩ := List.mem_map.1 hu; rfl
  case qc4 => unfold maxLen; omega
  case qc5 => omega
  case qc6 => simp
  intro v' w1 hown hgrow hnil
  have hk : Keep w w1 := grown_keep ((Keep.refl w).alloc _) hgrow (by intro k hk; simp [Value.ownBlock] at hk; omega)
  go_wp2_with fail
  go_ret
  exact ⟨v', rfl, by simpa using hown, hnil, hk⟩
set_option maxHeartbeats 2000000 in
set_option maxRecDepth 100000 in
theorem cloneb (b off c n : Nat) (xs : List Bool) (hn : n = xs.length) (w : World) (hl : n ≤ 65536) (hc : ∀ j, j < xs.length → w.cell? ⟨b, off + j, none⟩ = some (.bool (xs.getD j false))) :
    Calls Tryd.prog 62 #[.slice (some ⟨b, off, none⟩) n c] w fun e w' => ∃ v', e = .returned v' ∧ w'.ownsRow w.heap.size 4 1 v' n (xs.map Value.bool) ∧ v' ≠ .slice none 0 0 ∧ Keep w w' := by
  obtain ⟨i0, hi, hz0, hz1, hz2⟩ := info_parts infoBool
  have q22 : ∀ (w : World) (a : Option Addr) (n c n' c' : Nat), (binOp .eql 106 (.slice a n c) (.slice none n' c')).run Tryd.prog w = .ok (.bool a.isNone) w := fun w a n c n' c' => Lib.run_eql_slice_nil w _ _ a n c n' c' Tryd.underlying106
  have u22 : ∀ w, Sem.run Tryd.prog (underlying 106) w = .ok (TypeDesc.slice 4) w := run_underlying Tryd.underlying106
  have A := Lib.hid hc
  have HN := Lib.hid hn
  clear hc hn
  go_enter Tryd.func62, Tryd.ntmps62
  go_wp2_with (at_builtin; refine wpList_append_own _ rfl _ _ 106 rfl w.heap.size 4 i0 (.bool false) 1 1 Tryd.underlying106 hi hz0 hz1 hz2 rfl (by decide) _ _ _ rfl (World.ownsRow_made w #[] 0 (Nat.le_refl _) (Nat.zero_le _) rfl) ⟨b, off, none⟩ n c (xs.map Value.bool) rfl ?qc1 ?qc2 ?qc3 ?qc4 ?qc5 ?qc6 ?_)
  case qc1 => simp; exact HN.out.symm
  case qc2 =>
    intro j u hj
    have hjn : j < xs.length := by
      have := (List.getElem?_eq_some_iff.1 hj).1
      simpa using this
    rw [Addr.add_lit]
    refine Lib.cell?_alloc_some _ ?_
    rw [A.out j hjn]
    have e : (xs.map Value.bool)[j]? = some (Value.bool (xs.getD j false)) := by simp [List.getD, List.getElem?_eq_getElem hjn]
    rw [e] at hj
    exact hj
  case qc3 => intro u hu; obtain ⟨x, _, rfl⟩ := List.mem_map.1 hu; rfl
  case qc4 => unfold maxLen; omega
  case qc5 => omega
  case qc6 => simp
  intro v' w1 hown hgrow hnil
  have hk : Keep w w1 := grown_keep ((Keep.refl w).alloc _) hgrow (by intro k hk; simp [Value.ownBlock] at hk; omega)
  go_wp2_with fail
  go_ret
  exact ⟨v', rfl, by simpa using hown, hnil, hk⟩
end Go.Proofs.YtgfoohiaioojoaaDoor

/- Load, Twin. -/
namespace Go.Proofs.YtgfoohiaioojoaaDoor
set_option linter.unusedVariables false
set_option linter.unusedSimpArgs false
open Go.RowKit Go.Deep
theorem row_u8 {w : World} {base n : Nat} {v : Value} {l : List Int} (h : w.ownsRow base 5 1 v n (l.map (Value.int .u8))) (hn : l.length = n) (hp : v ≠ .slice none 0 0) :
    ∃ g cap vs, v = .slice (some ⟨g, 0, none⟩) n cap ∧ n ≤ cap ∧ cap ≤ maxLen ∧ base ≤ g ∧ Box w g vs ∧ ∀ i, i < l.length → vs[i]? = some (.int .u8 (l.getD i 0)) := by
  obtain ⟨_, h | ⟨g', cap', cur, hv, hbg, hg, hn1, hcm, hsz, hx⟩⟩ := h
  · exact absurd h.1 hp
  · refine ⟨g', cap', cur, hv, hn1, hcm, hbg, ⟨_, hg⟩, fun i hi => ?_⟩
    have e := congrArg (fun x => x[i]?) hx
    simp only [List.getElem?_map, List.getElem?_eq_getElem hi, Option.map_some] at e
    rw [List.getElem?_take, if_pos (by omega)] at e
    rw [List.getD_eq_getElem?_getD, List.getElem?_eq_getElem hi]
    simpa using e
theorem row_bool {w : World} {base n : Nat} {v : Value} {l : List Bool} (h : w.ownsRow base 4 1 v n (l.map Value.bool)) (hn : l.length = n) (hp : v ≠ .slice none 0 0) :
    ∃ g cap vs, v = .slice (some ⟨g, 0, none⟩) n cap ∧ n ≤ cap ∧ cap ≤ maxLen ∧ base ≤ g ∧ Box w g vs ∧ ∀ i, i < l.length → vs[i]? = some (.bool (l.getD i false)) := by
  obtain ⟨_, h | ⟨g', cap', cur, hv, hbg, hg, hn1, hcm, hsz, hx⟩⟩ := h
  · exact absurd h.1 hp
  · refine ⟨g', cap', cur, hv, hn1, hcm, hbg, ⟨_, hg⟩, fun i hi => ?_⟩
    have e := congrArg (fun x => x[i]?) hx
    simp only [List.getElem?_map, List.getElem?_eq_getElem hi, Option.map_some] at e
    rw [List.getElem?_take, if_pos (by omega)] at e
    rw [List.getD_eq_getElem?_getD, List.getElem?_eq_getElem hi]
    simpa using e
theorem own_lies {w : World} {base n : Nat} {v : Value} {l : List Int} (h : w.ownsRow base 5 1 v n (l.map (Value.int .u8))) (hn : l.length = n) : Lies w v l (fun k => k < base) := by
  rcases Nat.eq_zero_or_pos n with h0 | hp
  · subst h0
    have : l = [] := List.eq_nil_of_length_eq_zero hn
    subst this
    obtain ⟨_, h | ⟨g', cap', cur, hv, hbg, hg, hn1, hcm, hsz, hx⟩⟩ := h
    · exact ⟨none, 0, h.1, Nat.le_refl _, by decide, fun k hk => absurd hk (by simp)⟩
    · exact ⟨_, cap', hv, by simp, by unfold maxLen at hcm; omega, fun k hk => absurd hk (by simp)⟩
  · obtain ⟨g, cap, vs, rfl, h1, h2, h3, hB, hc⟩ := row_u8 h hn (fun e => by subst e; obtain ⟨_, h | ⟨g2, cap2, cur, hv, _⟩⟩ := h; exact absurd h.2 (by omega); cases hv)
    subst hn
    exact ⟨_, cap, rfl, h1, by unfold maxLen at h2; omega, fun k hk => ⟨g, 0, rfl, by omega, hB.lt, by rw [Nat.zero_add, hB.cells]; exact hc k hk⟩⟩
variable {w : World} {m : Nat} {O : Nat → Prop} {bs : List Int} {ts : List Bool}
set_option maxRecDepth 100000 in
set_option maxHeartbeats 1000000 in
theorem dload_any (a n : Int) (ha : In64 a) (hn : In64 n) (h : DMem w m O bs ts) :
    Calls Tryd.prog 27 #[ptrV m, .int .i64 a, .int .i64 n] w fun e w' => Keep w w' ∧ ∃ s u, e = .returned (.tuple #[s, u]) ∧
      ((reachB a n bs.length = false ∧ ErrV w' u (rangeV a) ∧ Lies w' s [] (fun k => k < w.heap.size)) ∨
       (reachB a n bs.length = true ∧ u = .nilIface ∧ Lies w' s ((bs.drop a.toNat).take n.toNat) (fun k => k < w.heap.size))) := by
  obtain ⟨gb, gt, cb, ct, hr, rfl⟩ := h
  have C := Lib.hid (holds_any a n ha hn w hr)
  have hM := hr.most
  have HR := Lib.hid hr
  unfold ptrV
  unfold In64 at ha hn
  cases hrr : reachB a n bs.length
  · have R : reachV a n bs.length = rangeV a := by unfold reachV; rw [hrr]; rfl
    rw [R] at C
    clear R hrr hr
    go_enter Tryd.func27, Tryd.ntmps27
    go_wp2_with fail
    refine C.out.mono ?_
    rintro e w1 ⟨v1, rfl, hv1, hk1⟩
    obtain ⟨q, rfl⟩ := hv1.fault (fun h => absurd (okV_wrong h.symm) (by decide))
    have V1 := Lib.hid hv1
    have K1 := Lib.hid hk1
    clear hv1 hk1
    unfold faultP
    go_wp2_with fail
    refine bodyPost_ret (v := .tuple #[.slice none 0 0, .iface 74 (.pointer (some ⟨q, 0, none⟩))]) (by simp [results, Tryd.results27, go_sem]; done) rfl ⟨K1.out, _, _, rfl, .inl ⟨by simp, V1.out, none, 0, rfl, Nat.le_refl _, by decide, fun k hk => absurd hk (by simp)⟩⟩
  · have R : reachV a n bs.length = okV := by unfold reachV; rw [hrr]; rfl
    rw [R] at C
    obtain ⟨r0, r1, r2⟩ := reachB_true hrr
    obtain ⟨A, rfl⟩ := Int.eq_ofNat_of_zero_le r0
    obtain ⟨N, rfl⟩ := Int.eq_ofNat_of_zero_le r1
    obtain ⟨c1, c2⟩ := hr.capb
    have hlN : ((bs.drop A).take N).length = N := by simp; omega
    have HLN := Lib.hid hlN
    have lp := hr.box.lt
    obtain ⟨L, hLe⟩ : ∃ L, L = bs.length := ⟨_, rfl⟩
    have BP := hr.box
    rw [← hLe] at BP c1 r2
    have HL := Lib.hid hLe
    have a0 : (0 : Int) ≤ (A : Int) := Int.natCast_nonneg _
    have n0 : (0 : Int) ≤ (N : Int) := Int.natCast_nonneg _
    have an : (A : Int) ≤ (A : Int) + (N : Int) := by omega
    have ac : (A : Int) + (N : Int) ≤ (cb : Int) := by omega
    have hw1 : IntKind.i64.wrap ((A : Int) + (N : Int)) = (A : Int) + (N : Int) := by rw [IntKind.wrap_i64]; omega
    have hsub : A + N - A = N := by omega
    have HM := Lib.hid hM
    clear R hrr hr hLe hlN hM
    go_enter Tryd.func27, Tryd.ntmps27
    go_wp2_with fail
    refine C.out.mono ?_
    rintro e w1 ⟨v1, rfl, hv1, hk1⟩
    obtain rfl := hv1.ok
    have R1 := Lib.hid (HR.out.keep hk1)
    have p0 := (BP.keep hk1).cells
    have lp1 := (BP.keep hk1).lt
    have K1 := Lib.hid hk1
    clear hv1 hk1
    go_wp2_with fail
    · obtain rfl : N = 0 := by omega
      refine (clone8 gb 0 0 0 [] rfl w1 (by decide) (fun j hj => absurd hj (by simp))).mono ?_
      rintro e w2 ⟨v, rfl, ho, _, hk2⟩
      have LI := Lib.hid (own_lies ho rfl)
      have K2 := Lib.hid (K1.out.trans hk2)
      have KS := K1.out.size
      clear ho hk2
      go_wp2_with fail
      refine bodyPost_ret (v := .tuple #[v, .nilIface]) (by simp [results, Tryd.results27, go_sem]; done) rfl ⟨K2.out, _, _, rfl, .inr ⟨by simp, rfl, by simpa using LI.out.less (fun b _ hb => Nat.lt_of_lt_of_le hb KS)⟩⟩
    · refine (clone8 gb A (cb - A) N ((bs.drop A).take N) HLN.out.symm w1 (by have := HM.out; have := HL.out; omega) (fun j hj => ?_)).mono ?_
      · rw [R1.out.cell (by rw [HLN.out] at hj; have := HL.out; omega)]
        rw [HLN.out] at hj
        simp only [List.getD_eq_getElem?_getD, List.getElem?_take, List.getElem?_drop, if_pos hj]
      · rintro e w2 ⟨v, rfl, ho, _, hk2⟩
        have LI := Lib.hid (own_lies ho HLN.out)
        have K2 := Lib.hid (K1.out.trans hk2)
        have KS := K1.out.size
        clear ho hk2
        go_wp2_with fail
        refine bodyPost_ret (v := .tuple #[v, .nilIface]) (by simp [results, Tryd.results27, go_sem]; done) rfl ⟨K2.out, _, _, rfl, .inr ⟨by simp, rfl, by simpa using LI.out.less (fun b _ hb => Nat.lt_of_lt_of_le hb KS)⟩⟩
set_option maxRecDepth 100000 in
set_option maxHeartbeats 1000000 in
theorem dtwin_any (h : DMem w m O bs ts) :
    Calls Tryd.prog 25 #[ptrV m] w fun e w' => ∃ m' O', e = .returned (ptrV m') ∧ DMem w' m' O' bs ts ∧ Keep w w' ∧ ∀ b, O' b → w.heap.size ≤ b := by
  obtain ⟨gb, gt, cb, ct, hr, rfl⟩ := h
  unfold ptrV
  have hM := hr.most
  have hlen := hr.len
  obtain ⟨c1, c2⟩ := hr.capb
  obtain ⟨c3, c4⟩ := hr.capt
  obtain ⟨N, hN⟩ : ∃ N, N = bs.length := ⟨_, rfl⟩
  obtain ⟨M, hMe⟩ : ∃ M, M = ts.length := ⟨_, rfl⟩
  have BP := Lib.hid hr.box
  have HR := Lib.hid hr
  have lp := hr.box.lt
  have p0 := hr.box.cells
  rw [← hN] at c1 hM hlen p0 BP
  rw [← hMe] at c3 hlen p0 BP
  have HN := Lib.hid hN
  have HM := Lib.hid hMe
  have hT : M ≤ 65536 := by omega
  clear hr hN hMe hlen
  go_enter Tryd.func25, Tryd.ntmps25
  go_wp2_with fail
  refine Rel.regionO Keep Rel.Way.ofKeep [4, 9, 11] [0, 1, 2, 3, 5, 6, 7, 8, 4, 9, 10, 11, 12] (by kernel_rfl) (by kernel_rfl) (Keep.refl _) ?_
  clear p0
  repeat (apply Rel.ordK_step (by rfl) (by rfl) (by rfl)
          · intro W hW
            have c0 := (BP.out.keep hW).cells
            have l0 := (BP.out.keep hW).lt
            go_simp
            exact ⟨rfl, Keep.refl _⟩
          go_simp)
  apply Rel.ordK_loose (by rfl) (by rfl) (by rfl)
  intro W1 hW1
  go_simp
  apply Rel.gives_enter
  go_at_call 61
  refine (clone8 gb 0 cb N bs HN.out W1 hM (fun j hj => by rw [Nat.zero_add]; exact (HR.out.keep hW1).cell hj)).mono ?_
  rintro e w1 ⟨v1, rfl, ho1, hn1, hk1⟩
  refine ⟨v1, rfl, hk1, ?_⟩
  obtain ⟨g1, cap1, vs1, rfl, a1, a2, a3, B1, x1⟩ := row_u8 ho1 HN.out.symm hn1
  have K1 := Lib.hid (hW1.trans hk1)
  have B1 := Lib.hid B1
  have X1 := Lib.hid x1
  have l1 := hW1.size
  clear ho1 hn1 hk1 hW1 x1
  go_simp
  apply Rel.ordK_loose (by rfl) (by rfl) (by rfl)
  intro W2 hW2
  go_simp
  apply Rel.gives_enter
  go_at_call 62
  refine (cloneb gt 0 ct M ts HM.out W2 (by omega) (fun j hj => by rw [Nat.zero_add]; exact (HR.out.keep (K1.out.trans hW2)).tag hj)).mono ?_
  rintro e w2 ⟨v2, rfl, ho2, hn2, hk2⟩
  refine ⟨v2, rfl, hk2, ?_⟩
  obtain ⟨g2, cap2, vs2, rfl, e1, e2, e3, B2, x2⟩ := row_bool ho2 HM.out.symm hn2
  have K2 := Lib.hid ((K1.out.trans hW2).trans hk2)
  have q1 : g1 < W2.heap.size := Nat.lt_of_lt_of_le B1.out.lt hW2.size
  have B1' := Lib.hid ((B1.out.keep hW2).keep hk2)
  have B2 := Lib.hid B2
  have X2 := Lib.hid x2
  clear ho2 hn2 hk2 hW2 x2 B1 K1
  go_simp
  repeat (apply Rel.ordK_step (by rfl) (by rfl) (by rfl)
          · intro W hW
            go_simp
            exact ⟨rfl, Keep.refl _⟩
          go_simp)
  apply Rel.ordK_loose (by rfl) (by rfl) (by rfl)
  intro W3 hW3
  go_simp
  apply Rel.gives_value
  refine ⟨(Keep.refl _).alloc _, ?_⟩
  have K3 := Lib.hid (K2.out.trans hW3)
  have C1 := Lib.hid (B1'.out.keep hW3)
  have C2 := Lib.hid (B2.out.keep hW3)
  have l3 := (K2.out.trans hW3).size
  have q3 := C1.out.lt
  have q4 := C2.out.lt
  clear hW3 B1' B2 K2
  go_simp
  repeat (apply Rel.ordK_step (by rfl) (by rfl) (by rfl)
          · intro W hW
            go_simp
            exact ⟨rfl, Keep.refl _⟩
          go_simp)
  apply Rel.ordK_end
  intro W4 hW4
  go_wp2_with fail
  go_ret
  have hd : DM W4 W3.heap.size g1 g2 cap1 cap2 bs ts :=
    { box := by rw [← HN.out, ← HM.out]; exact (Box.new _ _ _).keep hW4
      bytes := ⟨vs1, (C1.out.alloc _).keep hW4, X1.out⟩
      tags := ⟨vs2, (C2.out.alloc _).keep hW4, X2.out⟩
      pb := by omega
      pt := by omega
      bt := by omega
      isB := HR.out.isB
      len := HR.out.len
      most := HR.out.most
      capb := by rw [← HN.out]; unfold maxLen at a2; omega
      capt := by rw [← HM.out]; unfold maxLen at e2; omega }
  refine ⟨_, _, rfl, ⟨g1, g2, cap1, cap2, hd, rfl⟩, (K3.out.alloc _).trans hW4, ?_⟩
  rintro b (rfl | rfl | rfl) <;> omega
end Go.Proofs.YtgfoohiaioojoaaDoor
