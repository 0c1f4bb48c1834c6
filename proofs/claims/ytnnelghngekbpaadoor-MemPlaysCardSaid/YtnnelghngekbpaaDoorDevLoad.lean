/- Load, Twin. -/
import Derived.Test.YtnnelghngekbpaaDoorDevClone
import Derived.Test.YtnnelghngekbpaaDoorRel
namespace Go.Proofs.YtnnelghngekbpaaDoor
set_option linter.unusedVariables false
set_option linter.unusedSimpArgs false
open Go.RowKit Go.Deep
theorem row_u8 {w : World} {base n : Nat} {v : Value} {l : List Int} (h : w.ownsRow base 5 1 v n (l.map (Value.int .u8))) (hn : l.length = n) (hp : v ≠ .slice none 0 0) :
    ∃ g cap vs, v = .slice (some ⟨g, 0, none⟩) n cap ∧ n ≤ cap ∧ cap ≤ maxLen ∧ base ≤ g ∧ Box w g vs ∧ ∀ i, i < l.length → vs[i]? = some (.int .u8 (l.getD i 0)) := by
  obtain ⟨_, h | ⟨g', cap', cur, hv, hbg, hg, hn1, hcm, hsz, hx⟩⟩ := h
  · exact absurd h.1 hp
  · refine ⟨g', cap', cur, hv, hn1, hcm, hbg, ⟨_, hg⟩, fun i hi => ?_⟩
    have e := congrArg (fun x => x[i]?) hx
    simp only [List.getElem?_map, List.getElem?_eq_getElem hi, Option.map_some] at e
    rw [List.getElem?_take, if_pos (by omega)] at e
    rw [List.getD_eq_getElem?_getD, List.getElem?_eq_getElem hi]
    simpa using e
theorem row_bool {w : World} {base n : Nat} {v : Value} {l : List Bool} (h : w.ownsRow base 4 1 v n (l.map Value.bool)) (hn : l.length = n) (hp : v ≠ .slice none 0 0) :
    ∃ g cap vs, v = .slice (some ⟨g, 0, none⟩) n cap ∧ n ≤ cap ∧ cap ≤ maxLen ∧ base ≤ g ∧ Box w g vs ∧ ∀ i, i < l.length → vs[i]? = some (.bool (l.getD i false)) := by
  obtain ⟨_, h | ⟨g', cap', cur, hv, hbg, hg, hn1, hcm, hsz, hx⟩⟩ := h
  · exact absurd h.1 hp
  · refine ⟨g', cap', cur, hv, hn1, hcm, hbg, ⟨_, hg⟩, fun i hi => ?_⟩
    have e := congrArg (fun x => x[i]?) hx
    simp only [List.getElem?_map, List.getElem?_eq_getElem hi, Option.map_some] at e
    rw [List.getElem?_take, if_pos (by omega)] at e
    rw [List.getD_eq_getElem?_getD, List.getElem?_eq_getElem hi]
    simpa using e
theorem own_lies {w : World} {base n : Nat} {v : Value} {l : List Int} (h : w.ownsRow base 5 1 v n (l.map (Value.int .u8))) (hn : l.length = n) : Lies w v l (fun k => k < base) := by
  rcases Nat.eq_zero_or_pos n with h0 | hp
  · subst h0
    have : l = [] := List.eq_nil_of_length_eq_zero hn
    subst this
    obtain ⟨_, h | ⟨g', cap', cur, hv, hbg, hg, hn1, hcm, hsz, hx⟩⟩ := h
    · exact ⟨none, 0, h.1, Nat.le_refl _, by decide, fun k hk => absurd hk (by simp)⟩
    · exact ⟨_, cap', hv, by simp, by unfold maxLen at hcm; omega, fun k hk => absurd hk (by simp)⟩
  · obtain ⟨g, cap, vs, rfl, h1, h2, h3, hB, hc⟩ := row_u8 h hn (fun e => by subst e; obtain ⟨_, h | ⟨g2, cap2, cur, hv, _⟩⟩ := h; exact absurd h.2 (by omega); cases hv)
    subst hn
    exact ⟨_, cap, rfl, h1, by unfold maxLen at h2; omega, fun k hk => ⟨g, 0, rfl, by omega, hB.lt, by rw [Nat.zero_add, hB.cells]; exact hc k hk⟩⟩
variable {w : World} {m : Nat} {O : Nat → Prop} {bs : List Int} {ts : List Bool}
set_option maxRecDepth 100000 in
set_option maxHeartbeats 1000000 in
theorem dload_any (a n : Int) (ha : In64 a) (hn : In64 n) (h : DMem w m O bs ts) :
    Calls Tryd.prog 16 #[ptrV m, .int .i64 a, .int .i64 n] w fun e w' => Keep w w' ∧ ∃ s u, e = .returned (.tuple #[s, u]) ∧
      ((reachB a n bs.length = false ∧ ErrV w' u (rangeV a) ∧ Lies w' s [] (fun k => k < w.heap.size)) ∨
       (reachB a n bs.length = true ∧ u = .nilIface ∧ Lies w' s ((bs.drop a.toNat).take n.toNat) (fun k => k < w.heap.size))) := by
  obtain ⟨gb, gt, cb, ct, hr, rfl⟩ := h
  have C := Lib.hid (holds_any a n ha hn w hr)
  have hM := hr.most
  have HR := Lib.hid hr
  unfold ptrV
  unfold In64 at ha hn
  cases hrr : reachB a n bs.length
  · have R : reachV a n bs.length = rangeV a := by unfold reachV; rw [hrr]; rfl
    rw [R] at C
    clear R hrr hr
    go_enter Tryd.func16, Tryd.ntmps16
    go_wp2_with fail
    refine C.out.mono ?_
    rintro e w1 ⟨v1, rfl, hv1, hk1⟩
    obtain ⟨q, rfl⟩ := hv1.fault (fun h => absurd (okV_wrong h.symm) (by decide))
    have V1 := Lib.hid hv1
    have K1 := Lib.hid hk1
    clear hv1 hk1
    unfold faultP
    go_wp2_with fail
    refine bodyPost_ret (v := .tuple #[.slice none 0 0, .iface 77 (.pointer (some ⟨q, 0, none⟩))]) (by simp [results, Tryd.results16, go_sem]; done) rfl ⟨K1.out, _, _, rfl, .inl ⟨by simp, V1.out, none, 0, rfl, Nat.le_refl _, by decide, fun k hk => absurd hk (by simp)⟩⟩
  · have R : reachV a n bs.length = okV := by unfold reachV; rw [hrr]; rfl
    rw [R] at C
    obtain ⟨r0, r1, r2⟩ := reachB_true hrr
    obtain ⟨A, rfl⟩ := Int.eq_ofNat_of_zero_le r0
    obtain ⟨N, rfl⟩ := Int.eq_ofNat_of_zero_le r1
    obtain ⟨c1, c2⟩ := hr.capb
    have hlN : ((bs.drop A).take N).length = N := by simp; omega
    have HLN := Lib.hid hlN
    have lp := hr.box.lt
    obtain ⟨L, hLe⟩ : ∃ L, L = bs.length := ⟨_, rfl⟩
    have BP := hr.box
    rw [← hLe] at BP c1 r2
    have HL := Lib.hid hLe
    have a0 : (0 : Int) ≤ (A : Int) := Int.natCast_nonneg _
    have n0 : (0 : Int) ≤ (N : Int) := Int.natCast_nonneg _
    have an : (A : Int) ≤ (A : Int) + (N : Int) := by omega
    have ac : (A : Int) + (N : Int) ≤ (cb : Int) := by omega
    have hw1 : IntKind.i64.wrap ((A : Int) + (N : Int)) = (A : Int) + (N : Int) := by rw [IntKind.wrap_i64]; omega
    have hsub : A + N - A = N := by omega
    have HM := Lib.hid hM
    clear R hrr hr hLe hlN hM
    go_enter Tryd.func16, Tryd.ntmps16
    go_wp2_with fail
    refine C.out.mono ?_
    rintro e w1 ⟨v1, rfl, hv1, hk1⟩
    obtain rfl := hv1.ok
    have R1 := Lib.hid (HR.out.keep hk1)
    have p0 := (BP.keep hk1).cells
    have lp1 := (BP.keep hk1).lt
    have K1 := Lib.hid hk1
    clear hv1 hk1
    go_wp2_with fail
    · obtain rfl : N = 0 := by omega
      refine (clone8 gb 0 0 0 [] rfl w1 (by decide) (fun j hj => absurd hj (by simp))).mono ?_
      rintro e w2 ⟨v, rfl, ho, _, hk2⟩
      have LI := Lib.hid (own_lies ho rfl)
      have K2 := Lib.hid (K1.out.trans hk2)
      have KS := K1.out.size
      clear ho hk2
      go_wp2_with fail
      refine bodyPost_ret (v := .tuple #[v, .nilIface]) (by simp [results, Tryd.results16, go_sem]; done) rfl ⟨K2.out, _, _, rfl, .inr ⟨by simp, rfl, by simpa using LI.out.less (fun b _ hb => Nat.lt_of_lt_of_le hb KS)⟩⟩
    · refine (clone8 gb A (cb - A) N ((bs.drop A).take N) HLN.out.symm w1 (by have := HM.out; have := HL.out; omega) (fun j hj => ?_)).mono ?_
      · rw [R1.out.cell (by rw [HLN.out] at hj; have := HL.out; omega)]
        rw [HLN.out] at hj
        simp only [List.getD_eq_getElem?_getD, List.getElem?_take, List.getElem?_drop, if_pos hj]
      · rintro e w2 ⟨v, rfl, ho, _, hk2⟩
        have LI := Lib.hid (own_lies ho HLN.out)
        have K2 := Lib.hid (K1.out.trans hk2)
        have KS := K1.out.size
        clear ho hk2
        go_wp2_with fail
        refine bodyPost_ret (v := .tuple #[v, .nilIface]) (by simp [results, Tryd.results16, go_sem]; done) rfl ⟨K2.out, _, _, rfl, .inr ⟨by simp, rfl, by simpa using LI.out.less (fun b _ hb => Nat.lt_of_lt_of_le hb KS)⟩⟩
set_option maxRecDepth 100000 in
set_option maxHeartbeats 1000000 in
theorem dtwin_any (h : DMem w m O bs ts) :
    Calls Tryd.prog 21 #[ptrV m] w fun e w' => ∃ m' O', e = .returned (ptrV m') ∧ DMem w' m' O' bs ts ∧ Keep w w' ∧ ∀ b, O' b → w.heap.size ≤ b := by
  obtain ⟨gb, gt, cb, ct, hr, rfl⟩ := h
  unfold ptrV
  have hM := hr.most
  have hlen := hr.len
  obtain ⟨c1, c2⟩ := hr.capb
  obtain ⟨c3, c4⟩ := hr.capt
  obtain ⟨N, hN⟩ : ∃ N, N = bs.length := ⟨_, rfl⟩
  obtain ⟨M, hMe⟩ : ∃ M, M = ts.length := ⟨_, rfl⟩
  have BP := Lib.hid hr.box
  have HR := Lib.hid hr
  have lp := hr.box.lt
  have p0 := hr.box.cells
  rw [← hN] at c1 hM hlen p0 BP
  rw [← hMe] at c3 hlen p0 BP
  have HN := Lib.hid hN
  have HM := Lib.hid hMe
  have hT : M ≤ 65536 := by omega
  clear hr hN hMe hlen
  go_enter Tryd.func21, Tryd.ntmps21
  go_wp2_with fail
  refine Rel.regionO Keep Rel.Way.ofKeep [4, 9, 11] [0, 1, 2, 3, 5, 6, 7, 8, 4, 9, 10, 11, 12] (by kernel_rfl) (by kernel_rfl) (Keep.refl _) ?_
  clear p0
  repeat (apply Rel.ordK_step (by rfl) (by rfl) (by rfl)
          · intro W hW
            have c0 := (BP.out.keep hW).cells
            have l0 := (BP.out.keep hW).lt
            go_simp
            exact ⟨rfl, Keep.refl _⟩
          go_simp)
  apply Rel.ordK_loose (by rfl) (by rfl) (by rfl)
  intro W1 hW1
  go_simp
  apply Rel.gives_enter
  go_at_call 38
  refine (clone8 gb 0 cb N bs HN.out W1 hM (fun j hj => by rw [Nat.zero_add]; exact (HR.out.keep hW1).cell hj)).mono ?_
  rintro e w1 ⟨v1, rfl, ho1, hn1, hk1⟩
  refine ⟨v1, rfl, hk1, ?_⟩
  obtain ⟨g1, cap1, vs1, rfl, a1, a2, a3, B1, x1⟩ := row_u8 ho1 HN.out.symm hn1
  have K1 := Lib.hid (hW1.trans hk1)
  have B1 := Lib.hid B1
  have X1 := Lib.hid x1
  have l1 := hW1.size
  clear ho1 hn1 hk1 hW1 x1
  go_simp
  apply Rel.ordK_loose (by rfl) (by rfl) (by rfl)
  intro W2 hW2
  go_simp
  apply Rel.gives_enter
  go_at_call 41
  refine (cloneb gt 0 ct M ts HM.out W2 (by omega) (fun j hj => by rw [Nat.zero_add]; exact (HR.out.keep (K1.out.trans hW2)).tag hj)).mono ?_
  rintro e w2 ⟨v2, rfl, ho2, hn2, hk2⟩
  refine ⟨v2, rfl, hk2, ?_⟩
  obtain ⟨g2, cap2, vs2, rfl, e1, e2, e3, B2, x2⟩ := row_bool ho2 HM.out.symm hn2
  have K2 := Lib.hid ((K1.out.trans hW2).trans hk2)
  have q1 : g1 < W2.heap.size := Nat.lt_of_lt_of_le B1.out.lt hW2.size
  have B1' := Lib.hid ((B1.out.keep hW2).keep hk2)
  have B2 := Lib.hid B2
  have X2 := Lib.hid x2
  clear ho2 hn2 hk2 hW2 x2 B1 K1
  go_simp
  repeat (apply Rel.ordK_step (by rfl) (by rfl) (by rfl)
          · intro W hW
            go_simp
            exact ⟨rfl, Keep.refl _⟩
          go_simp)
  apply Rel.ordK_loose (by rfl) (by rfl) (by rfl)
  intro W3 hW3
  go_simp
  apply Rel.gives_value
  refine ⟨(Keep.refl _).alloc _, ?_⟩
  have K3 := Lib.hid (K2.out.trans hW3)
  have C1 := Lib.hid (B1'.out.keep hW3)
  have C2 := Lib.hid (B2.out.keep hW3)
  have l3 := (K2.out.trans hW3).size
  have q3 := C1.out.lt
  have q4 := C2.out.lt
  clear hW3 B1' B2 K2
  go_simp
  repeat (apply Rel.ordK_step (by rfl) (by rfl) (by rfl)
          · intro W hW
            go_simp
            exact ⟨rfl, Keep.refl _⟩
          go_simp)
  apply Rel.ordK_end
  intro W4 hW4
  go_wp2_with fail
  go_ret
  have hd : DM W4 W3.heap.size g1 g2 cap1 cap2 bs ts :=
    { box := by rw [← HN.out, ← HM.out]; exact (Box.new _ _ _).keep hW4
      bytes := ⟨vs1, (C1.out.alloc _).keep hW4, X1.out⟩
      tags := ⟨vs2, (C2.out.alloc _).keep hW4, X2.out⟩
      pb := by omega
      pt := by omega
      bt := by omega
      isB := HR.out.isB
      len := HR.out.len
      most := HR.out.most
      capb := by rw [← HN.out]; unfold maxLen at a2; omega
      capt := by rw [← HM.out]; unfold maxLen at e2; omega }
  refine ⟨_, _, rfl, ⟨g1, g2, cap1, cap2, hd, rfl⟩, (K3.out.alloc _).trans hW4, ?_⟩
  rintro b (rfl | rfl | rfl) <;> omega
end Go.Proofs.YtnnelghngekbpaaDoor
