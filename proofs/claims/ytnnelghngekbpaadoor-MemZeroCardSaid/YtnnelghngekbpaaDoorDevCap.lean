/- LoadCap, StoreCap. -/
import Derived.Test.YtnnelghngekbpaaDoorDevFns
import Derived.Test.YtnnelghngekbpaaDoorPackPair
import Derived.Test.YtnnelghngekbpaaDoorRel
import Derived.Test.YtnnelghngekbpaaDoorMemStoreCap
import Derived.Laws.IdiomCopy
namespace Go.Proofs.YtnnelghngekbpaaDoor
set_option linter.unusedVariables false
set_option linter.unusedSimpArgs false
open Go.RowKit Go.Deep
variable {w : World} {m : Nat} {O : Nat → Prop} {bs : List Int} {ts : List Bool}
/-- LoadCap's capability and what is told of it. -/
def lcapV (bs : List Int) (ts : List Bool) (a : Int) : Value :=
  if reachB a 16 bs.length = true then (if a % 16 = 0 then capV (ts.getD (a.toNat / 16) false) (sixteen bs a.toNat) else zeroV) else zeroV
theorem list16 (l : List Int) (h : l.length = 16) : ∃ z0 z1 z2 z3 z4 z5 z6 z7 z8 z9 z10 z11 z12 z13 z14 z15, l = [z0, z1, z2, z3, z4, z5, z6, z7, z8, z9, z10, z11, z12, z13, z14, z15] := by
  match l, h with
  | [z0, z1, z2, z3, z4, z5, z6, z7, z8, z9, z10, z11, z12, z13, z14, z15], _ => exact ⟨_, _, _, _, _, _, _, _, _, _, _, _, _, _, _, _, rfl⟩
theorem ErrV.but {S : Nat → Prop} {w w' : World} {v wv : Value} (h : ErrV w v wv) (k : KeepBut S w w') (hS : ∀ q, v = faultP q → ¬ S q) : ErrV w' v wv := by
  rcases h with h | ⟨q, part, at_, n, h1, h2, h3, h4⟩
  · exact .inl h
  · exact .inr ⟨q, part, at_, n, h1, h2, h3, h4.but k (hS q h3)⟩
/-- A block that begins with a Boolean is no error's. -/
theorem ErrV.notBool {w : World} {q b : Nat} {wv : Value} {t : Bool} (h : ErrV w (faultP q) wv) (hc : w.cell? ⟨b, 0, none⟩ = some (.bool t)) : q ≠ b := by
  rintro rfl
  rcases h with ⟨_, h⟩ | ⟨q', part, at_, n, h1, h2, h3, h4⟩
  · cases h
  · unfold faultP at h3
    simp only [Value.iface.injEq, Value.pointer.injEq, Option.some.injEq, Addr.mk.injEq, and_true, true_and] at h3
    subst h3
    have c := h4.cells 0
    rw [hc] at c
    cases c
set_option maxRecDepth 100000 in
set_option maxHeartbeats 1000000 in
theorem dloadCap_bad (a : Int) (ha : In64 a) (h : DMem w m O bs ts) (hE : ErrT w) (hg : ¬ (reachB a 16 bs.length = true ∧ a % 16 = 0)) :
    Calls Tryd.prog 18 #[ptrV m, .int .i64 a] w fun e w' => Keep w w' ∧ ∃ u, e = .returned (.tuple #[zeroV, u]) ∧ ErrV w' u (granV bs.length a) := by
  obtain ⟨gb, gt, cb, ct, hr, rfl⟩ := h
  unfold ptrV
  have C := Lib.hid (fun W (k : Keep w W) => begins_any a ha W (hr.keep k) (hE.keep k))
  have hn : granV bs.length a ≠ okV := by
    unfold granV
    by_cases q1 : reachB a 16 bs.length = true
    · rw [if_pos q1, if_neg (fun q2 => hg ⟨q1, q2⟩)]
      exact fun h => absurd (okV_wrong h.symm) (by decide)
    · rw [if_neg q1]
      exact fun h => absurd (okV_wrong h.symm) (by decide)
  obtain ⟨gv, hgv⟩ : ∃ gv, gv = granV bs.length a := ⟨_, rfl⟩
  rw [← hgv] at C hn ⊢
  have HN := Lib.hid hn
  clear hr hE hg hn hgv
  unfold zeroV
  go_enter Tryd.func18, Tryd.ntmps18
  go_wp2_with fail
  refine (C.out _ ((Keep.refl _).alloc _)).mono ?_
  rintro e w1 ⟨v1, rfl, hv1, hk1⟩
  have B0 : Box w1 w.heap.size _ := (Box.new _ _ _).keep hk1
  have l0 := B0.lt
  have c0 := B0.cells
  have f0 := B0.thawed
  obtain ⟨q, rfl⟩ := hv1.fault HN.out
  have NQ := Lib.hid (hv1.notBool (b := w.heap.size) (by rw [c0]; rfl))
  have V1 := Lib.hid hv1
  have K1 := Lib.hid (((Keep.refl w).alloc _).trans hk1)
  clear hv1 hk1
  unfold faultP
  go_wp2_with fail
  refine bodyPost_ret (v := .tuple #[.agg #[.bool false, .int .u32 0, .int .u32 0, .int .u32 0, .int .u16 0, .int .u16 0], .iface 77 (.pointer (some ⟨q, 0, none⟩))]) (by simp [results, Tryd.results18, go_sem, c0, l0]) rfl ⟨?_, _, rfl, ?_⟩
  · repeat (with_reducible refine Keep.setCell ?_ (by simp) _)
    exact K1.out
  · refine V1.out.but (S := fun k => k = w.heap.size) ?_ (fun q' e => ?_)
    · repeat (with_reducible refine KeepBut.setCell (S := fun k => k = w.heap.size) ?_ (.inl rfl) _)
      exact KeepBut.refl _ _
    · unfold faultP at e
      simp only [Value.iface.injEq, Value.pointer.injEq, Option.some.injEq, Addr.mk.injEq, and_true, true_and] at e
      subst e
      exact NQ.out
set_option maxRecDepth 100000 in
set_option maxHeartbeats 2000000 in
theorem dloadCap_good (A : Nat) (hA : A + 16 ≤ bs.length) (hm : A % 16 = 0) (h : DMem w m O bs ts) (hE : ErrT w) :
    Calls Tryd.prog 18 #[ptrV m, .int .i64 A] w fun e w' => e = .returned (.tuple #[capV (ts.getD (A / 16) false) (sixteen bs A), .nilIface]) ∧ Keep w w' := by
  have hM := h.most
  have hlen := h.len
  obtain ⟨gb, gt, cb, ct, hr, rfl⟩ := h
  obtain ⟨c1, c2⟩ := hr.capb
  obtain ⟨c3, c4⟩ := hr.capt
  unfold ptrV
  have C := Lib.hid (fun W (k : Keep w W) => begins_any (A : Int) (by unfold In64; omega) W (hr.keep k) (hE.keep k))
  have e1 : granV bs.length (A : Int) = okV := by unfold granV; rw [if_pos (by simp [reachB]; omega), if_pos (by omega)]
  rw [e1] at C
  obtain ⟨z0, z1, z2, z3, z4, z5, z6, z7, z8, z9, z10, z11, z12, z13, z14, z15, hz⟩ := list16 (sixteen bs A) (by unfold sixteen; simp; omega)
  have hb8 : ∀ z ∈ sixteen bs A, 0 ≤ z ∧ z ≤ 255 := fun z hz => hr.isB z (List.mem_of_mem_drop (List.mem_of_mem_take hz))
  rw [hz] at hb8
  have HB8 := Lib.hid hb8
  have HCell : Hid (∀ W, Keep w W → ∀ j, j < 16 → W.cell? ⟨gb, A + j, none⟩ = some (.int .u8 ([z0, z1, z2, z3, z4, z5, z6, z7, z8, z9, z10, z11, z12, z13, z14, z15].getD j 0))) := Lib.hid (fun W k j hj => by
    rw [(hr.keep k).cell (by omega), ← hz]
    unfold sixteen
    simp only [List.getD_eq_getElem?_getD, List.getElem?_take, List.getElem?_drop, if_pos hj])
  obtain ⟨t, ht⟩ : ∃ t, t = ts.getD (A / 16) false := ⟨_, rfl⟩
  have HTag : Hid (∀ W, Keep w W → W.cell? ⟨gt, A / 16, none⟩ = some (.bool t)) := Lib.hid (fun W k => by rw [ht]; exact (hr.keep k).tag (by omega))
  have HBox := Lib.hid hr.box
  rw [← ht, hz]
  unfold capV
  have at0 : (0 : Int) ≤ (A : Int) / 16 := by omega
  have at1 : (A : Int) / 16 < (ts.length : Int) := by omega
  have at2 : ((A : Int) / 16).toNat = A / 16 := by omega
  have a0 : (0 : Int) ≤ (A : Int) := Int.natCast_nonneg _
  have hw : IntKind.i64.wrap ((A : Int) + 16) = (A : Int) + 16 := by rw [IntKind.wrap_i64]; omega
  obtain ⟨L, hL⟩ : ∃ L, L = bs.length := ⟨_, rfl⟩
  obtain ⟨T, hT⟩ : ∃ T, T = ts.length := ⟨_, rfl⟩
  rw [← hL, ← hT] at HBox
  rw [← hL] at hA c1
  rw [← hT] at at1 c3
  have a16 : (A : Int) + 16 ≤ (cb : Int) := by omega
  have hw2 : IntKind.i64.wrap ((A : Int) / 16) = (A : Int) / 16 := by rw [IntKind.wrap_i64]; omega
  have hs16 : A + 16 - A = 16 := by omega
  have ha16 : ((A : Int) + 16).toNat = A + 16 := by omega
  have hb16 : (0 : Int) ≤ (A : Int) + 16 := by omega
  have hc16 : ¬ cb = A := by omega
  have lp := HBox.out.lt
  have CG := Lib.hid (fun W => get_at t z0 z1 z2 z3 z4 z5 z6 z7 z8 z9 z10 z11 z12 z13 z14 z15 (HB8.out z0 (by simp)) (HB8.out z1 (by simp)) (HB8.out z2 (by simp)) (HB8.out z3 (by simp)) (HB8.out z4 (by simp)) (HB8.out z5 (by simp)) (HB8.out z6 (by simp)) (HB8.out z7 (by simp)) (HB8.out z8 (by simp)) (HB8.out z9 (by simp)) (HB8.out z10 (by simp)) (HB8.out z11 (by simp)) (HB8.out z12 (by simp)) (HB8.out z13 (by simp)) (HB8.out z14 (by simp)) (HB8.out z15 (by simp)) _ _ _ _ _ rfl rfl rfl rfl rfl W)
  clear hr hE e1 hz hb8 ht hL hT hlen hM
  go_enter Tryd.func18, Tryd.ntmps18
  go_wp2_with fail
  refine (C.out _ ((Keep.refl _).alloc _)).mono ?_
  rintro e w1 ⟨v1, rfl, hv1, hk1⟩
  obtain rfl := hv1.ok
  have B0 : Box w1 w.heap.size _ := (Box.new _ _ _).keep hk1
  have K1 := Lib.hid (((Keep.refl w).alloc _).trans hk1)
  have ne : m ≠ w.heap.size := Nat.ne_of_lt lp
  clear hv1 hk1
  go_wp2_with fail
  refine Rel.regionO (KeepBut (fun k => k = w.heap.size)) ⟨fun k => k.but _, fun h k => h.trans k⟩ [19] [0, 1, 2, 3, 4, 5, 6, 7, 8, 9, 10, 11, 12, 13, 14, 15, 16, 17, 18, 19, 20] (by kernel_rfl) (by kernel_rfl) (Keep.refl _) ?_
  repeat (apply Rel.ordK_step (by rfl) (by rfl) (by rfl)
          · intro W hW
            have KW : Keep w W := K1.out.butNew hW (by rintro x rfl; exact Nat.le_refl _)
            have c0 := (HBox.out.keep KW).cells
            have ct_ := HTag.out W KW
            have lW := (HBox.out.keep KW).lt
            have d0 : W.cell? ⟨gb, A, none⟩ = some (.int .u8 z0) := HCell.out W KW 0 (by decide)
            have d1 : W.cell? ⟨gb, A + 1, none⟩ = some (.int .u8 z1) := HCell.out W KW 1 (by decide)
            have d2 : W.cell? ⟨gb, A + 2, none⟩ = some (.int .u8 z2) := HCell.out W KW 2 (by decide)
            have d3 : W.cell? ⟨gb, A + 3, none⟩ = some (.int .u8 z3) := HCell.out W KW 3 (by decide)
            have d4 : W.cell? ⟨gb, A + 4, none⟩ = some (.int .u8 z4) := HCell.out W KW 4 (by decide)
            have d5 : W.cell? ⟨gb, A + 5, none⟩ = some (.int .u8 z5) := HCell.out W KW 5 (by decide)
            have d6 : W.cell? ⟨gb, A + 6, none⟩ = some (.int .u8 z6) := HCell.out W KW 6 (by decide)
            have d7 : W.cell? ⟨gb, A + 7, none⟩ = some (.int .u8 z7) := HCell.out W KW 7 (by decide)
            have d8 : W.cell? ⟨gb, A + 8, none⟩ = some (.int .u8 z8) := HCell.out W KW 8 (by decide)
            have d9 : W.cell? ⟨gb, A + 9, none⟩ = some (.int .u8 z9) := HCell.out W KW 9 (by decide)
            have d10 : W.cell? ⟨gb, A + 10, none⟩ = some (.int .u8 z10) := HCell.out W KW 10 (by decide)
            have d11 : W.cell? ⟨gb, A + 11, none⟩ = some (.int .u8 z11) := HCell.out W KW 11 (by decide)
            have d12 : W.cell? ⟨gb, A + 12, none⟩ = some (.int .u8 z12) := HCell.out W KW 12 (by decide)
            have d13 : W.cell? ⟨gb, A + 13, none⟩ = some (.int .u8 z13) := HCell.out W KW 13 (by decide)
            have d14 : W.cell? ⟨gb, A + 14, none⟩ = some (.int .u8 z14) := HCell.out W KW 14 (by decide)
            have d15 : W.cell? ⟨gb, A + 15, none⟩ = some (.int .u8 z15) := HCell.out W KW 15 (by decide)
            go_simp
            first
              | exact ⟨rfl, Keep.refl _⟩
              | (apply yes_enter; go_at_call 39; refine (CG.out _).mono ?_; rintro e w' ⟨rfl, hk⟩; exact ⟨rfl, hk⟩)
          go_simp)
  apply Rel.ordK_loose (by rfl) (by rfl) (by rfl)
  intro W2 hW2
  have b0 := (B0.keep hW2).cells
  have f0 := (B0.keep hW2).thawed
  have l0 := (B0.keep hW2).lt
  have BN := (((((((B0.keep hW2).set 0 (.bool t)).set 1 (.int .u32 (leW [z0, z1, z2, z3]))).set 2 (.int .u32 (leW [z4, z5, z6, z7]))).set 3 (.int .u32 (leW [z8, z9, z10, z11]))).set 4 (.int .u16 (leW [z12, z13]))).set 5 (.int .u16 (leW [z14, z15])))
  have BM : Box _ w.heap.size #[.bool t, .int .u32 (leW [z0, z1, z2, z3]), .int .u32 (leW [z4, z5, z6, z7]), .int .u32 (leW [z8, z9, z10, z11]), .int .u16 (leW [z12, z13]), .int .u16 (leW [z14, z15])] := BN
  have K2 : Keep w _ := ((((((K1.out.trans hW2).setCell (p := ⟨w.heap.size, 0, none⟩) (Nat.le_refl _) (.bool t)).setCell (p := ⟨w.heap.size, 1, none⟩) (Nat.le_refl _) (.int .u32 (leW [z0, z1, z2, z3]))).setCell (p := ⟨w.heap.size, 2, none⟩) (Nat.le_refl _) (.int .u32 (leW [z4, z5, z6, z7]))).setCell (p := ⟨w.heap.size, 3, none⟩) (Nat.le_refl _) (.int .u32 (leW [z8, z9, z10, z11]))).setCell (p := ⟨w.heap.size, 4, none⟩) (Nat.le_refl _) (.int .u16 (leW [z12, z13]))).setCell (p := ⟨w.heap.size, 5, none⟩) (Nat.le_refl _) (.int .u16 (leW [z14, z15]))
  have HB := Lib.hid BM
  have HK := Lib.hid K2
  clear BN BM K2
  go_simp
  first | apply Rel.gives_skip | apply Rel.gives_value
  refine ⟨?_, ?_⟩
  · repeat (with_reducible refine KeepBut.setCell (S := fun k => k = w.heap.size) ?_ (.inl rfl) _)
    exact KeepBut.refl _ _
  have HB' := HB.out
  have HK' := HK.out
  clear HB HK b0 f0 l0
  revert HB' HK'
  generalize ((((((W2.setCell ⟨w.heap.size, 0, none⟩ (.bool t)).setCell ⟨w.heap.size, 1, none⟩ (.int .u32 (leW [z0, z1, z2, z3]))).setCell ⟨w.heap.size, 2, none⟩ (.int .u32 (leW [z4, z5, z6, z7]))).setCell ⟨w.heap.size, 3, none⟩ (.int .u32 (leW [z8, z9, z10, z11]))).setCell ⟨w.heap.size, 4, none⟩ (.int .u16 (leW [z12, z13]))).setCell ⟨w.heap.size, 5, none⟩ (.int .u16 (leW [z14, z15]))) = W3
  intro HB' HK'
  have HB := Lib.hid HB'
  have HK := Lib.hid HK'
  clear HB' HK'
  go_simp
  apply Rel.ordK_step (by rfl) (by rfl) (by rfl)
  · intro W hW
    go_simp
    exact ⟨rfl, Keep.refl _⟩
  go_simp
  apply Rel.ordK_end
  intro W4 hW4
  have c4 := (HB.out.keep hW4).cells
  have l4 := (HB.out.keep hW4).lt
  go_wp2_with fail
  refine bodyPost_ret (v := .tuple #[.agg #[.bool t, .int .u32 (leW [z0, z1, z2, z3]), .int .u32 (leW [z4, z5, z6, z7]), .int .u32 (leW [z8, z9, z10, z11]), .int .u16 (leW [z12, z13]), .int .u16 (leW [z14, z15])], .nilIface]) (by simp [results, Tryd.results18, go_sem, c4, l4]) rfl ⟨rfl, HK.out.trans hW4⟩
theorem dloadCap_any (a : Int) (ha : In64 a) (h : DMem w m O bs ts) (hE : ErrT w) :
    Calls Tryd.prog 18 #[ptrV m, .int .i64 a] w fun e w' => Keep w w' ∧ ∃ u, e = .returned (.tuple #[lcapV bs ts a, u]) ∧ ErrV w' u (granV bs.length a) := by
  by_cases hg : reachB a 16 bs.length = true ∧ a % 16 = 0
  · obtain ⟨r0, _, r2⟩ := reachB_true hg.1
    obtain ⟨A, rfl⟩ := Int.eq_ofNat_of_zero_le r0
    refine (dloadCap_good A (by omega) (by omega) h hE).mono ?_
    rintro e w' ⟨rfl, hk⟩
    refine ⟨hk, .nilIface, ?_, ?_⟩
    · unfold lcapV
      rw [if_pos hg.1, if_pos hg.2, Int.toNat_natCast]
    · unfold granV
      rw [if_pos hg.1, if_pos hg.2]
      exact .isOk
  · have hv : lcapV bs ts a = zeroV := by
      unfold lcapV
      by_cases q1 : reachB a 16 bs.length = true
      · rw [if_pos q1, if_neg (fun q2 => hg ⟨q1, q2⟩)]
      · rw [if_neg q1]
    rw [hv]
    exact dloadCap_bad a ha h hE hg
end Go.Proofs.YtnnelghngekbpaaDoor
