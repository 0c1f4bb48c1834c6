/- DevCap, DevCapS, DevMem, Lies: LoadCap, StoreCap. -/
import Derived.Test.YtgfoohiaioojoaaDoorGDevF
import Derived.Test.YtgfoohiaioojoaaDoorPackPair
import Derived.Test.YtgfoohiaioojoaaDoorGBase
import Derived.Test.YtgfoohiaioojoaaDoorGMemC
import Derived.Laws.IdiomCopy
import Derived.Test.YtgfoohiaioojoaaDoorGDevG
import Derived.Test.YtgfoohiaioojoaaDoorGDevH
import Derived.Test.YtgfoohiaioojoaaDoorGCap
/- LoadCap, StoreCap. -/
namespace Go.Proofs.YtgfoohiaioojoaaDoor
set_option linter.unusedVariables false
set_option linter.unusedSimpArgs false
open Go.RowKit Go.Deep
variable {w : World} {m : Nat} {O : Nat → Prop} {bs : List Int} {ts : List Bool}
/-- LoadCap's capability and what is told of it. -/
def lcapV (bs : List Int) (ts : List Bool) (a : Int) : Value :=
  if reachB a 16 bs.length = true then (if a % 16 = 0 then capV (ts.getD (a.toNat / 16) false) (sixteen bs a.toNat) else zeroV) else zeroV
theorem list16 (l : List Int) (h : l.length = 16) : ∃ z0 z1 z2 z3 z4 z5 z6 z7 z8 z9 z10 z11 z12 z13 z14 z15, l = [z0, z1, z2, z3, z4, z5, z6, z7, z8, z9, z10, z11, z12, z13, z14, z15] := by
  match l, h with
  | [z0, z1, z2, z3, z4, z5, z6, z7, z8, z9, z10, z11, z12, z13, z14, z15], _ => exact ⟨_, _, _, _, _, _, _, _, _, _, _, _, _, _, _, _, rfl⟩
theorem ErrV.but {S : Nat → Prop} {w w' : World} {v wv : Value} (h : ErrV w v wv) (k : KeepBut S w w') (hS : ∀ q, v = faultP q → ¬ S q) : ErrV w' v wv := by
  rcases h with h | ⟨q, part, at_, n, h1, h2, h3, h4⟩
  · exact .inl h
  · exact .inr ⟨q, part, at_, n, h1, h2, h3, h4.but k (hS q h3)⟩
/-- A block that begins with a Boolean is no error's. -/
theorem ErrV.notBool {w : World} {q b : Nat} {wv : Value} {t : Bool} (h : ErrV w (faultP q) wv) (hc : w.cell? ⟨b, 0, none⟩ = some (.bool t)) : q ≠ b := by
  rintro rfl
  rcases h with ⟨_, h⟩ | ⟨q', part, at_, n, h1, h2, h3, h4⟩
  · cases h
  · unfold faultP at h3
    simp only [Value.iface.injEq, Value.pointer.injEq, Option.some.injEq, Addr.mk.injEq, and_true, true_and] at h3
    subst h3
    have c := h4.cells 0
    rw [hc] at c
    cases c
set_option maxRecDepth 100000 in
set_option maxHeartbeats 1000000 in
theorem dloadCap_bad (a : Int) (ha : In64 a) (h : DMem w m O bs ts) (hE : ErrT w) (hg : ¬ (reachB a 16 bs.length = true ∧ a % 16 = 0)) :
    Calls Tryd.prog 53 #[ptrV m, .int .i64 a] w fun e w' => Keep w w' ∧ ∃ u, e = .returned (.tuple #[zeroV, u]) ∧ ErrV w' u (granV bs.length a) := by
  obtain ⟨gb, gt, cb, ct, hr, rfl⟩ := h
  unfold ptrV
  have C := Lib.hid (fun W (k : Keep w W) => begins_any a ha W (hr.keep k) (hE.keep k))
  have hn : granV bs.length a ≠ okV := by
    unfold granV
    by_cases q1 : reachB a 16 bs.length = true
    · rw [if_pos q1, if_neg (fun q2 => hg ⟨q1, q2⟩)]
      exact fun h => absurd (okV_wrong h.symm) (by decide)
    · rw [if_neg q1]
      exact fun h => absurd (okV_wrong h.symm) (by decide)
  obtain ⟨gv, hgv⟩ : ∃ gv, gv = granV bs.length a := ⟨_, rfl⟩
  rw [← hgv] at C hn ⊢
  have HN := Lib.hid hn
  clear hr hE hg hn hgv
  unfold zeroV
  go_enter Tryd.func53, Tryd.ntmps53
  go_wp2_with fail
  refine (C.out _ ((Keep.refl _).alloc _)).mono ?_
  rintro e w1 ⟨v1, rfl, hv1, hk1⟩
  have B0 : Box w1 w.heap.size _ := (Box.new _ _ _).keep hk1
  have l0 := B0.lt
  have c0 := B0.cells
  have f0 := B0.thawed
  obtain ⟨q, rfl⟩ := hv1.fault HN.out
  have NQ := Lib.hid (hv1.notBool (b := w.heap.size) (by rw [c0]; rfl))
  have V1 := Lib.hid hv1
  have K1 := Lib.hid (((Keep.refl w).alloc _).trans hk1)
  clear hv1 hk1
  unfold faultP
  go_wp2_with fail
  refine bodyPost_ret (v := .tuple #[.agg #[.bool false, .int .u32 0, .int .u32 0, .int .u32 0, .int .u16 0, .int .u16 0], .iface 74 (.pointer (some ⟨q, 0, none⟩))]) (by simp [results, Tryd.results53, go_sem, c0, l0]) rfl ⟨?_, _, rfl, ?_⟩
  · repeat (with_reducible refine Keep.setCell ?_ (by simp) _)
    exact K1.out
  · refine V1.out.but (S := fun k => k = w.heap.size) ?_ (fun q' e => ?_)
    · repeat (with_reducible refine KeepBut.setCell (S := fun k => k = w.heap.size) ?_ (.inl rfl) _)
      exact KeepBut.refl _ _
    · unfold faultP at e
      simp only [Value.iface.injEq, Value.pointer.injEq, Option.some.injEq, Addr.mk.injEq, and_true, true_and] at e
      subst e
      exact NQ.out
set_option maxRecDepth 100000 in
set_option maxHeartbeats 2000000 in
theorem dloadCap_good (A : Nat) (hA : A + 16 ≤ bs.length) (hm : A % 16 = 0) (h : DMem w m O bs ts) (hE : ErrT w) :
    Calls Tryd.prog 53 #[ptrV m, .int .i64 A] w fun e w' => e = .returned (.tuple #[capV (ts.getD (A / 16) false) (sixteen bs A), .nilIface]) ∧ Keep w w' := by
  have hM := h.most
  have hlen := h.len
  obtain ⟨gb, gt, cb, ct, hr, rfl⟩ := h
  obtain ⟨c1, c2⟩ := hr.capb
  obtain ⟨c3, c4⟩ := hr.capt
  unfold ptrV
  have C := Lib.hid (fun W (k : Keep w W) => begins_any (A : Int) (by unfold In64; omega) W (hr.keep k) (hE.keep k))
  have e1 : granV bs.length (A : Int) = okV := by unfold granV; rw [if_pos (by simp [reachB]; omega), if_pos (by omega)]
  rw [e1] at C
  obtain ⟨z0, z1, z2, z3, z4, z5, z6, z7, z8, z9, z10, z11, z12, z13, z14, z15, hz⟩ := list16 (sixteen bs A) (by unfold sixteen; simp; omega)
  have hb8 : ∀ z ∈ sixteen bs A, 0 ≤ z ∧ z ≤ 255 := fun z hz => hr.isB z (List.mem_of_mem_drop (List.mem_of_mem_take hz))
  rw [hz] at hb8
  have HB8 := Lib.hid hb8
  have HCell : Hid (∀ W, Keep w W → ∀ j, j < 16 → W.cell? ⟨gb, A + j, none⟩ = some (.int .u8 ([z0, z1, z2, z3, z4, z5, z6, z7, z8, z9, z10, z11, z12, z13, z14, z15].getD j 0))) := Lib.hid (fun W k j hj => by
    rw [(hr.keep k).cell (by omega), ← hz]
    unfold sixteen
    simp only [List.getD_eq_getElem?_getD, List.getElem?_take, List.getElem?_drop, if_pos hj])
  obtain ⟨t, ht⟩ : ∃ t, t = ts.getD (A / 16) false := ⟨_, rfl⟩
  have HTag : Hid (∀ W, Keep w W → W.cell? ⟨gt, A / 16, none⟩ = some (.bool t)) := Lib.hid (fun W k => by rw [ht]; exact (hr.keep k).tag (by omega))
  have HBox := Lib.hid hr.box
  rw [← ht, hz]
  unfold capV
  have at0 : (0 : Int) ≤ (A : Int) / 16 := by omega
  have at1 : (A : Int) / 16 < (ts.length : Int) := by omega
  have at2 : ((A : Int) / 16).toNat = A / 16 := by omega
  have a0 : (0 : Int) ≤ (A : Int) := Int.natCast_nonneg _
  have hw : IntKind.i64.wrap ((A : Int) + 16) = (A : Int) + 16 := by rw [IntKind.wrap_i64]; omega
  obtain ⟨L, hL⟩ : ∃ L, L = bs.length := ⟨_, rfl⟩
  obtain ⟨T, hT⟩ : ∃ T, T = ts.length := ⟨_, rfl⟩
  rw [← hL, ← hT] at HBox
  rw [← hL] at hA c1
  rw [← hT] at at1 c3
  have a16 : (A : Int) + 16 ≤ (cb : Int) := by omega
  have hw2 : IntKind.i64.wrap ((A : Int) / 16) = (A : Int) / 16 := by rw [IntKind.wrap_i64]; omega
  have hs16 : A + 16 - A = 16 := by omega
  have ha16 : ((A : Int) + 16).toNat = A + 16 := by omega
  have hb16 : (0 : Int) ≤ (A : Int) + 16 := by omega
  have hc16 : ¬ cb = A := by omega
  have lp := HBox.out.lt
  have CG := Lib.hid (fun W => get_at t z0 z1 z2 z3 z4 z5 z6 z7 z8 z9 z10 z11 z12 z13 z14 z15 (HB8.out z0 (by simp)) (HB8.out z1 (by simp)) (HB8.out z2 (by simp)) (HB8.out z3 (by simp)) (HB8.out z4 (by simp)) (HB8.out z5 (by simp)) (HB8.out z6 (by simp)) (HB8.out z7 (by simp)) (HB8.out z8 (by simp)) (HB8.out z9 (by simp)) (HB8.out z10 (by simp)) (HB8.out z11 (by simp)) (HB8.out z12 (by simp)) (HB8.out z13 (by simp)) (HB8.out z14 (by simp)) (HB8.out z15 (by simp)) _ _ _ _ _ rfl rfl rfl rfl rfl W)
  clear hr hE e1 hz hb8 ht hL hT hlen hM
  go_enter Tryd.func53, Tryd.ntmps53
  go_wp2_with fail
  refine (C.out _ ((Keep.refl _).alloc _)).mono ?_
  rintro e w1 ⟨v1, rfl, hv1, hk1⟩
  obtain rfl := hv1.ok
  have B0 : Box w1 w.heap.size _ := (Box.new _ _ _).keep hk1
  have K1 := Lib.hid (((Keep.refl w).alloc _).trans hk1)
  have ne : m ≠ w.heap.size := Nat.ne_of_lt lp
  clear hv1 hk1
  go_wp2_with fail
  refine Rel.regionO (KeepBut (fun k => k = w.heap.size)) ⟨fun k => k.but _, fun h k => h.trans k⟩ [19] [0, 1, 2, 3, 4, 5, 6, 7, 8, 9, 10, 11, 12, 13, 14, 15, 16, 17, 18, 19, 20] (by kernel_rfl) (by kernel_rfl) (Keep.refl _) ?_
  repeat (apply Rel.ordK_step (by rfl) (by rfl) (by rfl)
          · intro W hW
            have KW : Keep w W := K1.out.butNew hW (by rintro x rfl; exact Nat.le_refl _)
            have c0 := (HBox.out.keep KW).cells
            have ct_ := HTag.out W KW
            have lW := (HBox.out.keep KW).lt
            have d0 : W.cell? ⟨gb, A, none⟩ = some (.int .u8 z0) := HCell.out W KW 0 (by decide)
            have d1 : W.cell? ⟨gb, A + 1, none⟩ = some (.int .u8 z1) := HCell.out W KW 1 (by decide)
            have d2 : W.cell? ⟨gb, A + 2, none⟩ = some (.int .u8 z2) := HCell.out W KW 2 (by decide)
            have d3 : W.cell? ⟨gb, A + 3, none⟩ = some (.int .u8 z3) := HCell.out W KW 3 (by decide)
            have d4 : W.cell? ⟨gb, A + 4, none⟩ = some (.int .u8 z4) := HCell.out W KW 4 (by decide)
            have d5 : W.cell? ⟨gb, A + 5, none⟩ = some (.int .u8 z5) := HCell.out W KW 5 (by decide)
            have d6 : W.cell? ⟨gb, A + 6, none⟩ = some (.int .u8 z6) := HCell.out W KW 6 (by decide)
            have d7 : W.cell? ⟨gb, A + 7, none⟩ = some (.int .u8 z7) := HCell.out W KW 7 (by decide)
            have d8 : W.cell? ⟨gb, A + 8, none⟩ = some (.int .u8 z8) := HCell.out W KW 8 (by decide)
            have d9 : W.cell? ⟨gb, A + 9, none⟩ = some (.int .u8 z9) := HCell.out W KW 9 (by decide)
            have d10 : W.cell? ⟨gb, A + 10, none⟩ = some (.int .u8 z10) := HCell.out W KW 10 (by decide)
            have d11 : W.cell? ⟨gb, A + 11, none⟩ = some (.int .u8 z11) := HCell.out W KW 11 (by decide)
            have d12 : W.cell? ⟨gb, A + 12, none⟩ = some (.int .u8 z12) := HCell.out W KW 12 (by decide)
            have d13 : W.cell? ⟨gb, A + 13, none⟩ = some (.int .u8 z13) := HCell.out W KW 13 (by decide)
            have d14 : W.cell? ⟨gb, A + 14, none⟩ = some (.int .u8 z14) := HCell.out W KW 14 (by decide)
            have d15 : W.cell? ⟨gb, A + 15, none⟩ = some (.int .u8 z15) := HCell.out W KW 15 (by decide)
            go_simp
            first
              | exact ⟨rfl, Keep.refl _⟩
              | (apply yes_enter; go_at_call 81; refine (CG.out _).mono ?_; rintro e w' ⟨rfl, hk⟩; exact ⟨rfl, hk⟩)
          go_simp)
  apply Rel.ordK_loose (by rfl) (by rfl) (by rfl)
  intro W2 hW2
  have b0 := (B0.keep hW2).cells
  have f0 := (B0.keep hW2).thawed
  have l0 := (B0.keep hW2).lt
  have BN := (((((((B0.keep hW2).set 0 (.bool t)).set 1 (.int .u32 (leW [z0, z1, z2, z3]))).set 2 (.int .u32 (leW [z4, z5, z6, z7]))).set 3 (.int .u32 (leW [z8, z9, z10, z11]))).set 4 (.int .u16 (leW [z12, z13]))).set 5 (.int .u16 (leW [z14, z15])))
  have BM : Box _ w.heap.size #[.bool t, .int .u32 (leW [z0, z1, z2, z3]), .int .u32 (leW [z4, z5, z6, z7]), .int .u32 (leW [z8, z9, z10, z11]), .int .u16 (leW [z12, z13]), .int .u16 (leW [z14, z15])] := BN
  have K2 : Keep w _ := ((((((K1.out.trans hW2).setCell (p := ⟨w.heap.size, 0, none⟩) (Nat.le_refl _) (.bool t)).setCell (p := ⟨w.heap.size, 1, none⟩) (Nat.le_refl _) (.int .u32 (leW [z0, z1, z2, z3]))).setCell (p := ⟨w.heap.size, 2, none⟩) (Nat.le_refl _) (.int .u32 (leW [z4, z5, z6, z7]))).setCell (p := ⟨w.heap.size, 3, none⟩) (Nat.le_refl _) (.int .u32 (leW [z8, z9, z10, z11]))).setCell (p := ⟨w.heap.size, 4, none⟩) (Nat.le_refl _) (.int .u16 (leW [z12, z13]))).setCell (p := ⟨w.heap.size, 5, none⟩) (Nat.le_refl _) (.int .u16 (leW [z14, z15]))
  have HB := Lib.hid BM
  have HK := Lib.hid K2
  clear BN BM K2
  go_simp
  first | apply Rel.gives_skip | apply Rel.gives_value
  refine ⟨?_, ?_⟩
  · repeat (with_reducible refine KeepBut.setCell (S := fun k => k = w.heap.size) ?_ (.inl rfl) _)
    exact KeepBut.refl _ _
  have HB' := HB.out
  have HK' := HK.out
  clear HB HK b0 f0 l0
  revert HB' HK'
  generalize ((((((W2.setCell ⟨w.heap.size, 0, none⟩ (.bool t)).setCell ⟨w.heap.size, 1, none⟩ (.int .u32 (leW [z0, z1, z2, z3]))).setCell ⟨w.heap.size, 2, none⟩ (.int .u32 (leW [z4, z5, z6, z7]))).setCell ⟨w.heap.size, 3, none⟩ (.int .u32 (leW [z8, z9, z10, z11]))).setCell ⟨w.heap.size, 4, none⟩ (.int .u16 (leW [z12, z13]))).setCell ⟨w.heap.size, 5, none⟩ (.int .u16 (leW [z14, z15]))) = W3
  intro HB' HK'
  have HB := Lib.hid HB'
  have HK := Lib.hid HK'
  clear HB' HK'
  go_simp
  apply Rel.ordK_step (by rfl) (by rfl) (by rfl)
  · intro W hW
    go_simp
    exact ⟨rfl, Keep.refl _⟩
  go_simp
  apply Rel.ordK_end
  intro W4 hW4
  have c4 := (HB.out.keep hW4).cells
  have l4 := (HB.out.keep hW4).lt
  go_wp2_with fail
  refine bodyPost_ret (v := .tuple #[.agg #[.bool t, .int .u32 (leW [z0, z1, z2, z3]), .int .u32 (leW [z4, z5, z6, z7]), .int .u32 (leW [z8, z9, z10, z11]), .int .u16 (leW [z12, z13]), .int .u16 (leW [z14, z15])], .nilIface]) (by simp [results, Tryd.results53, go_sem, c4, l4]) rfl ⟨rfl, HK.out.trans hW4⟩
theorem dloadCap_any (a : Int) (ha : In64 a) (h : DMem w m O bs ts) (hE : ErrT w) :
    Calls Tryd.prog 53 #[ptrV m, .int .i64 a] w fun e w' => Keep w w' ∧ ∃ u, e = .returned (.tuple #[lcapV bs ts a, u]) ∧ ErrV w' u (granV bs.length a) := by
  by_cases hg : reachB a 16 bs.length = true ∧ a % 16 = 0
  · obtain ⟨r0, _, r2⟩ := reachB_true hg.1
    obtain ⟨A, rfl⟩ := Int.eq_ofNat_of_zero_le r0
    refine (dloadCap_good A (by omega) (by omega) h hE).mono ?_
    rintro e w' ⟨rfl, hk⟩
    refine ⟨hk, .nilIface, ?_, ?_⟩
    · unfold lcapV
      rw [if_pos hg.1, if_pos hg.2, Int.toNat_natCast]
    · unfold granV
      rw [if_pos hg.1, if_pos hg.2]
      exact .isOk
  · have hv : lcapV bs ts a = zeroV := by
      unfold lcapV
      by_cases q1 : reachB a 16 bs.length = true
      · rw [if_pos q1, if_neg (fun q2 => hg ⟨q1, q2⟩)]
      · rw [if_neg q1]
    rw [hv]
    exact dloadCap_bad a ha h hE hg
end Go.Proofs.YtgfoohiaioojoaaDoor

/- StoreCap. -/
namespace Go.Proofs.YtgfoohiaioojoaaDoor
set_option linter.unusedVariables false
set_option linter.unusedSimpArgs false
open Go.RowKit Go.Deep
variable {w : World} {m : Nat} {O : Nat → Prop} {bs : List Int} {ts : List Bool}
/-- Bytes copied. -/
theorem DM.setbs {p gb gt cb ct : Nat} {ts : List Bool} (xs : List Int) : ∀ (bs : List Int) (A : Nat) (w : World), (∀ z ∈ xs, IsByte z) → A + xs.length ≤ bs.length → DM w p gb gt cb ct bs ts → DM (w.setCells gb A (xs.map (Value.int .u8))) p gb gt cb ct (putAt bs A xs) ts := by
  induction xs with
  | nil => intro bs A w _ _ h; exact h
  | cons x xs ih =>
    intro bs A w hx hl h
    simp only [List.length_cons] at hl
    exact ih (bs.set A x) (A + 1) _ (fun z hz => hx z (by simp [hz])) (by rw [List.length_set]; omega) (h.setb A x (hx x (by simp)) (by omega))
theorem KeepBut.setCells {S : Nat → Prop} {b : Nat} (hb : S b) (vs : List Value) : ∀ (A : Nat) (w w' : World), KeepBut S w w' → KeepBut S w (w'.setCells b A vs) := by
  induction vs with
  | nil => intro A w w' h; exact h
  | cons v vs ih => intro A w w' h; exact ih (A + 1) w _ (h.setCell (.inl hb) v)
theorem Box.setCells {b c : Nat} {us : Array Value} (hb : c ≠ b) (vs : List Value) : ∀ (A : Nat) (w : World), Box w c us → Box (w.setCells b A vs) c us := by
  induction vs with
  | nil => intro A w h; exact h
  | cons v vs ih => intro A w h; exact ih (A + 1) _ (h.other hb v)
set_option maxRecDepth 100000 in
set_option maxHeartbeats 1000000 in
theorem dstoreCap_bad (a : Int) (ha : In64 a) (t : Bool) (b' p' a' m' y' : Int) (h : DMem w m O bs ts) (hE : ErrT w) (hg : ¬ (reachB a 16 bs.length = true ∧ a % 16 = 0)) :
    Calls Tryd.prog 41 #[ptrV m, .int .i64 a, .agg #[.bool t, .int .u32 b', .int .u32 p', .int .u32 a', .int .u16 m', .int .u16 y']] w fun e w' => ∃ u, e = .returned u ∧ ErrV w' u (granV bs.length a) ∧ Keep w w' := by
  obtain ⟨gb, gt, cb, ct, hr, rfl⟩ := h
  unfold ptrV
  have C := Lib.hid (fun W (k : Keep w W) => begins_any a ha W (hr.keep k) (hE.keep k))
  have hn : granV bs.length a ≠ okV := by
    unfold granV
    by_cases q1 : reachB a 16 bs.length = true
    · rw [if_pos q1, if_neg (fun q2 => hg ⟨q1, q2⟩)]
      exact fun h => absurd (okV_wrong h.symm) (by decide)
    · rw [if_neg q1]
      exact fun h => absurd (okV_wrong h.symm) (by decide)
  obtain ⟨gv, hgv⟩ : ∃ gv, gv = granV bs.length a := ⟨_, rfl⟩
  rw [← hgv] at C hn ⊢
  have HN := Lib.hid hn
  clear hr hE hg hn hgv
  go_enter Tryd.func41, Tryd.ntmps41
  go_wp2_with fail
  refine (C.out _ ((Keep.refl _).alloc _)).mono ?_
  rintro e w1 ⟨v1, rfl, hv1, hk1⟩
  obtain ⟨q, rfl⟩ := hv1.fault HN.out
  have V1 := Lib.hid hv1
  have K1 := Lib.hid (((Keep.refl w).alloc _).trans hk1)
  clear hv1 hk1
  unfold faultP
  go_wp2_with fail
  go_ret
  exact ⟨_, rfl, V1.out, K1.out⟩
set_option maxRecDepth 100000 in
set_option maxHeartbeats 4000000 in
theorem dstoreCap_good (A : Nat) (hA : A + 16 ≤ bs.length) (hm : A % 16 = 0) (t : Bool) (b' p' a' m' y' : Int) (hb : 0 ≤ b' ∧ b' ≤ 4294967295) (hp : 0 ≤ p' ∧ p' ≤ 4294967295) (haa : 0 ≤ a' ∧ a' ≤ 4294967295) (hmm : 0 ≤ m' ∧ m' ≤ 65535) (hy : 0 ≤ y' ∧ y' ≤ 65535) (h : DMem w m O bs ts) (hE : ErrT w) :
    Calls Tryd.prog 41 #[ptrV m, .int .i64 A, .agg #[.bool t, .int .u32 b', .int .u32 p', .int .u32 a', .int .u16 m', .int .u16 y']] w fun e w' => e = .returned .nilIface ∧ DMem w' m O (putAt bs A (putL b' p' a' m' y')) (ts.set (A / 16) t) ∧ KeepBut O w w' := by
  have hM := h.most
  have hlen := h.len
  obtain ⟨gb, gt, cb, ct, hr, rfl⟩ := h
  obtain ⟨c1, c2⟩ := hr.capb
  obtain ⟨c3, c4⟩ := hr.capt
  unfold ptrV
  have C := Lib.hid (fun W (k : Keep w W) => begins_any (A : Int) (by unfold In64; omega) W (hr.keep k) (hE.keep k))
  have e1 : granV bs.length (A : Int) = okV := by unfold granV; rw [if_pos (by simp [reachB]; omega), if_pos (by omega)]
  rw [e1] at C
  obtain ⟨z0, z1, z2, z3, z4, z5, z6, z7, z8, z9, z10, z11, z12, z13, z14, z15, hz⟩ := list16 (putL b' p' a' m' y') (putL_length _ _ _ _ _)
  have HZB : Hid (∀ z ∈ putL b' p' a' m' y', IsByte z) := Lib.hid (putL_bytes b' p' a' m' y')
  have HP := Lib.hid (fun W => put_at t b' p' a' m' y' z0 z1 z2 z3 z4 z5 z6 z7 z8 z9 z10 z11 z12 z13 z14 z15 hb hp haa hmm hy hz W)
  rw [hz] at HZB ⊢
  have at0 : (0 : Int) ≤ (A : Int) / 16 := by omega
  have at1 : (A : Int) / 16 < (ts.length : Int) := by omega
  have at2 : ((A : Int) / 16).toNat = A / 16 := by omega
  have a0 : (0 : Int) ≤ (A : Int) := Int.natCast_nonneg _
  have hw2 : IntKind.i64.wrap ((A : Int) / 16) = (A : Int) / 16 := by rw [IntKind.wrap_i64]; omega
  have hc16 : ¬ cb = A := by omega
  have hLA : A ≤ bs.length := by omega
  have HL : Hid (A / 16 < ts.length) := Lib.hid (by omega)
  obtain ⟨L, hL⟩ : ∃ L, L = bs.length := ⟨_, rfl⟩
  obtain ⟨T, hT⟩ : ∃ T, T = ts.length := ⟨_, rfl⟩
  have HBX := hr.box
  have npb := hr.pb
  have npt := hr.pt
  rw [← hL, ← hT] at HBX
  rw [← hL] at hLA hA
  rw [← hT] at at1
  have HLe := Lib.hid hL
  have HTe := Lib.hid hT
  have HBX := Lib.hid HBX
  have NP : Hid (m ≠ gb ∧ m ≠ gt) := Lib.hid ⟨npb, npt⟩
  have HA16 := Lib.hid hA
  have HD := Lib.hid hr
  have lp := hr.box.lt
  have lb := hr.ltb
  have lt_ := hr.ltt
  clear hr hE e1 hz hL hT npb npt hlen hM hb hp haa hmm hy hm hA
  go_enter Tryd.func41, Tryd.ntmps41
  go_wp2_with fail
  refine (C.out _ ((Keep.refl _).alloc _)).mono ?_
  rintro e w1 ⟨v1, rfl, hv1, hk1⟩
  obtain rfl := hv1.ok
  have B0 : Box w1 w.heap.size _ := (Box.new _ _ _).keep hk1
  have b0 := B0.cells
  have l0 := B0.lt
  have K1 := Lib.hid (((Keep.refl w).alloc _).trans hk1)
  clear hv1 hk1
  go_wp2_with fail
  refine (HP.out _).mono ?_
  rintro e w2 ⟨rfl, hk2⟩
  have B2 := B0.keep hk2
  have K2 := Lib.hid (K1.out.trans hk2)
  have s2 := K2.out.size
  clear hk2 K1 b0 l0 B0
  go_wp2_with fail
  have W5e : ∃ W5, W5 = w2.alloc (.cells #[.int .u8 z0, .int .u8 z1, .int .u8 z2, .int .u8 z3, .int .u8 z4, .int .u8 z5, .int .u8 z6, .int .u8 z7, .int .u8 z8, .int .u8 z9, .int .u8 z10, .int .u8 z11, .int .u8 z12, .int .u8 z13, .int .u8 z14, .int .u8 z15] 137) := ⟨_, rfl⟩
  obtain ⟨W5, hW5⟩ := W5e
  rw [← hW5]
  have B8 : Box W5 w2.heap.size #[.int .u8 z0, .int .u8 z1, .int .u8 z2, .int .u8 z3, .int .u8 z4, .int .u8 z5, .int .u8 z6, .int .u8 z7, .int .u8 z8, .int .u8 z9, .int .u8 z10, .int .u8 z11, .int .u8 z12, .int .u8 z13, .int .u8 z14, .int .u8 z15] := by rw [hW5]; exact Box.new _ _ _
  have B5 : Box W5 w.heap.size #[.bool t, .int .u32 b', .int .u32 p', .int .u32 a', .int .u16 m', .int .u16 y'] := by rw [hW5]; exact B2.alloc _
  have K5 : Keep w W5 := by rw [hW5]; exact K2.out.alloc _
  have D5 := HD.out.keep K5
  have X5 := HBX.out.keep K5
  have B8 := Lib.hid B8
  have B5 := Lib.hid B5
  have K5 := Lib.hid K5
  have D5 := Lib.hid D5
  have X5 := Lib.hid X5
  clear hW5 B2 K2
  have HCP : Hid (∀ W ty, Keep W5 W → (Builtin.copy_ #[37, 37] ty #[.slice (some ⟨gb, A, none⟩) (L - A) (cb - A), .slice (some ⟨w2.heap.size, 0, none⟩) 16 16]).run Tryd.prog W = .ok (.int .i64 16) (W.setCells gb A ([z0, z1, z2, z3, z4, z5, z6, z7, z8, z9, z10, z11, z12, z13, z14, z15].map (Value.int .u8)))) := Lib.hid (fun W ty hk => by
    refine run_copy_cells W 37 37 ty 5 gb A (L - A) (cb - A) ⟨w2.heap.size, 0, none⟩ 16 16 ([z0, z1, z2, z3, z4, z5, z6, z7, z8, z9, z10, z11, z12, z13, z14, z15].map (Value.int .u8)) Tryd.underlying37 (by kernel_rfl) (by have := HA16.out; exact (Nat.min_eq_left (show 16 ≤ L - A by omega)).symm) ?_ ?_ ?_ ?_
    · intro j v hj
      rw [Addr.add_lit, Nat.zero_add, (B8.out.keep hk).cells]
      rw [← hj]
      simp
    · intro j hj
      have hj16 : j < 16 := hj
      rw [(D5.out.keep hk).cell (by rw [← HLe.out]; have := HA16.out; omega)]
      rfl
    · intro j hj
      exact (D5.out.keep hk).thawb _
    · intro u hu
      obtain ⟨z, _, rfl⟩ := List.mem_map.1 hu
      rfl)
  refine Rel.regionO (KeepBut (ownsM gb gt)) ⟨fun k => k.but _, fun h k => h.trans k⟩ [7] [0, 1, 2, 3, 4, 5, 6, 7] (by kernel_rfl) (by kernel_rfl) (Keep.refl _) ?_
  repeat (apply Rel.ordK_step (by rfl) (by rfl) (by rfl)
          · intro W hW
            have XW := X5.out.but hW (fun h => h.elim NP.out.1 NP.out.2)
            have c0 := XW.cells
            have lW := XW.lt
            go_simp
            exact ⟨rfl, Keep.refl _⟩
          go_simp)
  apply Rel.ordK_loose (by rfl) (by rfl) (by rfl)
  intro W6 hW6
  have hcp := fun ty => HCP.out W6 ty hW6
  go_simp
  apply Rel.gives_value
  have KW : KeepBut (ownsM gb gt) W6 (W6.setCells gb A ([z0, z1, z2, z3, z4, z5, z6, z7, z8, z9, z10, z11, z12, z13, z14, z15].map (Value.int .u8))) := KeepBut.setCells (.inl rfl) _ _ _ _ (KeepBut.refl _ _)
  have D7 : DM (W6.setCells gb A ([z0, z1, z2, z3, z4, z5, z6, z7, z8, z9, z10, z11, z12, z13, z14, z15].map (Value.int .u8))) m gb gt cb ct (putAt bs A [z0, z1, z2, z3, z4, z5, z6, z7, z8, z9, z10, z11, z12, z13, z14, z15]) ts := DM.setbs _ _ _ _ HZB.out (by rw [← HLe.out]; exact HA16.out) (D5.out.keep hW6)
  have K7 := (((K5.out.trans hW6).but (ownsM gb gt)).trans KW)
  have N0 : ¬ ownsM gb gt w.heap.size := by rintro (h | h) <;> omega
  have B7 := (B5.out.keep hW6).but KW N0
  have X7 := (X5.out.keep hW6).but KW (fun h => h.elim NP.out.1 NP.out.2)
  refine ⟨KW, ?_⟩
  clear KW hcp HCP
  simp only [List.map_cons, List.map_nil] at D7 K7 B7 X7
  revert D7 K7 B7 X7
  generalize (W6.setCells gb A [.int .u8 z0, .int .u8 z1, .int .u8 z2, .int .u8 z3, .int .u8 z4, .int .u8 z5, .int .u8 z6, .int .u8 z7, .int .u8 z8, .int .u8 z9, .int .u8 z10, .int .u8 z11, .int .u8 z12, .int .u8 z13, .int .u8 z14, .int .u8 z15]) = W7
  intro D7 K7 B7 X7
  have D7 := Lib.hid D7
  have K7 := Lib.hid K7
  have B7 := Lib.hid B7
  have X7 := Lib.hid X7
  have N0 := Lib.hid N0
  clear hW6 D5 K5 B5 X5
  go_simp
  apply Rel.ordK_end
  intro W8 hW8
  have D8 := Lib.hid (D7.out.keep hW8)
  have K8 := Lib.hid (K7.out.trans (hW8.but _))
  have B8' := Lib.hid (B7.out.keep hW8)
  have X8 := Lib.hid (X7.out.keep hW8)
  clear hW8 D7 K7 B7 X7
  go_wp2_with fail
  refine Rel.regionO (KeepBut (ownsM gb gt)) ⟨fun k => k.but _, fun h k => h.trans k⟩ [9] [0, 1, 2, 3, 4, 5, 6, 7, 8, 9] (by kernel_rfl) (by kernel_rfl) (Keep.refl _) ?_
  repeat (apply Rel.ordK_step (by rfl) (by rfl) (by rfl)
          · intro W hW
            have XW := X8.out.but hW (fun h => h.elim NP.out.1 NP.out.2)
            have c0 := XW.cells
            have lW := XW.lt
            have BW := B8'.out.but hW N0.out
            have c1 := BW.cells
            have lB := BW.lt
            go_simp
            exact ⟨rfl, Keep.refl _⟩
          go_simp)
  apply Rel.ordK_loose (by rfl) (by rfl) (by rfl)
  intro W9 hW9
  have g2 := (D8.out.keep hW9).tag HL.out
  have gg := (D8.out.keep hW9).thawt
  go_simp
  first | apply Rel.gives_skip | apply Rel.gives_value
  have D10 := (D8.out.keep hW9).sett (A / 16) t HL.out
  refine ⟨(KeepBut.refl _ _).setCell (.inl (.inr rfl)) _, ?_⟩
  have K10 := (K8.out.trans (hW9.but _)).setCell (p := ⟨gt, A / 16, none⟩) (.inl (.inr rfl)) (.bool t)
  have D10 := Lib.hid D10
  have K10 := Lib.hid K10
  clear g2 gg hW9 D8 K8 B8' X8
  go_simp
  apply Rel.ordK_end
  intro W11 hW11
  go_wp2_with fail
  go_ret
  exact ⟨rfl, ⟨gb, gt, cb, ct, D10.out.keep hW11, rfl⟩, (K10.out.trans (hW11.but _)).mono (fun k _ hk => hk.elim (fun h => .inr (.inl h)) (fun h => .inr (.inr h)))⟩
theorem dstoreCap_any (a : Int) (ha : In64 a) (t : Bool) (b' p' a' m' y' : Int) (hb : 0 ≤ b' ∧ b' ≤ 4294967295) (hp : 0 ≤ p' ∧ p' ≤ 4294967295) (haa : 0 ≤ a' ∧ a' ≤ 4294967295) (hmm : 0 ≤ m' ∧ m' ≤ 65535) (hy : 0 ≤ y' ∧ y' ≤ 65535) (h : DMem w m O bs ts) (hE : ErrT w) :
    Calls Tryd.prog 41 #[ptrV m, .int .i64 a, .agg #[.bool t, .int .u32 b', .int .u32 p', .int .u32 a', .int .u16 m', .int .u16 y']] w fun e w' => ∃ u, e = .returned u ∧
      ((¬ (reachB a 16 bs.length = true ∧ a % 16 = 0) ∧ ErrV w' u (granV bs.length a) ∧ Keep w w') ∨
       ((reachB a 16 bs.length = true ∧ a % 16 = 0) ∧ u = .nilIface ∧ DMem w' m O (putAt bs a.toNat (putL b' p' a' m' y')) (ts.set (a.toNat / 16) t) ∧ KeepBut O w w')) := by
  by_cases hg : reachB a 16 bs.length = true ∧ a % 16 = 0
  · obtain ⟨r0, _, r2⟩ := reachB_true hg.1
    obtain ⟨A, rfl⟩ := Int.eq_ofNat_of_zero_le r0
    refine (dstoreCap_good A (by omega) (by omega) t b' p' a' m' y' hb hp haa hmm hy h hE).mono ?_
    rintro e w' ⟨rfl, h1, h2⟩
    exact ⟨_, rfl, .inr ⟨hg, rfl, h1, h2⟩⟩
  · refine (dstoreCap_bad a ha t b' p' a' m' y' h hE hg).mono ?_
    rintro e w' ⟨u, rfl, h1, h2⟩
    exact ⟨_, rfl, .inl ⟨hg, h1, h2⟩⟩
end Go.Proofs.YtgfoohiaioojoaaDoor

/- Package mem, by its contracts: gathered. -/
namespace Go.Proofs.YtgfoohiaioojoaaDoor
set_option linter.unusedVariables false
set_option linter.unusedSimpArgs false
end Go.Proofs.YtgfoohiaioojoaaDoor

/- Bytes that lie there, of a memory made since; a Store that lies within. -/
namespace Go.Proofs.YtgfoohiaioojoaaDoor
set_option linter.unusedVariables false
set_option linter.unusedSimpArgs false
open Go.RowKit
theorem dec_or (P : Prop) [Decidable P] : (decide P = true ∧ P) ∨ (decide P = false ∧ ¬ P) := by
  by_cases h : P
  · exact .inl ⟨decide_eq_true h, h⟩
  · exact .inr ⟨decide_eq_false h, h⟩
/-- An argument's bytes, of a memory made since. -/
theorem Lies.apart {W w : World} {v : Value} {xs : List Int} {O : Nat → Prop} (h : Lies W v xs (fun _ => False)) (k : Keep W w) (hO : ∀ z, O z → W.heap.size ≤ z) : Lies w v xs O := by
  obtain ⟨ad, cs, h1, h2, h3, h4⟩ := h
  refine ⟨ad, cs, h1, h2, h3, fun j hj => ?_⟩
  obtain ⟨b, off, e, _, hl, hc⟩ := h4 j hj
  exact ⟨b, off, e, fun ho => by have := hO b ho; omega, Nat.lt_of_lt_of_le hl k.size, k.cellOf hc⟩
/-- A Store that lies within: it goes. -/
theorem dstore_in {w : World} {m : Nat} {O : Nat → Prop} {bs : List Int} {ts : List Bool} (a : Int) (ad : Option Addr) (X cs : Nat) (xs : List Int) (hX : X = xs.length) (h0 : 0 ≤ a) (h1 : a + X ≤ bs.length) (hx : ∀ z ∈ xs, IsByte z) (h : DMem w m O bs ts) (hv : Lies w (.slice ad xs.length cs) xs O) :
    Calls Tryd.prog 40 #[.pointer (some ⟨m, 0, none⟩), .int .i64 a, .slice ad X cs] w fun e w' => e = .returned .nilIface ∧ DMem w' m O (putAt bs a.toNat xs) (offAt ts a.toNat xs.length) ∧ KeepBut O w w' := by
  subst hX
  have hM := h.most
  refine (dstore_any a (by unfold In64; omega) _ xs hx h hv).mono ?_
  rintro e w' ⟨u, rfl, h⟩
  rcases h with ⟨hn, _⟩ | ⟨_, rfl, hD, hB⟩
  · exfalso
    simp [reachB] at hn
    omega
  · exact ⟨rfl, hD, hB⟩
end Go.Proofs.YtgfoohiaioojoaaDoor
