/- Package mem: unless, first, holds, begins, Size. -/
import Derived.Test.YtnnelghngekbpaaDoorDevErr
namespace Go.Proofs.YtnnelghngekbpaaDoor
set_option linter.unusedVariables false
set_option linter.unusedSimpArgs false
open Go.RowKit
theorem unless_well (part : ByteArray) (a n : Int) (w : World) : Calls Tryd.prog 30 #[.bool true, .string part, .int .i64 a, .int .i64 n] w fun e w' => e = .returned .nilIface ∧ Keep w w' := by
  go_enter Tryd.func30, Tryd.ntmps30
  go_wp2_with fail
  go_ret
  exact ⟨rfl, Keep.refl _⟩
theorem unless_not (part : ByteArray) (a n : Int) (w : World) : Calls Tryd.prog 30 #[.bool false, .string part, .int .i64 a, .int .i64 n] w fun e w' => ∃ q, e = .returned (faultP q) ∧ Box w' q #[.string part, .int .i64 a, .iface 74 (.int .i64 n)] ∧ w.heap.size ≤ q ∧ Keep w w' := by
  unfold faultP
  go_enter Tryd.func30, Tryd.ntmps30
  go_wp2_with fail
  go_ret
  exact ⟨w.heap.size, rfl, Box.new _ _ _, Nat.le_refl _, (Keep.refl _).alloc _⟩
theorem unless_any (well : Bool) (part : ByteArray) (a n : Int) (hn : ¬ n = 0) (w : World) : Calls Tryd.prog 30 #[.bool well, .string part, .int .i64 a, .int .i64 n] w fun e w' => ∃ v, e = .returned v ∧ ErrV w' v (if well = true then okV else wrongV part a n) ∧ Keep w w' := by
  cases well
  · refine (unless_not part a n w).mono ?_
    rintro e w' ⟨q, rfl, hB, _, hk⟩
    exact ⟨_, rfl, .inr ⟨q, part, a, n, hn, rfl, rfl, hB⟩, hk⟩
  · refine (unless_well part a n w).mono ?_
    rintro e w' ⟨rfl, hk⟩
    exact ⟨_, rfl, .isOk, hk⟩
set_option maxHeartbeats 1000000 in
theorem first_nn (b : Nat) (w : World) (hB : Box w b #[.nilIface, .nilIface]) : Calls Tryd.prog 29 #[.slice (some ⟨b, 0, none⟩) 2 2] w fun e w' => e = .returned .nilIface ∧ Keep w w' := by
  have lb := hB.lt
  have c0 := hB.cells
  go_enter Tryd.func29, Tryd.ntmps29
  go_wp2_with fail
  refine wp_loop_rounds 3 ?_
  rw [rounds_succ]
  go_wp2_with (go_at_call 31; refine (as_nil _ _).mono ?_; rintro e w' ⟨rfl, rfl⟩)
  rw [rounds_succ]
  go_wp2_with (go_at_call 31; refine (as_nil _ _).mono ?_; rintro e w' ⟨rfl, rfl⟩)
  rw [rounds_succ]
  go_wp2_with fail
  go_ret
  exact ⟨rfl, ((Keep.refl _).alloc _).alloc _⟩
/-- errors.As at a variable that was just made. -/
theorem as_fresh (q F : Nat) (w : World) (hF : F = w.heap.size) (hE : ErrT w) :
    Calls Tryd.prog 31 #[.iface 77 (.pointer (some ⟨q, 0, none⟩)), .iface 79 (.pointer (some ⟨F, 0, none⟩))] (w.alloc (.cells #[.pointer none] 77)) fun e w' => e = .returned (.bool true) ∧ Keep w w' ∧ Box w' F #[.pointer (some ⟨q, 0, none⟩)] := by
  subst hF
  refine (as_once w.heap.size q (.pointer none) _ (hE.keep ((Keep.refl _).alloc _)) (Box.new _ _ _) (Nat.ne_of_gt hE.lt)).mono ?_
  rintro e w' ⟨rfl, hs, hB⟩
  refine ⟨rfl, ?_, hB⟩
  exact Keep.butNew ((Keep.refl w).alloc _) hs.1 (fun x hx => by subst hx; exact Nat.le_refl _)
set_option maxHeartbeats 1000000 in
theorem first_f (q b : Nat) (v : Value) (w : World) (hB : Box w b #[faultP q, v]) (hE : ErrT w) : Calls Tryd.prog 29 #[.slice (some ⟨b, 0, none⟩) 2 2] w fun e w' => e = .returned (faultP q) ∧ Keep w w' := by
  unfold faultP at hB ⊢
  have lb := hB.lt
  have c0 := hB.cells
  have HE := Lib.hid hE
  clear hE
  go_enter Tryd.func29, Tryd.ntmps29
  go_wp2_with fail
  refine wp_loop_rounds 3 ?_
  rw [rounds_succ]
  go_wp2_with fail
  go_at_call 31
  refine (as_fresh q _ _ rfl HE.out).mono ?_
  rintro e w' ⟨rfl, hk, hF⟩
  have cF := hF.cells
  have HK := Lib.hid hk
  clear hk
  go_wp2_with fail
  go_ret
  exact ⟨rfl, HK.out⟩
set_option maxHeartbeats 1000000 in
theorem first_nf (q b : Nat) (w : World) (hB : Box w b #[.nilIface, faultP q]) (hE : ErrT w) : Calls Tryd.prog 29 #[.slice (some ⟨b, 0, none⟩) 2 2] w fun e w' => e = .returned (faultP q) ∧ Keep w w' := by
  unfold faultP at hB ⊢
  have lb := hB.lt
  have c0 := hB.cells
  have HE := Lib.hid hE
  clear hE
  go_enter Tryd.func29, Tryd.ntmps29
  go_wp2_with fail
  refine wp_loop_rounds 3 ?_
  rw [rounds_succ]
  go_wp2_with (go_at_call 31; refine (as_nil _ _).mono ?_; rintro e w' ⟨rfl, rfl⟩)
  rw [rounds_succ]
  go_wp2_with fail
  go_at_call 31
  refine (as_fresh q _ (w.alloc (.cells #[.pointer none] 77)) (by simp) (HE.out.keep ((Keep.refl _).alloc _))).mono ?_
  rintro e w' ⟨rfl, hk, hF⟩
  have cF := hF.cells
  have HK := Lib.hid (((Keep.refl w).alloc _).trans hk)
  clear hk
  go_wp2_with fail
  go_ret
  exact ⟨rfl, HK.out⟩
/-- The first of two that is told. -/
theorem first_any (b : Nat) (v1 v2 e1 e2 : Value) (w : World) (hB : Box w b #[v1, v2]) (hE : ErrT w) (h1 : ErrV w v1 e1) (h2 : ErrV w v2 e2) : Calls Tryd.prog 29 #[.slice (some ⟨b, 0, none⟩) 2 2] w fun e w' => ∃ v, e = .returned v ∧ Keep w w' ∧ ((e1 = okV ∧ ErrV w' v e2) ∨ (e1 ≠ okV ∧ ErrV w' v e1)) := by
  rcases h1 with ⟨rfl, rfl⟩ | ⟨q, part, a, n, hn, rfl, rfl, hq⟩
  · rcases h2 with ⟨rfl, rfl⟩ | ⟨q, part, a, n, hn, rfl, rfl, hq⟩
    · refine (first_nn b w hB).mono ?_
      rintro e w' ⟨rfl, hk⟩
      exact ⟨_, rfl, hk, .inl ⟨rfl, .isOk⟩⟩
    · refine (first_nf q b w hB hE).mono ?_
      rintro e w' ⟨rfl, hk⟩
      exact ⟨_, rfl, hk, .inl ⟨rfl, .inr ⟨q, part, a, n, hn, rfl, rfl, hq.keep hk⟩⟩⟩
  · refine (first_f q b v2 w hB hE).mono ?_
    rintro e w' ⟨rfl, hk⟩
    exact ⟨_, rfl, hk, .inr ⟨fun h => hn (okV_wrong h.symm), .inr ⟨q, part, a, n, hn, rfl, rfl, hq.keep hk⟩⟩⟩
theorem rsize_any {w : World} {m gb gt cb ct : Nat} {bs : List Int} {ts : List Bool} (h : DM w m gb gt cb ct bs ts) : Calls Tryd.prog 28 #[.pointer (some ⟨m, 0, none⟩)] w fun e w' => e = .returned (.int .i64 (bs.length : Int)) ∧ Keep w w' := by
  have hM := h.most
  have B := h.box
  have lb := B.lt
  have c0 := B.cells
  clear h B
  go_enter Tryd.func28, Tryd.ntmps28
  go_wp2_with fail
  go_ret
  exact ⟨rfl, Keep.refl _⟩
set_option maxHeartbeats 1000000 in
theorem holds_any {m gb gt cb ct : Nat} {bs : List Int} {ts : List Bool} (a n : Int) (ha : In64 a) (hn : In64 n) (w : World) (h : DM w m gb gt cb ct bs ts) :
    Calls Tryd.prog 33 #[.pointer (some ⟨m, 0, none⟩), .int .i64 a, .int .i64 n] w fun e w' => ∃ v, e = .returned v ∧ ErrV w' v (reachV a n bs.length) ∧ Keep w w' := by
  have hM := h.most
  obtain ⟨L, hLe⟩ : ∃ L, L = bs.length := ⟨_, rfl⟩
  have CS := Lib.hid (fun W (k : Keep w W) => rsize_any (h.keep k))
  rw [← hLe] at hM CS ⊢
  unfold In64 at ha hn
  clear h hLe
  go_enter Tryd.func33, Tryd.ntmps33
  go_wp2_with (go_at_call 28; refine (CS.out _ (Keep.refl _)).mono ?_; rintro e w1 ⟨rfl, hk1⟩)
  all_goals (
    refine (unless_any _ _ a 6 (by decide) _).mono ?_
    rintro e w2 ⟨v, rfl, hv, hk2⟩
    have HV := Lib.hid hv
    have HK := Lib.hid hk2
    clear hv hk2
    go_wp2_with fail
    go_ret
    refine ⟨v, rfl, ?_, ?_⟩
    · have hv := HV.out
      first
        | (rw [if_neg (by decide)] at hv
           rw [show reachV a n L = rangeV a by unfold reachV; rw [if_neg (by simp [reachB]; omega)]]
           exact hv)
        | (rw [show reachV a n L = if decide (n ≤ (L : Int) - a) = true then okV else rangeV a by
             unfold reachV
             by_cases h : n ≤ (L : Int) - a
             · rw [if_pos (by simp [reachB]; omega), if_pos (by simp; omega)]
             · rw [if_neg (by simp [reachB]; omega), if_neg (by simp; omega)]]
           exact hv)
    · first | exact HK.out | exact hk1.trans HK.out)
theorem tmod16 (a : Int) : a.tmod 16 = 0 ↔ a % 16 = 0 := by rw [← Int.dvd_iff_tmod_eq_zero, Int.dvd_iff_emod_eq_zero]
/-- No granule begins there, or it does. -/
theorem begins_any {m gb gt cb ct : Nat} {bs : List Int} {ts : List Bool} (a : Int) (ha : In64 a) (w : World) (h : DM w m gb gt cb ct bs ts) (hE : ErrT w) :
    Calls Tryd.prog 35 #[.pointer (some ⟨m, 0, none⟩), .int .i64 a] w fun e w' => ∃ v, e = .returned v ∧ ErrV w' v (granV bs.length a) ∧ Keep w w' := by
  have C := Lib.hid (holds_any a 16 ha (by unfold In64; decide) w h)
  have HE := Lib.hid hE
  obtain ⟨L, hLe⟩ : ∃ L, L = bs.length := ⟨_, rfl⟩
  rw [← hLe] at C ⊢
  unfold In64 at ha
  clear h hLe hE
  go_enter Tryd.func35, Tryd.ntmps35
  go_wp2_with fail
  refine C.out.mono ?_
  rintro e w1 ⟨v1, rfl, hv1, hk1⟩
  have V1 := Lib.hid hv1
  have K1 := Lib.hid hk1
  clear hv1 hk1
  go_wp2_with fail
  · (
    refine (unless_any _ _ a 5 (by decide) _).mono ?_
    rintro e w2 ⟨v2, rfl, hv2, hk2⟩
    have V2 := Lib.hid hv2
    have K2 := Lib.hid (K1.out.trans hk2)
    have U2 := Lib.hid (V1.out.keep hk2)
    clear hv2 hk2 K1 V1
    obtain ⟨e1, he1⟩ : ∃ e1, e1 = reachV a 16 L := ⟨_, rfl⟩
    obtain ⟨e2, he2⟩ : ∃ e2, e2 = (if (a.tmod 16 == 0) = true then okV else wrongV ⟨#[109, 101, 109]⟩ a 5) := ⟨_, rfl⟩
    rw [← he1] at U2
    rw [← he2] at V2
    have HR : Hid (∀ e3, ((e1 = okV ∧ e3 = e2) ∨ (e1 ≠ okV ∧ e3 = e1)) → e3 = granV L a) := Lib.hid (by
      rintro e3 (⟨h1, rfl⟩ | ⟨h1, rfl⟩)
      · rw [he1] at h1
        rw [he2]
        unfold granV
        by_cases hr : reachB a 16 L = true
        · rw [if_pos hr]
          by_cases hm : a % 16 = 0
          · rw [if_pos hm, if_pos (by rw [beq_iff_eq]; exact (tmod16 a).2 hm)]
          · rw [if_neg hm, if_neg (by rw [beq_iff_eq]; exact fun h => hm ((tmod16 a).1 h))]
            rfl
        · unfold reachV at h1
          rw [if_neg hr] at h1
          exact absurd (okV_wrong h1.symm) (by decide)
      · rw [he1] at h1 ⊢
        unfold granV
        unfold reachV at h1 ⊢
        by_cases hr : reachB a 16 L = true
        · rw [if_pos hr] at h1; exact absurd rfl h1
        · rw [if_neg hr, if_neg hr])
    clear he1 he2
    have f1 : v1 = .nilIface ∨ ∃ q, v1 = faultP q := by
      rcases U2.out with ⟨_, h⟩ | ⟨q, _, _, _, _, _, h, _⟩
      · exact .inl h
      · exact .inr ⟨q, h⟩
    have f2 : v2 = .nilIface ∨ ∃ q, v2 = faultP q := by
      rcases V2.out with ⟨_, h⟩ | ⟨q, _, _, _, _, _, h, _⟩
      · exact .inl h
      · exact .inr ⟨q, h⟩
    unfold faultP at f1 f2
    rcases f1 with rfl | ⟨q1, rfl⟩ <;> rcases f2 with rfl | ⟨q2, rfl⟩
    all_goals (
    go_wp2_with fail
    refine (first_any _ _ _ e1 e2 _ (Box.new _ _ _) (HE.out.keep (K2.out.alloc _)) (U2.out.keep ((Keep.refl _).alloc _)) (V2.out.keep ((Keep.refl _).alloc _))).mono ?_
    rintro e w3 ⟨v, rfl, hk3, hv⟩
    have K3 := Lib.hid ((K2.out.alloc _).trans hk3)
    have V3 := Lib.hid hv
    clear hk3 hv
    go_wp2_with fail
    go_ret
    refine ⟨v, rfl, ?_, K3.out⟩
    rcases V3.out with ⟨h1, h2⟩ | ⟨h1, h2⟩
    · rw [← HR.out e2 (.inl ⟨h1, rfl⟩)]; exact h2
    · rw [← HR.out e1 (.inr ⟨h1, rfl⟩)]; exact h2))
end Go.Proofs.YtnnelghngekbpaaDoor
