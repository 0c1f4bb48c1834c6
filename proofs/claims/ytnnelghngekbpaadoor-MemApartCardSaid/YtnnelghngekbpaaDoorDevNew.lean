/- mem.New. -/
import Derived.Test.YtnnelghngekbpaaDoorDevFns
namespace Go.Proofs.YtnnelghngekbpaaDoor
set_option linter.unusedVariables false
set_option linter.unusedSimpArgs false
open Go.RowKit Go.Deep
/-- What is wrong with a size: its bounds, its granules. -/
def sz1 (size : Int) : Value := if 16 ≤ size ∧ size ≤ 65536 then okV else sizeV size 6
def sz2 (size : Int) : Value := if size % 16 = 0 then okV else sizeV size 5
theorem sizeV_ok {size n : Int} (hn : ¬ n = 0) : sizeV size n ≠ okV := fun h => hn (okV_wrong (part := ⟨#[115, 105, 122, 101]⟩) (at_ := size) h.symm)
set_option maxHeartbeats 1000000 in
theorem dnew_bad (size : Int) (hs : In64 size) (n : Int) (hn : (size < 16 ∨ 65536 < size) ∧ n = 6 ∨ (16 ≤ size ∧ size ≤ 65536) ∧ ¬ size % 16 = 0 ∧ n = 5) (w : World) (hE : ErrT w) :
    Calls Tryd.prog 8 #[.int .i64 size] w fun e w' => ∃ v, e = .returned (.tuple #[.pointer none, v]) ∧ ErrV w' v (sizeV size n) ∧ Keep w w' := by
  have HE := Lib.hid hE
  have HN : Hid (∀ e3, ((sz1 size = okV ∧ e3 = sz2 size) ∨ (sz1 size ≠ okV ∧ e3 = sz1 size)) → e3 = sizeV size n) := Lib.hid (by
    unfold sz1 sz2
    rintro e3 (⟨h1, rfl⟩ | ⟨h1, rfl⟩)
    · rcases hn with ⟨h, rfl⟩ | ⟨h, hm, rfl⟩
      · rw [if_neg (by omega)] at h1; exact absurd h1 (sizeV_ok (by decide))
      · rw [if_neg hm]
    · rcases hn with ⟨h, rfl⟩ | ⟨h, hm, rfl⟩
      · rw [if_neg (by omega)]
      · rw [if_pos (by omega)] at h1; exact absurd rfl h1)
  have HZ : Hid (¬ n = 0) := Lib.hid (by omega)
  unfold In64 at hs
  clear hE hn
  go_enter Tryd.func8, Tryd.ntmps8
  go_wp2_with fail
  all_goals (
    refine (unless_any _ ⟨#[115, 105, 122, 101]⟩ size 6 (by decide) _).mono ?_
    rintro e w1 ⟨v1, rfl, hv1, hk1⟩
    have V1 : Hid (ErrV w1 v1 (sz1 size)) := Lib.hid (by
      have h := hv1
      unfold sz1
      first
        | (rw [if_neg (by decide)] at h
           rw [if_neg (by omega)]
           exact h)
        | (by_cases q : size ≤ 65536
           · rw [if_pos (decide_eq_true q)] at h
             rw [if_pos (by omega)]
             exact h
           · rw [if_neg (by simpa using q)] at h
             rw [if_neg (by omega)]
             exact h))
    have K1 := Lib.hid hk1
    clear hv1 hk1
    go_wp2_with fail
    refine (unless_any _ ⟨#[115, 105, 122, 101]⟩ size 5 (by decide) _).mono ?_
    rintro e w2 ⟨v2, rfl, hv2, hk2⟩
    have V2 : Hid (ErrV w2 v2 (sz2 size)) := Lib.hid (by
      have h := hv2
      unfold sz2
      by_cases q : size % 16 = 0
      · rw [if_pos (by rw [beq_iff_eq]; first | exact q | exact (tmod16 size).2 q)] at h
        rw [if_pos q]
        exact h
      · rw [if_neg (by rw [beq_iff_eq]; first | exact q | exact fun h => q ((tmod16 size).1 h))] at h
        rw [if_neg q]
        exact h)
    have K2 := Lib.hid (K1.out.trans hk2)
    have U2 := Lib.hid (V1.out.keep hk2)
    clear hv2 hk2 K1 V1
    have f1 : v1 = .nilIface ∨ ∃ q, v1 = faultP q := by
      rcases U2.out with ⟨_, h⟩ | ⟨q, _, _, _, _, _, h, _⟩
      · exact .inl h
      · exact .inr ⟨q, h⟩
    have f2 : v2 = .nilIface ∨ ∃ q, v2 = faultP q := by
      rcases V2.out with ⟨_, h⟩ | ⟨q, _, _, _, _, _, h, _⟩
      · exact .inl h
      · exact .inr ⟨q, h⟩
    unfold faultP at f1 f2
    rcases f1 with rfl | ⟨q1, rfl⟩ <;> rcases f2 with rfl | ⟨q2, rfl⟩
    all_goals (
      go_wp2_with fail
      refine (first_any _ _ _ (sz1 size) (sz2 size) _ (Box.new _ _ _) (HE.out.keep (K2.out.alloc _)) (U2.out.keep ((Keep.refl _).alloc _)) (V2.out.keep ((Keep.refl _).alloc _))).mono ?_
      rintro e w3 ⟨v, rfl, hk3, hv⟩
      have K3 := Lib.hid ((K2.out.alloc _).trans hk3)
      have V3 : ErrV w3 v (sizeV size n) := by
        rcases hv with ⟨h1, h2⟩ | ⟨h1, h2⟩
        · rw [← HN.out _ (.inl ⟨h1, rfl⟩)]; exact h2
        · rw [← HN.out _ (.inr ⟨h1, rfl⟩)]; exact h2
      obtain ⟨q, rfl⟩ := V3.fault (sizeV_ok HZ.out)
      have V4 := Lib.hid V3
      clear hk3 hv V3
      unfold faultP
      go_wp2_with fail
      refine bodyPost_ret (v := .tuple #[.pointer none, .iface 77 (.pointer (some ⟨q, 0, none⟩))]) (by simp [results, Tryd.results8, go_sem]; done) rfl ⟨_, rfl, V4.out, K3.out⟩))
set_option maxRecDepth 100000 in
set_option maxHeartbeats 1000000 in
theorem dnew_good (N M : Nat) (h1 : 16 ≤ N) (h2 : N ≤ 65536) (h3 : N = 16 * M) (w : World) (hE : ErrT w) :
    Calls Tryd.prog 8 #[.int .i64 N] w fun e w' => ∃ m O, e = .returned (.tuple #[ptrV m, .nilIface]) ∧ DMem w' m O (List.replicate N 0) (List.replicate M false) ∧ Keep w w' ∧ ∀ b, O b → w.heap.size ≤ b := by
  unfold ptrV
  have HE := Lib.hid hE
  have hmk1 := run_make_row' (P := Tryd.prog) 35 5 (.int .u8 0) 1 Tryd.underlying35 infoU8 rfl .i64 .i64 N (by omega) (by omega)
  have hmk2 := run_make_row' (P := Tryd.prog) 59 4 (.bool false) 1 Tryd.underlying59 infoBool rfl .i64 .i64 M (by omega) (by omega)
  have hw : IntKind.i64.wrap ((N : Int) / 16) = (M : Int) := by rw [IntKind.wrap_i64]; omega
  have hmod : Hid ((N : Int) % 16 = 0) := Lib.hid (by omega)
  have b1 : (16 : Int) ≤ (N : Int) := by omega
  have b2 : (N : Int) ≤ 65536 := by omega
  have hd : (N : Int) / 16 = (M : Int) := by omega
  have H3 := Lib.hid h3
  clear h3 hE
  go_enter Tryd.func8, Tryd.ntmps8
  go_wp2_with fail
  refine (unless_any _ ⟨#[115, 105, 122, 101]⟩ N 6 (by decide) _).mono ?_
  rintro e w1 ⟨v1, rfl, hv1, hk1⟩
  rw [if_pos (by first | (simp; done) | (simp; omega))] at hv1
  obtain rfl := hv1.ok
  clear hv1
  go_wp2_with fail
  refine (unless_any _ ⟨#[115, 105, 122, 101]⟩ N 5 (by decide) _).mono ?_
  rintro e w2 ⟨v2, rfl, hv2, hk2⟩
  rw [if_pos (by rw [beq_iff_eq]; first | exact hmod.out | exact (tmod16 _).2 hmod.out)] at hv2
  obtain rfl := hv2.ok
  have K2 := Lib.hid (hk1.trans hk2)
  clear hv2 hk1 hk2
  go_wp2_with fail
  refine (first_nn _ _ (Box.new _ _ _)).mono ?_
  rintro e w3 ⟨rfl, hk3⟩
  have K3 := Lib.hid ((K2.out.alloc _).trans hk3)
  clear hk3 K2
  go_wp2_with fail
  go_region
  all_goals go_wp2_with fail
  · have ks := K3.out.size
    refine bodyPost_ret (v := .tuple #[.pointer (some ⟨w3.heap.size + 1 + 1, 0, none⟩), .nilIface]) (by simp [results, Tryd.results8, go_sem]; done) rfl ⟨_, _, rfl, ⟨_, _, _, _, DM.ofR (RMem.fresh ((Box.newAt _ _ _ _ (by simp)).drew) ((((Box.newAt _ _ _ _ (by simp)).alloc _).alloc _).drew) (((Box.newAt _ _ _ _ (by simp)).alloc _).drew) (by omega) (by omega) (by omega) H3.out h2), rfl⟩, (((K3.out.alloc _).alloc _).alloc _).drew, ?_⟩
    rintro b (rfl | rfl | rfl) <;> omega
  · have ks := K3.out.size
    refine bodyPost_ret (v := .tuple #[.pointer (some ⟨w3.heap.size + 1 + 1, 0, none⟩), .nilIface]) (by simp [results, Tryd.results8, go_sem]; done) rfl ⟨_, _, rfl, ⟨_, _, _, _, DM.ofR (RMem.fresh ((Box.newAt _ _ _ _ (by simp)).drew) (((Box.newAt _ _ _ _ (by simp)).alloc _).drew) ((((Box.newAt _ _ _ _ (by simp)).alloc _).alloc _).drew) (by omega) (by omega) (by omega) H3.out h2), rfl⟩, (((K3.out.alloc _).alloc _).alloc _).drew, ?_⟩
    rintro b (rfl | rfl | rfl) <;> omega
end Go.Proofs.YtnnelghngekbpaaDoor
