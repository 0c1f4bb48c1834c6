/- Same. -/
import Derived.Test.YtnnelghngekbpaaDoorDevEqual
import Derived.Test.YtnnelghngekbpaaDoorRel
namespace Go.Proofs.YtnnelghngekbpaaDoor
set_option linter.unusedVariables false
set_option linter.unusedSimpArgs false
open Go.RowKit Go.Deep
variable {w : World} {m : Nat} {O : Nat → Prop} {bs : List Int} {ts : List Bool}
set_option maxRecDepth 100000 in
set_option maxHeartbeats 1000000 in
theorem dsame_any {m2 : Nat} {O2 : Nat → Prop} {bs2 : List Int} {ts2 : List Bool} (h : DMem w m O bs ts) (h2 : DMem w m2 O2 bs2 ts2) :
    Calls Tryd.prog 22 #[ptrV m, ptrV m2] w fun e w' => e = .returned (.bool (decide (bs = bs2) && decide (ts = ts2))) ∧ Keep w w' := by
  obtain ⟨gb, gt, cb, ct, hr, rfl⟩ := h
  obtain ⟨gb2, gt2, cb2, ct2, hr2, rfl⟩ := h2
  unfold ptrV
  have hM := hr.most
  have hM2 := hr2.most
  have hT : ts.length ≤ 65536 := by have := hr.len; omega
  have hT2 : ts2.length ≤ 65536 := by have := hr2.len; omega
  have BP := Lib.hid hr.box
  have BP2 := Lib.hid hr2.box
  have HR := Lib.hid hr
  have HR2 := Lib.hid hr2
  have C8 := Lib.hid (fun W (k : Keep w W) => equal8 gb 0 cb gb2 0 cb2 bs bs2 W hM hM2 (fun j hj => by rw [Nat.zero_add]; exact (HR.out.keep k).cell hj) (fun j hj => by rw [Nat.zero_add]; exact (HR2.out.keep k).cell hj))
  have CB := Lib.hid (fun W (k : Keep w W) => equalb gt 0 ct gt2 0 ct2 ts ts2 W hT hT2 (fun j hj => by rw [Nat.zero_add]; exact (HR.out.keep k).tag hj) (fun j hj => by rw [Nat.zero_add]; exact (HR2.out.keep k).tag hj))
  have lp := hr.box.lt
  have lp2 := hr2.box.lt
  obtain ⟨b1, hb1⟩ : ∃ b1, b1 = decide (bs = bs2) := ⟨_, rfl⟩
  obtain ⟨b2, hb2⟩ : ∃ b2, b2 = decide (ts = ts2) := ⟨_, rfl⟩
  rw [← hb1] at C8 ⊢
  rw [← hb2] at CB ⊢
  clear hr hr2 hb1 hb2 HR HR2
  go_enter Tryd.func22, Tryd.ntmps22
  go_wp2_with fail
  cases b1
  all_goals (
    refine region_grows (Keep _) (by kernel_rfl) (by kernel_rfl) (Keep.refl _).drew ?_
    repeat (first
      | (apply text_pass (by rfl)
         go_simp)
      | (apply text_step (by rfl)
         · intro W hW
           have c0 := (BP.out.keep hW).cells
           have c1 := (BP2.out.keep hW).cells
           go_simp
           first
             | exact ⟨rfl, hW⟩
             | (apply yes_enter; go_at_call 42; refine (C8.out _ hW).mono ?_; rintro e w' ⟨rfl, hk⟩; exact ⟨rfl, hW.trans hk⟩)
             | (apply yes_enter; go_at_call 43; refine (CB.out _ hW).mono ?_; rintro e w' ⟨rfl, hk⟩; exact ⟨rfl, hW.trans hk⟩)
         go_simp))
    apply text_end
    intro W hW
    go_wp2_with fail
    go_ret
    exact ⟨rfl, hW⟩)
end Go.Proofs.YtnnelghngekbpaaDoor
