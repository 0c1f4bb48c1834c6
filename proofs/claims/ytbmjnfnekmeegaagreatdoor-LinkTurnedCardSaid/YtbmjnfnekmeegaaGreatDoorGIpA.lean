/- ImgPFau: The program's fault: an Errno of a part, or nothing; what a check answers. -/
import Derived.Test.YtbmjnfnekmeegaaGreatDoorGRdrC
/- The program's fault: an Errno of a part, or nothing; what a check answers. -/
namespace Go.Proofs.YtbmjnfnekmeegaaGreatDoor
set_option linter.unusedVariables false
set_option linter.unusedSimpArgs false
open Go.RowKit Go.Extern.Stop Go.Stop Go.Extern
theorem ifault_zero (part : ByteArray) (at_ : Int) (w : World) :
    Calls Tryz.prog 93 #[.string part, .int .i64 at_, .int .i64 0] w fun e w' => e = .returned .nilIface ∧ Keep w w' := by
  go_enter Tryz.func93, Tryz.ntmps93
  go_wp2_with fail
  refine (is_wrapped _ part at_ 0 _ (Box.new _ _ _)).mono ?_
  rintro e w1 ⟨rfl, hk1⟩
  go_wp2_with fail
  go_ret
  exact ⟨rfl, ((Keep.refl _).alloc _).trans hk1⟩
theorem ifault_not (part : ByteArray) (at_ n : Int) (hn : ¬ n = 0) (w : World) :
    Calls Tryz.prog 93 #[.string part, .int .i64 at_, .int .i64 n] w fun e w' => ∃ q, e = .returned (faultP q) ∧ w.heap.size ≤ q ∧ Box w' q #[.string part, .int .i64 at_, .iface 139 (.int .i64 n)] ∧ Keep w w' := by
  unfold faultP
  go_enter Tryz.func93, Tryz.ntmps93
  go_wp2_with fail
  refine (is_otherO _ part at_ n 0 hn _ (Box.new _ _ _)).mono ?_
  rintro e w1 ⟨rfl, hk1⟩
  have B1 := (Box.new w #[.string part, .int .i64 at_, .iface 139 (.int .i64 n)] 124).keep hk1
  go_wp2_with fail
  go_ret
  exact ⟨_, rfl, Nat.le_refl _, B1, ((Keep.refl _).alloc _).trans hk1⟩
theorem ifault_any (part : ByteArray) (at_ n : Int) (w : World) :
    Calls Tryz.prog 93 #[.string part, .int .i64 at_, .int .i64 n] w fun e w' => ∃ v, e = .returned v ∧ FauR part at_ n w' v ∧ Keep w w' := by
  by_cases hn : n = 0
  · subst hn
    refine (ifault_zero part at_ w).mono ?_
    rintro e w' ⟨rfl, hk⟩
    exact ⟨_, rfl, .inl ⟨rfl, rfl⟩, hk⟩
  · refine (ifault_not part at_ n hn w).mono ?_
    rintro e w' ⟨q, rfl, _, hB, hk⟩
    exact ⟨_, rfl, .inr ⟨q, hn, rfl, hB⟩, hk⟩
/-- What a check answers. -/
def IChk (w : World) (x : WrV) (e : Ending) (w' : World) : Prop := ∃ v, e = .returned v ∧ OErr w' v x ∧ Keep w w'
theorem FauR.ierr {part : ByteArray} {a n : Int} {w : World} {q : Nat} (hn : n ≠ 0) (hB : Box w q #[.string part, .int .i64 a, .iface 139 (.int .i64 n)]) : OErr w (faultP q) (part, a, n) :=
  .inr ⟨q, part, a, n, hn, rfl, rfl, hB⟩
theorem IChk.nil {w w' : World} (k : Keep w w') : IChk w okW (.returned .nilIface) w' := ⟨_, rfl, .isOk, k⟩
theorem IChk.bad {w w' : World} {part : ByteArray} {a n : Int} {q : Nat} (hn : n ≠ 0) (hB : Box w' q #[.string part, .int .i64 a, .iface 139 (.int .i64 n)]) (k : Keep w w') : IChk w (part, a, n) (.returned (faultP q)) w' := ⟨_, rfl, FauR.ierr hn hB, k⟩
/-- Of an Errno: no error if it is OK. -/
def errW (t : ByteArray) (a n : Int) : WrV := if n = 0 then okW else (t, a, n)
theorem errW_zero (t : ByteArray) (a : Int) : errW t a 0 = okW := rfl
theorem errW_not {t : ByteArray} {a n : Int} (h : n ≠ 0) : errW t a n = (t, a, n) := if_neg h
/-- What fault answers is what a check answers. -/
theorem ifault_chk (part : ByteArray) (at_ n : Int) (w : World) : Calls Tryz.prog 93 #[.string part, .int .i64 at_, .int .i64 n] w (IChk w (errW part at_ n)) := by
  by_cases hn : n = 0
  · subst hn
    refine (ifault_zero part at_ w).mono ?_
    rintro e w' ⟨rfl, hk⟩
    exact IChk.nil hk
  · refine (ifault_not part at_ n hn w).mono ?_
    rintro e w' ⟨q, rfl, _, hB, hk⟩
    rw [errW_not hn]
    exact IChk.bad hn hB hk
end Go.Proofs.YtbmjnfnekmeegaaGreatDoor
