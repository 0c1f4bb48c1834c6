/- hasp/hasplaw3.PackSame: for every input the law answers true, and each argument reads behind the call as it read before. CONDITIONS: none. -/
import Derived.Test.YteognnpjagophaaRows
import Derived.Test.YteognnpjagophaaCapData
import Derived.Test.YteognnpjagophaaB16Data
import Derived.Test.YteognnpjagophaaPackSame
import Derived.WalkKit
import Derived.ProofKit
import Derived.OpenShut
import Derived.ShutString
namespace Go.Proofs.Yteognnpjagophaa.packSame
set_option linter.unusedVariables false
set_option linter.unusedSimpArgs false
open Go.ChangeShapes Go.WideShapes Go.ChangeAt Go.RowKit
open Go.ChangeMaps (open_string shut_string)

theorem own : ownKnob Try.prog.godebug = none := by kernel_rfl
set_option maxRecDepth 100000 in
theorem lifted (os : Os) (started : os.Started) (H : Type) (enc : TypeId × Value → H) :
    ReturnsInHanded {} Try.checked os 5 .any (Rows.packSameSpec.pre6 enc Try.prog Try.f5 Rows.packSameRow.domain false) (Rows.packSameSpec.post enc Try.prog Try.f5 false true false false) := by
  refine returnsInHanded_of_change (C := Try.checked) own started (by kernel_rfl) Try.func5
    (ChangeSpec.witness6 (enc := enc) (C := Try.checked) false ⟨#[], #[.agg #[.bool false, .int .u32 0, .int .u32 0, .int .u32 0, .int .u16 0, .int .u16 0], .agg #[.bool false, .int .u32 0, .int .u32 0, .int .u32 0, .int .u16 0, .int .u16 0]], []⟩ 8 (by kernel_rfl) (by kernel_rfl) (by kernel_rfl) (by kernel_rfl)) ?_
  intro W base args ds gs before hval0 hW hcnd _
  have hval : ∀ (j : Nat) t v, Try.f5.params[j]? = some t → args[j]? = some v → Value.okWide Try.prog W .any base t v := hval0
  have hW' := hW
  obtain ⟨p, q, hA0, hV, rfl, hfz, hnd⟩ := hW
  have hA : DataW.TrodAll enc Try.prog W 0 (fun _ => true) true Try.f5.params.toList args.toList ds p := hA0
  rw [Try.params5] at hA hval
  obtain ⟨v0, vs0, d0, ds0, p0, q0, hargs, rfl, rfl, h0, r0⟩ := trodAll_cons hA
  obtain ⟨v1, vs1, d1, ds1, p1, q1, rfl, rfl, rfl, h1, r1⟩ := trodAll_cons r0
  obtain ⟨rfl, rfl, rfl⟩ := trodAll_nil r1
  obtain rfl : args = #[v0, v1] := by cases args; simp_all
  obtain ⟨rfl, rfl⟩ := trodVars_none hV
  obtain ⟨t0_, b0_, p0_, a0_, m0_, y0_, rfl, rfl, rfl, w0_b, w0_p, w0_a, w0_m, w0_y⟩ := open_cap (hval 0 25 v0 rfl rfl) h0
  obtain ⟨t1_, b1_, p1_, a1_, m1_, y1_, rfl, rfl, rfl, w1_b, w1_p, w1_a, w1_m, w1_y⟩ := open_cap (hval 1 25 v1 rfl rfl) h1
  clear hA0 hval0
  simp only [List.append_nil] at hW'
  refine (packSame_walk t0_ b0_ p0_ a0_ m0_ y0_ t1_ b1_ p1_ a1_ m1_ y1_ (bounds_u32 w0_b) (bounds_u32 w0_p) (bounds_u32 w0_a) (bounds_u16 w0_m) (bounds_u16 w0_y) (bounds_u32 w1_b) (bounds_u32 w1_p) (bounds_u32 w1_a) (bounds_u16 w1_m) (bounds_u16 w1_y) W).mono fun e W' hp => ?_
  obtain ⟨he, hg⟩ := hp
  subst he
  exact ⟨_, rfl, _, _, _, [], [], [], hW', trodAll_cons_mk (shut_bool Try.underlying4 _) trodAll_mk0, (trodAll_cons_mk (shut_cap _ w0_b w0_p w0_a w0_m w0_y) (trodAll_cons_mk (shut_cap _ w1_b w1_p w1_a w1_m w1_y) trodAll_mk0)), rfl, Below.frame hg _, fun h => by cases h⟩

theorem over : Rows.packSameRow.holds Try.pinned (OpenSpec.ofChange Rows.packSameSpec) :=
  OpenClaim.holds_of_wide 5 Try.f5 rfl rfl rfl rfl rfl rfl rfl ⟨rfl, rfl, rfl, rfl, rfl⟩ rfl rfl rfl rfl rfl (by kernel_rfl) Try.func5 (by kernel_rfl)
    (of_decide_eq_true (by kernel_rfl)) (by unfold Func.isWrapper; first | (rw [if_pos (by decide +kernel)]; kernel_rfl) | (rw [if_neg (by decide +kernel)]; exact ⟨rfl, rfl⟩))
    (fun os started H enc _ => lifted os started H enc)
/-- THE STATEMENT. -/
theorem proved : Rows.PackSameSaid := over
end Go.Proofs.Yteognnpjagophaa.packSame
