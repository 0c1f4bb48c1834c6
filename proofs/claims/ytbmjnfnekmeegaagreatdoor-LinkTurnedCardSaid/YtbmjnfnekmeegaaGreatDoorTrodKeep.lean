/- Arguments read again where nothing of theirs has changed. -/
import Derived.Test.YtbmjnfnekmeegaaGreatDoorChecked
import Derived.Test.YtbmjnfnekmeegaaGreatDoorGBase
import Derived.ProofKit
import Derived.OpenShut
import Derived.WideKeyArgs
import Derived.ChangeSlices
namespace Go.Proofs.YtbmjnfnekmeegaaGreatDoor
set_option linter.unusedVariables false
set_option linter.unusedSimpArgs false
open Go.ChangeShapes Go.WideShapes Go.ChangeAt Go.RowKit
open Go.WideElems (Trod_stays)

section
variable {H : Type} {enc : TypeId × Value → H} {W W' : World} {base : Nat}
/-- Arguments that may be read at all are read again in any world that keeps what was there. -/
theorem trodAll_keep {sp' : Nat → Bool} (hl : laidOutB Tryz.prog = true) (hk : Keep W W') : ∀ {ts : List TypeId} {vs : List Value} {ds : List (DataW H)} {ps : List MemPlace},
    (∀ t ∈ ts, Tryz.prog.readableRec t = true ∧ t < Tryz.prog.types.size) → DataW.TrodAll enc Tryz.prog W base (fun _ => true) true ts vs ds ps → (∀ p ∈ ps, p.block < W.heap.size) → (∀ p ∈ ps, sp' p.block = true) →
    DataW.TrodAll enc Tryz.prog W' base sp' true ts vs ds ps
  | [], _, _, _, _, h, _, _ => by
    obtain ⟨rfl, rfl, rfl⟩ := trodAll_nil h
    exact trodAll_mk0
  | t :: ts, _, _, _, hr, h, hlt, hs => by
    obtain ⟨v, vs1, d, ds1, a, b, rfl, rfl, rfl, h1, h2⟩ := trodAll_cons h
    refine ⟨a, b, Trod_stays hl (hr t (by simp)).1 (hr t (by simp)).2 h1 (fun p hp => ?_) (fun p hp => hs p (by simp [hp])), trodAll_keep hl hk (fun t' ht' => hr t' (by simp [ht'])) h2 (fun p hp => hlt p (by simp [hp])) (fun p hp => hs p (by simp [hp])), rfl⟩
    have hb := hlt p (by simp [hp])
    cases p with
    | cell b off => exact Below.cell hk hb
    | map b => exact Below.block hk b hb
end
end Go.Proofs.YtbmjnfnekmeegaaGreatDoor
